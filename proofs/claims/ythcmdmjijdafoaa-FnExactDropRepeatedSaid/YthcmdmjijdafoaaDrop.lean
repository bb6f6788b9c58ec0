/-
  Repeated addresses are dropped: maps by addresses that a call makes; what the program's own function returns. No statement is proved here.
-/
import Derived.Test.YthcmdmjijdafoaaDropS
import Derived.Test.YthcmdmjijdafoaaLaw0
import Derived.Maps.OwnOps
import Derived.Maps.Views
import Derived.Maps.Keyed
import Derived.DeepKeys4
import Derived.Deep.Cut
import Derived.Deep.AppendLies
namespace Go.Proofs.Ythcmdmjijdafoaa
open Go.RowKit Go.Maps Go.WideMaps

/-- A look-up of a bool in a map of the call's own. -/
theorem plainElem_bool_inv {H : Type} {P : Program} {e : TypeId} (he : P.underlying e = some .bool) {v : Value} {z : DataW H × List MemPlace} (h : plainElem P e v = some z) : ∃ b, v = .bool b ∧ z = (.lit (.bool b), []) := by
  unfold plainElem at h
  rw [he] at h
  cases v <;> simp at h
  subst h
  exact ⟨_, rfl, rfl⟩
theorem wpList_lookup_own_bool {H : Type} {P : Program} (w : World) {ops : Array Oper} {rest : List Oper} {o : Oper} {a : Act} {Q : Exit → Act → World → Prop}
    (hg : o.guard = none) (m x : Operand) (t : TypeId) (hop : o.op = Op.lookup t m x false)
    (k e : TypeId) (K : Keyed P k) (ht : P.underlying t = some (.map k e)) (he : P.underlying e = some .bool) (hz : (zeroValue e).run P w = .ok (.bool false) w) (b n : Nat) (D : DataW H)
    (hm : a.eval m = .map (some b)) (hown : w.ownsMap P k (plainElem P e) b n D) (key : Value) (kl : Lit) (hx : a.eval x = key) (hkey : keyOf P k key = some kl)
    (hK : ∀ c : Bool, D.atKey kl (.lit (.bool false)) = .lit (.bool c) → wpList P ops Q rest (a.put o.dst (.bool c)) w) :
    wpList P ops Q (o :: rest) a w := by
  refine wpList_plain hg fun K' hK' => ?_
  obtain ⟨v, ps, hrun, hv⟩ := hown.lookup K ht hz (plainElem_bool he false) hkey
  obtain ⟨c, rfl, hc⟩ := plainElem_bool_inv he hv
  simp only [Prod.mk.injEq] at hc
  unfold Oper.wp
  simp [execOp, hop, hm, hx, hrun, Result.andThen]
  exact hK' _ _ (hK c hc.1)
theorem key_reads3 {P : Program} {T S : TypeId} {f0 f1 f2 : Field} (hT : P.underlying T = some (.struct #[f0, f1, f2])) (t0 : f0.type = S) (t1 : f1.type = S) (t2 : f2.type = S) (o0 : f0.offset = 0) (o1 : f1.offset = 1) (o2 : f2.offset = 2)
    (n0 : (f0.name != "_") = true) (n1 : (f1.name != "_") = true) (n2 : (f2.name != "_") = true) (hS : P.underlying S = some .string) (cT : P.cellsOf T = 3) (cS : P.cellsOf S = 1) (hk : P.keyType T = true) (hr : T < P.types.size)
    {s0 s1 s2 : ByteArray} (h0 : s0.size ≤ maxLen) (h1 : s1.size ≤ maxLen) (h2 : s2.size ≤ maxLen) : ∃ l, keyOf P T (.agg #[.string s0, .string s1, .string s2]) = some l := by
  obtain ⟨n, hn⟩ := Nat.exists_eq_succ_of_ne_zero (Nat.ne_of_gt (Nat.lt_of_le_of_lt (Nat.zero_le _) hr))
  have e : ∀ (s : ByteArray), s.size ≤ maxLen → P.keyLits (n + 1) S [.string s] = some [.string s.data.toList] := fun s hs => by
    simp [Program.keyLits, hS, hs]
  have hl : P.keyLits (n + 1 + 1) T [.string s0, .string s1, .string s2] = some [.string s0.data.toList, .string s1.data.toList, .string s2.data.toList] := by
    rw [Program.keyLits.eq_def]
    simp only [hT]
    rw [if_pos ⟨by rw [cT]; rfl, by simp [n0, n1, n2]⟩]
    simp [t0, t1, t2, o0, o1, o2, cS, e s0 h0, e s1 h1, e s2 h2]
  unfold keyOf
  simp only [hT]
  rw [if_pos (by simp [hk, Value.formed, hT, cT]), hn]
  exact ⟨_, by rw [show (Value.agg #[Value.string s0, .string s1, .string s2]).cells.toList = [.string s0, .string s1, .string s2] from rfl, hl]; rfl⟩
theorem aRow : (29 : TypeId) < Try.prog.types.size := of_decide_eq_true (by kernel_rfl)
theorem aWide : (match Try.prog.underlying 29 with | some (.array _ _) | some (.struct _) => true | _ => false) = true := by rw [Try.underlying29]
theorem aKeyed : Keyed Try.prog 29 := Keyed.of_law (deep_law_laid laidOut (m := 2) (by omega) aRow (by kernel_rfl) aWide)
theorem aKeyType : Try.prog.keyType 29 = true := by kernel_rfl
theorem aCells : Try.prog.cellsOf 29 = 3 := by kernel_rfl
theorem sCells : Try.prog.cellsOf 9 = 1 := by kernel_rfl
theorem key_reads (s0 s1 s2 : ByteArray) (h0 : s0.size ≤ maxLen) (h1 : s1.size ≤ maxLen) (h2 : s2.size ≤ maxLen) : ∃ l, keyOf Try.prog 29 (.agg #[.string s0, .string s1, .string s2]) = some l :=
  key_reads3 Try.underlying29 rfl rfl rfl rfl rfl rfl (by decide) (by decide) (by decide) Try.underlying9 aCells sCells aKeyType aRow h0 h1 h2
/-- The key under which an address is noted. -/
def kV (y : Adr) : Value := .agg #[.string ⟨#[]⟩, .string (str y.loc), .string (lowS (str y.dom))]
theorem kV_same (x y : Adr) : sameB x y = true ↔ kV x = kV y := by
  have hs : ∀ u v : List UInt8, (str u = str v) ↔ u = v := fun u v => ⟨fun h => by rw [← str_list u, h, str_list], fun h => by rw [h]⟩
  have hl : ∀ u : List UInt8, lowS (str u) = str (low u) := fun u => by unfold lowS; rw [str_list]
  unfold sameB kV
  rw [hl, hl]
  simp only [Bool.and_eq_true, decide_eq_true_eq, Value.agg.injEq, Array.mk.injEq, List.cons.injEq, Value.string.injEq, hs, and_true, true_and]
/-- What the map says: whether an address's box was noted. -/
def MapSem (D : DataW Unit) (acc : List Adr) : Prop := IsMap D ∧ ∀ (y : Adr) (kl : Lit), keyOf Try.prog 29 (kV y) = some kl → D.atKey kl (.lit (.bool false)) = .lit (.bool (acc.any fun b => sameB b y))
theorem mapSem_start : MapSem (.map []) [] := ⟨isMap_empty, fun _ _ _ => rfl⟩
theorem mapSem_step {D : DataW Unit} {acc : List Adr} {x : Adr} {kx : Lit} (h : MapSem D acc) (hx : keyOf Try.prog 29 (kV x) = some kx) : MapSem (D.put kx (.lit (.bool true))) (acc ++ [x]) := by
  refine ⟨h.1.put _ _, fun y ky hy => ?_⟩
  rw [List.any_append]
  by_cases hs : sameB x y = true
  · have hk := (kV_same x y).1 hs
    have hl : ky = kx := by rw [hk, hy] at hx; exact Option.some.inj hx
    rw [hl, atKey_put_same h.1 (aKeyed.key hx)]
    simp [hs]
  · have hne : ky ≠ kx := fun e => hs ((kV_same x y).2 (aKeyed.inj hx (by rw [← e]; exact hy)))
    rw [atKey_put_other hne, h.2 y ky hy]
    have hs' : sameB x y = false := by cases hq : sameB x y; rfl; exact absurd hq hs
    simp [hs']
theorem zeroBool (w : World) : (zeroValue 4).run Try.prog w = .ok (.bool false) w := by kernel_rfl
theorem cells_far {w2 w3 : World} {C : Array Value} {T : TypeId} {B g : Nat} {X : Array Value} (hg : (w2.alloc (.cells C T)).grownBy w3 (some B)) (hne : B < g) (hl : g < w2.heap.size) (hc : ∀ i, w2.cell? ⟨g, i, none⟩ = X[i]?) : ∀ i, w3.cell? ⟨g, i, none⟩ = X[i]? := fun i => by
  rw [hg.cell_far ⟨g, i, none⟩ (by show g < _; simp; omega) (by show some g ≠ some B; intro e; injection e with e; omega), World.cell?_alloc_lt _ _ _ hl]
  exact hc i
theorem own_ne {B : Nat} {v : Value} {xs : List Adr} {w : World} (h : OwnA (B + 1) v xs w) : v.ownBlock = none ∨ v.ownBlock ≠ some B := by
  cases hq : v.ownBlock with
  | none => exact .inl rfl
  | some g =>
    refine .inr fun e => ?_
    have h1 := (OwnR.lt h g hq).1
    injection e with e
    omega
theorem own_ne' {B : Nat} {v : Value} {xs : List Adr} {w : World} (h : OwnA (B + 1) v xs w) : some B ≠ v.ownBlock := by
  rcases own_ne h with e | e
  · rw [e]; simp
  · exact fun q => e q.symm
set_option maxRecDepth 100000 in
set_option maxHeartbeats 1000000 in
theorem dropRepeated_any (a : Option Addr) (n c : Nat) (xs : List Adr) (w : World) (hr : RdA w a n xs) (hn : n ≤ 1048576) (hx : ∀ x ∈ xs, SmallA 1073741000 x) :
    Calls Try.prog 9 #[.slice a n c] w (DropRet (dropR xs) w) := by
  obtain ⟨i0, hi, hz0, hz1, hz2⟩ := info_parts aInfo
  have HR := Lib.hid hr
  have HX := Lib.hid hx
  have HLEN := Lib.hid hr.1
  clear hr hx
  have hmm := @run_makeMap Try.prog
  have hb0 : Below w.heap.size w (w.alloc (.map #[] 0)) := (Below.refl _ _).alloc (Nat.le_refl _) _
  go_enter Try.func9, Try.ntmps9
  go_wp2_with fail
  go_loopw [4, 11] (fun v i wr => ∃ (k : Nat) (acc : List Adr) (D : DataW Unit), k ≤ n ∧ i = .int .i64 k ∧ acc = dropR (xs.take k) ∧ OwnA (w.heap.size + 1) v acc wr ∧ wr.ownsMap Try.prog 29 (plainElem Try.prog 4) w.heap.size k D ∧ MapSem D acc ∧ Below w.heap.size w wr) (fun _ i _ => n - (intOf i).toNat)
  case atStart => exact ⟨0, [], _, Nat.zero_le _, rfl, rfl, OwnR.nil _ _ _ _ _, World.ownsMap_made _ _ _ _, mapSem_start, hb0⟩
  case round =>
    obtain ⟨k, acc, D, hk, rfl, hacc, hown, hmap, hsem, hb⟩ := hrel
    have HACC := Lib.hid hacc
    have hal : acc.length ≤ k := by rw [hacc]; exact Nat.le_trans (dropR_len _) (by rw [List.length_take]; omega)
    have HOWN := Lib.hid hown
    have HMAP := Lib.hid hmap
    have HSEM := Lib.hid hsem
    have HB := Lib.hid hb
    clear hacc hown hmap hsem
    by_cases hlt : k < n
    · have hkx : k < xs.length := by rw [HLEN.out]; exact hlt
      obtain ⟨b, off, rfl, hbl, hcell⟩ := HR.out.2.resolve_left (by omega)
      obtain ⟨q0, q1, q2⟩ := RdR.adr hcell hkx
      rw [← below_at hb hbl] at q0 q1 q2
      obtain ⟨_, z1, z2⟩ := HX.out _ (List.getElem_mem hkx)
      rw [← str_size] at z1 z2
      have HST := Lib.hid (dropR_step hkx)
      have HXC : Hid (adrC xs[k] = [.string (str xs[k].name), .string (str xs[k].loc), .string (str xs[k].dom)]) := rfl
      have HKV : Hid (kV xs[k] = .agg #[.string ⟨#[]⟩, .string (str xs[k].loc), .string (lowS (str xs[k].dom))]) := rfl
      have hls : (lowS (str xs[k].dom)).size ≤ maxLen := by rw [lowS_size]; unfold maxLen; omega
      obtain ⟨kl, hkl⟩ := key_reads ⟨#[]⟩ (str xs[k].loc) (lowS (str xs[k].dom)) (Nat.zero_le _) (by unfold maxLen; omega) hls
      have HKL := Lib.hid hkl
      have hkz : (0 : Int) ≤ (k : Int) := by omega
      have hkn : (k : Int) < (n : Int) := by omega
      have hwz := hb.size
      have hwl : w.heap.size < wr.heap.size := HMAP.out.lt
      have hbX : Below wr.heap.size wr (wr.alloc (.cells #[.string (str xs[k].name), .string (str xs[k].loc), .string (str xs[k].dom)] 29)) := (Below.refl _ _).alloc (Nat.le_refl _) _
      clear hcell hls hkl hb
      generalize xs[k] = x at *
      generalize hs0 : str x.name = s0 at *
      generalize hs1 : str x.loc = s1 at *
      generalize hs2 : str x.dom = s2 at *
      clear hs0 hs1 hs2
      go_wp2_with fail
      refine (boxKey_any s0 s1 s2 _ (by omega)).mono ?_
      rintro e w2 ⟨rfl, hb2⟩
      generalize lowS s2 = s3 at *
      obtain ⟨c2, f2, l2⟩ : (∀ i, w2.cell? ⟨wr.heap.size, i, none⟩ = #[Value.string s0, .string s1, .string s2][i]?) ∧ True ∧ wr.heap.size < w2.heap.size := by
        have hz := hb2.size
        simp at hz
        refine ⟨fun i => ?_, trivial, by omega⟩
        rw [below_at hb2 (by simp), World.cell?_alloc_at _ _ _ _ rfl]
      have HB2 : Hid (Below wr.heap.size wr w2) := nx hbX hb2
      have HM2 : Hid (w2.ownsMap Try.prog 29 (plainElem Try.prog 4) w.heap.size k D) := by
        obtain ⟨es, clock, he, F, hs, hd⟩ := HMAP.out
        exact ⟨es, clock, by rw [HB2.out.block _ (lt_of_block he)]; exact he, F, hs, hd⟩
      have HO2 : Hid (OwnA (w.heap.size + 1) _ acc w2) := HOWN.out.keep HB2.out
      clear hb2 hbX
      have HKX : Hid (keyOf Try.prog 29 (kV x) = some kl) := by show _ = _; rw [HKV.out]; exact HKL.out
      have HAT := Lib.hid (HSEM.out.2 x kl HKX.out)
      cases hfb : acc.any (fun b => sameB b x)
      · have HNX : Hid (dropR (xs.take (k + 1)) = acc ++ [x]) := by
          show _ = _
          rw [HST.out, ← HACC.out]; unfold dropStep; rw [if_neg (by rw [hfb]; simp)]
        have HF : Hid (acc.any (fun b => sameB b x) = false) := hfb
        clear hfb
        go_upto_region 9 with (first
          | (at_lookup; refine wpList_lookup_own_bool _ rfl _ _ 44 rfl 29 4 aKeyed Try.underlying44 Try.underlying4 (zeroBool _) w.heap.size k D rfl (HM2.out.alloc _) _ kl rfl HKL.out ?_; intro c hat; obtain rfl : c = false := (by have h := hat.symm.trans HAT.out; rw [HF.out] at h; injection h with h; injection h))
          | (at_mapUpdate; refine wpList_mapUpdate_own _ rfl _ _ _ 44 rfl 29 4 aKeyed Try.underlying44 _ w.heap.size k D rfl (HM2.out.alloc _) (by unfold maxLen; omega) _ _ kl rfl rfl HKL.out (.lit (.bool true)) [] (plainElem_bool Try.underlying4 true) ?_; intro w3 hown3 hgrow3
             have HM3 := Lib.hid hown3
             have HO3 : Hid (OwnA (w.heap.size + 1) _ acc w3) := World.ownsRow.kept (World.ownsRow.alloc HO2.out _) hgrow3 (own_ne HO2.out)
             have c3 := cells_far hgrow3 (by omega) l2 c2
             have hz3 := hgrow3.size
             simp at hz3
             have HG3 := Lib.hid hgrow3
             clear hown3 hgrow3))
        have hO3' := HO3.out
        unfold OwnA OwnR at hO3'
        have hXC := HXC.out
        have HB3 : Hid (Below w.heap.size w w3) := ((nx HB.out HB2.out).alloc (by omega) _).grown HG3.out (by simp; omega) (fun q hq => by injection hq with hq; omega)
        go_wp2_with (at_builtin; refine wpList_append_own _ rfl _ _ 23 rfl (w.heap.size + 1) 29 i0 (.agg #[.string ⟨#[]⟩, .string ⟨#[]⟩, .string ⟨#[]⟩]) 3 48 Try.underlying23 hi hz0 hz1 hz2 rfl (by decide) _ _ _ rfl (World.ownsRow.alloc hO3' _) ⟨w3.heap.size, 0, none⟩ 1 1 (adrC x) rfl rfl ?c1 ?c2 ?c3 ?c4 ?c5 ?_)
        case c1 => intro u v hu; rw [add0, World.cell?_alloc_at _ _ _ _ (by simp)]; rw [hXC] at hu; simpa using hu
        case c2 => intro u hu; rw [hXC] at hu; simp at hu; rcases hu with rfl | rfl | rfl <;> rfl
        case c3 => unfold maxLen; omega
        case c4 => omega
        case c5 => simp; omega
        intro v' w4 hown4 hgrow4 _
        have hO4 : OwnA (w.heap.size + 1) v' (acc ++ [x]) w4 := OwnR.snoc (f := adrC) (x := x) (by rw [HXC.out]; exact hown4)
        have hM4 := ((HM3.out.alloc _).kept hgrow4 (own_ne' HO3.out))
        have hb4 : Below w.heap.size w w4 := (HB3.out.alloc (by omega) _).grown hgrow4 (by simp; omega) (fun q hq => by have := (OwnR.lt HO3.out q hq).1; omega)
        go_wp2
        go_roundw
        case rel => exact ⟨k + 1, acc ++ [x], _, by omega, by go_num, HNX.out.symm, hO4, hM4, mapSem_step HSEM.out HKX.out, hb4⟩
        case measure => simp [intOf]; omega
      · have HNX : Hid (dropR (xs.take (k + 1)) = acc) := by
          show _ = _
          rw [HST.out, ← HACC.out]; unfold dropStep; rw [if_pos hfb]
        have HF : Hid (acc.any (fun b => sameB b x) = true) := hfb
        clear hfb
        go_wp2_with (at_lookup; refine wpList_lookup_own_bool _ rfl _ _ 44 rfl 29 4 aKeyed Try.underlying44 Try.underlying4 (zeroBool _) w.heap.size k D rfl (HM2.out.alloc _) _ kl rfl HKL.out ?_; intro c hat; obtain rfl : c = true := (by have h := hat.symm.trans HAT.out; rw [HF.out] at h; injection h with h; injection h))
        go_roundw
        case rel => exact ⟨k + 1, acc, D, by omega, by go_num, HNX.out.symm, World.ownsRow.alloc HO2.out _, (HM2.out.alloc _).mono (by omega), HSEM.out, (nx HB.out HB2.out).alloc (by have := HB2.out.size; omega) _⟩
        case measure => simp [intOf]; omega
    · have hkn : k = n := by omega
      subst hkn
      have HFIN : Hid (acc = dropR xs) := by show _ = _; rw [HACC.out, List.take_of_length_le (by rw [HLEN.out]; omega)]
      go_wp2
      go_ret
      exact ⟨_, rfl, by rw [← HFIN.out]; exact HOWN.out.base (by omega), hb⟩
end Go.Proofs.Ythcmdmjijdafoaa
