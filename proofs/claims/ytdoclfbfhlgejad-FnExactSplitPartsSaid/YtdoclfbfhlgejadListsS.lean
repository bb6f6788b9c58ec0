/-
  Lists of lists of strings in the exact laws: sizes, copies, comparisons, marks. No statement is proved here.
-/
import Derived.Test.YtdoclfbfhlgejadPartH
import Derived.Test.YtdoclfbfhlgejadMarkS
import Derived.Test.YtdoclfbfhlgejadLawL
namespace Go.Proofs.Ytdoclfbfhlgejad
open Go.ChangeShapes Go.WideShapes Go.ChangeAt Go.RowKit
open Go.ChangeMaps (open_string shut_string)

def lensP (ps : List (List (List UInt8))) : Nat := (ps.map List.length).sum
theorem lensP_nil : lensP [] = 0 := rfl
theorem lensP_cons (p : List (List UInt8)) (ps : List (List (List UInt8))) : lensP (p :: ps) = p.length + lensP ps := rfl
theorem lensP_app (ps qs : List (List (List UInt8))) : lensP (ps ++ qs) = lensP ps + lensP qs := by unfold lensP; simp
theorem lensP_sum (ps : List (List (List UInt8))) : lensP ps + ps.length = sumP ps := by
  induction ps with
  | nil => rfl
  | cons p ps ih => rw [lensP_cons, sumP_cons, List.length_cons]; omega
theorem lensP_take (ps : List (List (List UInt8))) (k : Nat) : lensP (ps.take k) ≤ lensP ps := by
  have := lensP_app (ps.take k) (ps.drop k)
  rw [List.take_append_drop] at this; omega
theorem lensP_succ (ps : List (List (List UInt8))) (k : Nat) (h : k < ps.length) : lensP (ps.take (k + 1)) = lensP (ps.take k) + ps[k].length := by
  rw [List.take_succ_eq_append_getElem h, lensP_app]; rfl
set_option maxRecDepth 100000 in
set_option maxHeartbeats 1000000 in
theorem eqStringSS_any (a1 a2 : Option Addr) (n c1 c2 : Nat) (ps : List (List (List UInt8))) (w : World) (h1 : RdSS w a1 n ps) (h2 : RdSS w a2 n ps) (hn : n ≤ 2000000) (hx : ∀ p ∈ ps, p.length ≤ 2000000) :
    Calls Try.prog 9 #[.slice a1 n c1, .slice a2 n c2] w fun e w' => e = .returned (.bool true) ∧ Below w.heap.size w w' := by
  have HLEN := Lib.hid h1.1
  have H1 := Lib.hid h1
  have H2 := Lib.hid h2
  have HX := Lib.hid hx
  have e1 : ((n : Int) != (n : Int)) = false := by simp
  clear h1 h2 hx
  go_enter Try.func9, Try.ntmps9
  go_wp2_with fail
  go_loopw [5] (fun i wr => ∃ k : Nat, k ≤ n ∧ i = .int .i64 k ∧ Below w.heap.size w wr) (fun i _ => n - (intOf i).toNat)
  case atStart => exact ⟨0, Nat.zero_le _, rfl, Below.refl _ _⟩
  case round =>
    obtain ⟨k, hk, rfl, hb⟩ := hrel
    by_cases hlt : k < n
    · have hkx : k < ps.length := by rw [HLEN.out]; exact hlt
      obtain ⟨b2, o2, q2, d2, rfl, x2, r2, l2⟩ := H1.out.cellT hb hkx
      obtain ⟨b3, o3, q3, d3, rfl, x3, r3, l3⟩ := H2.out.cellT hb hkx
      have hpk := HX.out _ (List.getElem_mem hkx)
      generalize ps[k] = p at *
      have R2 := Lib.hid r2
      have R3 := Lib.hid r3
      have HMW : Hid (∀ (y : BelowT wr), Calls Try.prog 10 #[.slice q2 p.length d2, .slice q3 p.length d3] y.val fun e w' => e = .returned (.bool true) ∧ Below y.val.heap.size y.val w') := fun y => by
        have := eqStringS_any q2 q3 _ d2 _ d3 p p y.val (R2.out y) (R3.out y) (by unfold maxLen; omega) (by unfold maxLen; omega)
        rw [decide_eq_true (rfl : p = p)] at this; exact this
      have hk0 : (0 : Int) ≤ (k : Int) := by omega
      have hkn : (k : Int) < (n : Int) := by omega
      have HBB := Lib.hid hb
      clear r2 r3 hb hk
      go_wp2_with fail
      refine wp_region_quietB (W := wr) (by kernel_rfl) (by kernel_rfl) (Below.refl _ _) ?_
      repeat (go_big_quiet_step (first
        | (go_at_call 10; exact calls_belowT (HMW.out _))))
      refine wpQuiet_nil ?_
      intro wz hwz
      obtain ⟨x9, rfl⟩ := hwz
      have hbx := nx HBB.out x9.below
      clear x2 x3
      generalize x9.val = w9 at *
      go_wp2
      go_roundw
      case rel => exact ⟨k + 1, by omega, by go_num, hbx⟩
      case measure => simp [intOf]; omega
    · go_wp2
      go_ret
      exact ⟨rfl, hb⟩
theorem OwnSS.nils (g n c : Nat) (B : Nat) (w : World) (h : w.ownsRow B 22 1 (.slice (some ⟨g, 0, none⟩) n c) n (List.replicate n (.slice none 0 0))) : OwnSS B (.slice (some ⟨g, 0, none⟩) n c) (List.replicate n (.slice none 0 0)) (List.replicate n []) w := by
  refine ⟨by rw [List.length_replicate]; exact h, fun i u p hu hp => ?_, fun i u g' hu hg => ?_, fun i j u z g' hu hz hij hg => ?_⟩
  · rw [List.getElem?_replicate] at hu hp
    split at hu
    · rename_i hi
      rw [if_pos hi] at hp
      injection hu with hu; injection hp with hp
      subst hu hp
      exact OwnL.nil _ _
    · cases hu
  · rw [List.getElem?_replicate] at hu
    split at hu
    · injection hu with hu; subst hu; cases hg
    · cases hu
  · rw [List.getElem?_replicate] at hu
    split at hu
    · injection hu with hu; subst hu; cases hg
    · cases hu
def ListsRet2 (ps : List (List (List UInt8))) (w : World) (e : Ending) (w' : World) : Prop := ∃ a c us, e = .returned (.slice a ps.length c) ∧ OwnSS w.heap.size (.slice a ps.length c) us ps w' ∧ RdSS w' a ps.length ps ∧ Below w.heap.size w w'
set_option maxRecDepth 100000 in
set_option maxHeartbeats 2000000 in
theorem toStringSS_any (a : Option Addr) (n c : Nat) (ps : List (List (List UInt8))) (w : World) (hr : RdSS w a n ps) (hn : n ≤ 2000000) (hx : ∀ p ∈ ps, p.length ≤ 1073741824) :
    Calls Try.prog 16 #[.slice a n c] w (ListsRet2 ps w) := by
  obtain ⟨i0, hi, hz0, hz1, hz2⟩ := info_parts ssInfo
  have HLEN := Lib.hid hr.1
  have HR := Lib.hid hr
  have HX := Lib.hid hx
  clear hr hx
  go_enter Try.func16, Try.ntmps16
  go_wp2_with (at_make; refine wpList_make_full _ rfl _ _ 24 rfl w.heap.size 22 i0 (.slice none 0 0) 1 Try.underlying24 hi hz0 hz1 _ _ (n : Int) (n : Int) n rfl rfl rfl rfl ?c1 ?c2 ?c3 ?_)
  case c1 => rw [hz2]; omega
  case c2 => unfold maxLen; omega
  case c3 => exact Nat.le_refl _
  intro w1 hown hgrow
  have hb1 : Below w.heap.size w w1 := (Below.refl _ _).grown hgrow (Nat.le_refl _) (fun k hk => by cases hk)
  have hmc : (madeCells #[Value.slice none 0 0] n).toList = List.replicate n (.slice none 0 0) := toList_madeCells_one _ _
  rw [hmc] at hown
  have HS0 := Lib.hid (OwnSS.nils _ _ _ _ _ hown)
  clear hown hmc hgrow
  go_wp2_with fail
  go_loopw [4] (fun i wr => ∃ (k : Nat) (us : List Value), k ≤ n ∧ i = .int .i64 k ∧ Below w.heap.size w wr ∧ OwnSS w.heap.size (.slice (some ⟨w.heap.size, 0, none⟩) n n) us (ps.take k ++ List.replicate (n - k) []) wr ∧ ∀ j, k ≤ j → j < n → us[j]? = some (.slice none 0 0)) (fun i _ => n - (intOf i).toNat)
  case atStart => exact ⟨0, _, Nat.zero_le _, rfl, hb1, by rw [List.take_zero, List.nil_append, Nat.sub_zero]; exact HS0.out, fun j _ hj => by rw [List.getElem?_replicate, if_pos hj]⟩
  case round =>
    obtain ⟨k, us, hk, rfl, hb, hO, hU⟩ := hrel
    have HO := Lib.hid hO
    have HU := Lib.hid hU
    clear hO hU
    by_cases hlt : k < n
    · have hkx : k < ps.length := by rw [HLEN.out]; exact hlt
      obtain ⟨b2, o2, q2, d2, rfl, x2, r2, l2⟩ := HR.out.cellW hb hkx
      have hpk := HX.out _ (List.getElem_mem hkx)
      have HSET : Hid ((ps.take k ++ List.replicate (n - k) []).set k ps[k] = ps.take (k + 1) ++ List.replicate (n - (k + 1)) []) := by
        show _ = _
        have hl : (ps.take k).length = k := by rw [List.length_take]; omega
        rw [List.set_append_right _ _ (by omega), hl, Nat.sub_self, show n - k = (n - (k + 1)) + 1 by omega, List.replicate_succ, List.set_cons_zero, List.take_succ_eq_append_getElem hkx, List.append_assoc]; rfl
      generalize ps[k] = p at *
      have R2 := Lib.hid r2
      clear r2
      have hu0 := HU.out k (Nat.le_refl _) hlt
      go_wp2_with fail
      refine (toStringS_any q2 _ d2 p _ R2.out hpk).mono ?_
      rintro e w3 ⟨a3, c3, rfl, ho3, _, hb3⟩
      have hlen := (HO.out).len
      have hcc := HO.out.cellAt hu0
      have HB3 := Lib.hid (nx hb hb3)
      have hs1 := hb.size
      have hbg := (HO.out.lt.1 w.heap.size rfl).2
      have hgr : wr.grownBy w3 (Value.slice none 0 0).ownBlock := ⟨hb3.os, hb3.tape, hb3.output, hb3.size, fun k hk _ => hb3.block k hk⟩
      obtain ⟨mm, hat, hmm⟩ : ∃ mm, ((Value.slice a3 p.length c3).ownBlock = (Value.slice none 0 0).ownBlock ∨ (Value.slice a3 p.length c3).ownBlock = some mm) ∧ wr.heap.size ≤ mm := by
        cases hv3 : (Value.slice a3 p.length c3).ownBlock with
        | none => exact ⟨wr.heap.size, .inl rfl, Nat.le_refl _⟩
        | some q => exact ⟨q, .inr rfl, (ho3.lt q hv3).1⟩
      obtain ⟨f1, f2, f3⟩ := HO.out.store (u' := .slice a3 p.length c3) (p' := p) rfl hu0 hgr (ho3.base hs1) hat hmm
      rw [HSET.out] at f3
      have HF3 := Lib.hid f3
      have HBS : Hid (Below w.heap.size w (w3.setCell ⟨w.heap.size, k, none⟩ (.slice a3 p.length c3))) := HB3.out.setCell (Nat.le_refl _) _
      clear f3 hgr hat hmm hcc ho3 hb3
      go_wp2
      go_roundw
      case rel => exact ⟨k + 1, us.set k (.slice a3 p.length c3), by omega, by go_num, HBS.out, HF3.out, (fun j hj hjn => by rw [List.getElem?_set_ne (by omega)]; exact HU.out j (by omega) hjn)⟩
      case measure => simp [intOf]; omega
    · have hps : ps.take k ++ List.replicate (n - k) [] = ps := by
        rw [List.take_of_length_le (by rw [HLEN.out]; omega), show n - k = 0 by omega]; simp
      have HF : Hid (OwnSS w.heap.size (.slice (some ⟨w.heap.size, 0, none⟩) n n) us ps wr) := by
        have := HO.out
        rw [hps] at this; exact this
      clear hps
      have hnl : n = ps.length := HLEN.out.symm
      subst hnl
      obtain ⟨a', c', hv, hrd, _⟩ := HF.out.read
      injection hv with e1 _ e3
      subst e1 e3
      go_wp2
      go_ret
      exact ⟨_, _, us, rfl, HF.out, hrd, hb⟩
set_option maxRecDepth 100000 in
set_option maxHeartbeats 2000000 in
/-- A size is what is left, or below 0 where it does not fit. -/
def SizedL (m : Int) (xs : List (List UInt8)) (w : World) (e : Ending) (w' : World) : Prop := ∃ r : Int, e = .returned (.int .i64 r) ∧ -1 ≤ r ∧ r ≤ m ∧ (0 ≤ r → r + (xs.length : Int) ≤ m) ∧ w = w'
set_option maxRecDepth 100000 in
set_option maxHeartbeats 1000000 in
theorem szStringS_left (a : Option Addr) (n c : Nat) (xs : List (List UInt8)) (m : Int) (w : World) (hr : RdL w a n xs) (hn : n ≤ maxLen) (hm0 : 0 ≤ m) (hm : m ≤ 1073741824) (hx : ∀ j, (h : j < xs.length) → xs[j].length ≤ maxLen) :
    Calls Try.prog 5 #[.slice a n c, .int .i64 m] w (SizedL m xs w) := by
  unfold maxLen at hn hx
  obtain ⟨hl, hr2⟩ := hr
  have HLEN := Lib.hid hl
  have HR2 := Lib.hid hr2
  have HXX := Lib.hid hx
  clear hl hr2 hx
  by_cases hbig : m < n
  · have d1 : (m - n : Int) < 0 := by omega
    go_enter Try.func5, Try.ntmps5
    go_wp2
    go_ret
    exact ⟨-1, rfl, by omega, by omega, fun h => by omega, rfl⟩
  · go_enter Try.func5, Try.ntmps5
    go_wp2_with fail
    go_loop [1, 5] (fun l i => ∃ (k : Nat) (r : Int), k ≤ n ∧ i = .int .i64 k ∧ l = .int .i64 r ∧ 0 ≤ r ∧ r + n ≤ m) (fun _ i => n - (intOf i).toNat)
    case atStart => exact ⟨0, m - n, Nat.zero_le _, rfl, rfl, by omega, by omega⟩
    case round =>
      obtain ⟨k, r, hk, rfl, rfl, hr0, hrm⟩ := hrel
      by_cases hlt : k < n
      · have hkx : k < xs.length := by rw [HLEN.out]; exact hlt
        obtain ⟨b, off, rfl, hbl, hcell⟩ := HR2.out.resolve_left (by omega)
        have hc1 : w.cell? ⟨b, off + k, none⟩ = some (.string (str xs[k])) := hcell k hkx
        have hxl := HXX.out k hkx
        have HSZ := Lib.hid (str_size xs[k])
        have hsz : (str xs[k]).size ≤ 9223372036854775807 := by rw [HSZ.out]; omega
        clear hcell
        by_cases hs : r < (str xs[k]).size
        · go_wp2
          go_ret
          exact ⟨-1, rfl, by omega, by omega, fun h => by omega, rfl⟩
        · go_wp2
          go_round
          case rel => exact ⟨k + 1, r - (str xs[k]).size, by omega, by go_num, rfl, by omega, by omega⟩
          case measure => simp [intOf]; omega
      · go_wp2
        go_ret
        exact ⟨r, rfl, by omega, by omega, fun _ => by rw [HLEN.out]; omega, rfl⟩
def SizedSS (m : Int) (ps : List (List (List UInt8))) (w : World) (e : Ending) (w' : World) : Prop := ∃ r : Int, e = .returned (.int .i64 r) ∧ -1 ≤ r ∧ r ≤ m ∧ (0 ≤ r → (sumP ps : Int) ≤ m) ∧ w = w'
set_option maxRecDepth 100000 in
set_option maxHeartbeats 1000000 in
theorem szStringSS_any (a : Option Addr) (n c : Nat) (ps : List (List (List UInt8))) (m : Int) (w : World) (hr : RdSS w a n ps) (hn : n ≤ maxLen) (hm0 : 0 ≤ m) (hm : m ≤ 1073741824) (hx : ∀ p ∈ ps, p.length ≤ maxLen ∧ ∀ j, (h : j < p.length) → p[j].length ≤ maxLen) :
    Calls Try.prog 14 #[.slice a n c, .int .i64 m] w (SizedSS m ps w) := by
  unfold maxLen at hn
  have HLEN := Lib.hid hr.1
  have HR := Lib.hid hr
  have HX := Lib.hid hx
  clear hr hx
  by_cases hbig : m < n
  · have d1 : (m - n : Int) < 0 := by omega
    go_enter Try.func14, Try.ntmps14
    go_wp2
    go_ret
    exact ⟨-1, rfl, by omega, by omega, fun h => by omega, rfl⟩
  · go_enter Try.func14, Try.ntmps14
    go_wp2_with fail
    go_loop [1, 5] (fun l i => ∃ (k : Nat) (r : Int), k ≤ n ∧ i = .int .i64 k ∧ l = .int .i64 r ∧ 0 ≤ r ∧ r + n + (lensP (ps.take k) : Int) ≤ m) (fun _ i => n - (intOf i).toNat)
    case atStart => exact ⟨0, m - n, Nat.zero_le _, rfl, rfl, by omega, by rw [List.take_zero, lensP_nil]; omega⟩
    case round =>
      obtain ⟨k, r, hk, rfl, rfl, hr0, hrm⟩ := hrel
      have HRM := Lib.hid hrm
      have hrm2 : r ≤ m := by omega
      clear hrm
      by_cases hlt : k < n
      · have hkx : k < ps.length := by rw [HLEN.out]; exact hlt
        obtain ⟨b2, o2, q2, d2, rfl, x2, r2, l2⟩ := HR.out.cellW (Below.refl _ _) hkx
        have HPK := Lib.hid (HX.out _ (List.getElem_mem hkx))
        have HSU := Lib.hid (lensP_succ ps k hkx)
        generalize ps[k] = p at *
        have R2 := Lib.hid r2
        clear r2
        go_wp2_with fail
        refine (szStringS_left q2 p.length d2 p r _ R2.out HPK.out.1 hr0 (by omega) HPK.out.2).mono ?_
        rintro e w3 ⟨t, rfl, ht1, ht2, hts, rfl⟩
        by_cases hneg : t < 0
        · go_wp2
          go_ret
          exact ⟨-1, rfl, by omega, by omega, fun h => by omega, rfl⟩
        · have HT := Lib.hid (hts (by omega))
          clear hts
          go_wp2
          go_round
          case rel => exact ⟨k + 1, t, by omega, by go_num, rfl, by omega, by have h1 := HRM.out; have h2 := HSU.out; have h3 := HT.out; rw [h2]; omega⟩
          case measure => simp [intOf]; omega
      · go_wp2
        go_ret
        exact ⟨r, rfl, by omega, hrm2, fun _ => by
          have h1 := HRM.out
          rw [List.take_of_length_le (by rw [HLEN.out]; omega)] at h1
          have h2 := lensP_sum ps
          have h3 := HLEN.out
          omega, rfl⟩
/-- All blocks that were there read as they did, but those of the rows us. -/
structure OnlySS (us : List Value) (w w' : World) : Prop where
  os : w'.os = w.os
  tape : w'.tape = w.tape
  output : w'.output = w.output
  size : w.heap.size ≤ w'.heap.size
  block : ∀ k, k < w.heap.size → (∀ (i : Nat) u, us[i]? = some u → u.ownBlock ≠ some k) → w'.heap[k]? = w.heap[k]?
theorem OnlySS.refl (us : List Value) (w : World) : OnlySS us w w := ⟨rfl, rfl, rfl, Nat.le_refl _, fun _ _ _ => rfl⟩
theorem OnlySS.step {us : List Value} {w wr w' : World} {i : Nat} {u : Value} (h : OnlySS us w wr) (hu : us[i]? = some u) (k : Only u.ownBlock wr w') : OnlySS us w w' :=
  ⟨k.os.trans h.os, k.tape.trans h.tape, k.output.trans h.output, Nat.le_trans h.size k.size, fun q hq hn => (k.block q (Nat.lt_of_lt_of_le hq h.size) (fun e => hn i u hu e.symm)).trans (h.block q hq hn)⟩
theorem OnlySS.below {us : List Value} {B : Nat} {w w' : World} (h : OnlySS us w w') (hB : ∀ (i : Nat) u g, us[i]? = some u → u.ownBlock = some g → B ≤ g) (hs : B ≤ w.heap.size) : Below B w w' :=
  ⟨h.os, h.tape, h.output, h.size, fun k hk => h.block k (by omega) (fun i u hu e => by have := hB i u k hu e; omega)⟩
theorem OwnL.onlySS {B : Nat} {v : Value} {xs : List (List UInt8)} {us : List Value} {w w' : World} (h : OwnL B v xs w) (t : OnlySS us w w') (hne : ∀ g, v.ownBlock = some g → ∀ (i : Nat) u, us[i]? = some u → u.ownBlock ≠ some g) : OwnL B v xs w' := by
  refine ⟨h.1, ?_⟩
  rcases h.2 with hn | ⟨g, cap, cur, hv, hg1, hg2, rest⟩
  · exact .inl hn
  · exact .inr ⟨g, cap, cur, hv, hg1, by rw [t.block g (lt_of_block hg2) (hne g (by rw [hv]; rfl)), hg2], rest⟩
theorem grown_only {o : Option Nat} {w w' : World} (t : Only o w w') : w.grownBy w' o := ⟨t.os, t.tape, t.output, t.size, t.block⟩
theorem OwnSS.replace {B : Nat} {v u : Value} {us : List Value} {ps : List (List (List UInt8))} {p' : List (List UInt8)} {w w' : World} {i : Nat} (h : OwnSS B v us ps w) (hu : us[i]? = some u) (ho : OwnL B u p' w') (t : Only u.ownBlock w w') : OwnSS B v us (ps.set i p') w' := by
  have hg := grown_only t
  have hi := (List.getElem?_eq_some_iff.1 hu).1
  refine ⟨?_, fun j z q hz hq => ?_, h.off, h.apart⟩
  · rw [List.length_set]
    refine World.ownsRow.kept h.row hg ?_
    cases hv : v.ownBlock with
    | none => exact .inl rfl
    | some g => exact .inr (fun e => h.off i u g hu e.symm hv)
  · by_cases e : j = i
    · subst e
      rw [hz] at hu
      injection hu with hu
      subst hu
      rw [List.getElem?_set_self (by rw [← h.len]; exact hi)] at hq
      injection hq with hq
      subst hq; exact ho
    · rw [List.getElem?_set_ne (fun c => e c.symm)] at hq
      exact (h.each j z q hz hq).grown hg (fun g hg' e2 => h.apart i j u z g hu hz (fun c => e c.symm) e2 hg')
def marksSS : Nat → List (List (List UInt8)) → List (List (List UInt8))
  | _, [] => []
  | k, p :: ps => marksFrom k p.length :: marksSS (k + p.length) ps
theorem marksSS_len : ∀ (ps : List (List (List UInt8))) (k : Nat), (marksSS k ps).length = ps.length
  | [], _ => rfl
  | p :: ps, k => by rw [marksSS, List.length_cons, List.length_cons, marksSS_len ps]
theorem marksSS_snoc : ∀ (ps : List (List (List UInt8))) (k : Nat) (p : List (List UInt8)), marksSS k (ps ++ [p]) = marksSS k ps ++ [marksFrom (k + lensP ps) p.length]
  | [], k, p => rfl
  | q :: ps, k, p => by
    rw [List.cons_append, marksSS, marksSS, marksSS_snoc ps, lensP_cons, List.cons_append, Nat.add_assoc]
theorem marksSS_at : ∀ (ps : List (List (List UInt8))) (k i : Nat) (h : i < ps.length), (marksSS k ps)[i]? = some (marksFrom (k + lensP (ps.take i)) ps[i].length)
  | p :: ps, k, 0, _ => rfl
  | p :: ps, k, i + 1, h => by
    rw [marksSS, List.getElem?_cons_succ, marksSS_at ps _ i (by simpa using h), List.take_succ_cons, lensP_cons, Nat.add_assoc]; rfl
def MarkedSS (B k : Nat) (v : Value) (us : List Value) (ps : List (List (List UInt8))) (w : World) (e : Ending) (w' : World) : Prop := e = .returned (.int .i64 ((k + lensP ps : Nat) : Int)) ∧ OwnSS B v us (marksSS k ps) w' ∧ OnlySS us w w'
set_option maxRecDepth 100000 in
set_option maxHeartbeats 1000000 in
theorem markStringSS_any (B : Nat) (a : Option Addr) (n c : Nat) (us : List Value) (ps : List (List (List UInt8))) (k : Nat) (w : World) (ho : OwnSS B (.slice a n c) us ps w) (hn : ps.length = n) (hn2 : n ≤ 2000000) (hk0 : 0 < k) (hk : k + lensP ps ≤ 1073741824) :
    Calls Try.prog 12 #[.slice a n c, .int .i64 k] w (MarkedSS B k (.slice a n c) us ps w) := by
  have HO := Lib.hid ho
  have HN := Lib.hid hn
  clear ho hn
  go_enter Try.func12, Try.ntmps12
  go_wp2_with fail
  go_loopw [1, 5] (fun q i wr => ∃ (j m : Nat), j ≤ n ∧ i = .int .i64 j ∧ q = .int .i64 (m : Int) ∧ m = k + lensP (ps.take j) ∧ OwnSS B (.slice a n c) us (marksSS k (ps.take j) ++ ps.drop j) wr ∧ OnlySS us w wr) (fun _ i _ => n - (intOf i).toNat)
  case atStart => exact ⟨0, k, Nat.zero_le _, rfl, rfl, by rw [List.take_zero, lensP_nil]; omega, by rw [List.take_zero, List.drop_zero]; exact HO.out, OnlySS.refl _ _⟩
  case round =>
    obtain ⟨j, m, hj, rfl, rfl, hm, ho, ht⟩ := hrel
    have HM := Lib.hid hm
    have HS := Lib.hid ho
    have HT := Lib.hid ht
    clear hm ho ht
    by_cases hlt : j < n
    · have hjx : j < ps.length := by rw [HN.out]; exact hlt
      have hpre : (marksSS k (ps.take j)).length = j := by rw [marksSS_len, List.length_take]; omega
      have hju : j < us.length := by rw [HO.out.len]; exact hjx
      obtain ⟨u, hu⟩ : ∃ u, us[j]? = some u := ⟨us[j], List.getElem?_eq_getElem hju⟩
      have hpj : (marksSS k (ps.take j) ++ ps.drop j)[j]? = some ps[j] := by
        rw [List.getElem?_append_right (by omega), hpre, Nat.sub_self, List.drop_eq_getElem_cons hjx]; rfl
      have hcu := HS.out.each j u _ hu hpj
      obtain ⟨g, cap, hv, _, _, hcap⟩ := HS.out.cases (by rw [List.length_append, hpre, List.length_drop]; omega)
      injection hv with e1 e2 e3
      subst e1 e3
      clear e2 hcap
      have hcc := HS.out.cellAt hu
      obtain ⟨a4, c4, rfl, _, _, _, hnc4⟩ := hcu.readc
      have HCU := Lib.hid hcu
      have HU := Lib.hid hu
      have hlk := lensP_take ps (j + 1)
      have hls := lensP_succ ps j hjx
      have hm0 := HM.out
      have hmk : m + ps[j].length ≤ 1073741824 := by omega
      have hmp : 0 < m := by omega
      have HN1 : Hid (m + ps[j].length = k + lensP (ps.take (j + 1))) := by show _ = _; omega
      have HSET : Hid ((marksSS k (ps.take j) ++ ps.drop j).set j (marksFrom m ps[j].length) = marksSS k (ps.take (j + 1)) ++ ps.drop (j + 1)) := by
        show _ = _
        rw [List.set_append_right _ _ (by omega), hpre, Nat.sub_self, List.drop_eq_getElem_cons hjx, List.set_cons_zero, List.take_succ_eq_append_getElem hjx, marksSS_snoc, hm0]
        simp
      clear hpj hcu hu hlk hls hm0 hpre
      generalize ps[j] = p at *
      have hj0 : (0 : Int) ≤ (j : Int) := by omega
      have hjn : (j : Int) < (n : Int) := by omega
      go_wp2_with fail
      refine (markStringS_only B a4 p.length c4 p m _ HCU.out rfl hmp hmk).mono ?_
      rintro e w3 ⟨rfl, ho3, ht3⟩
      have HS3 : Hid (OwnSS B (.slice (some ⟨g, 0, none⟩) n c) us (marksSS k (ps.take (j + 1)) ++ ps.drop (j + 1)) w3) := by
        show OwnSS _ _ _ _ _
        rw [← HSET.out]; exact HS.out.replace HU.out ho3 ht3
      have HT3 := Lib.hid (HT.out.step HU.out ht3)
      clear ho3 ht3 hcc
      go_wp2
      go_roundw
      case rel => exact ⟨j + 1, m + p.length, by omega, by go_num, by go_num, HN1.out, HS3.out, HT3.out⟩
      case measure => simp [intOf]; omega
    · have hjn : j = ps.length := by rw [HN.out]; omega
      have HE : Hid (m = k + lensP ps) := by have := HM.out; rw [hjn, List.take_length] at this; exact this
      have HF : Hid (OwnSS B (.slice a n c) us (marksSS k ps) wr) := by
        have := HS.out
        rw [hjn, List.take_length, List.drop_length, List.append_nil] at this; exact this
      clear hjn
      go_wp2
      go_ret
      exact ⟨ret_int (by rw [HE.out]), HF.out, HT.out⟩
set_option maxRecDepth 100000 in
set_option maxHeartbeats 1000000 in
theorem heldStringSS_any (a : Option Addr) (n c : Nat) (ps : List (List (List UInt8))) (k : Nat) (w : World) (hr : RdSS w a n (marksSS k ps)) (hn2 : n ≤ 2000000) (hk0 : 0 < k) (hk : k + lensP ps ≤ 1073741824) :
    Calls Try.prog 13 #[.slice a n c, .int .i64 k] w fun e w' => e = .returned (.int .i64 ((k + lensP ps : Nat) : Int)) ∧ Below w.heap.size w w' := by
  have HN : Hid (ps.length = n) := by show _ = _; rw [← marksSS_len ps k]; exact hr.1
  have HR := Lib.hid hr
  clear hr
  go_enter Try.func13, Try.ntmps13
  go_wp2_with fail
  go_loopw [1, 5] (fun q i wr => ∃ (j m : Nat), j ≤ n ∧ i = .int .i64 j ∧ q = .int .i64 (m : Int) ∧ m = k + lensP (ps.take j) ∧ Below w.heap.size w wr) (fun _ i _ => n - (intOf i).toNat)
  case atStart => exact ⟨0, k, Nat.zero_le _, rfl, rfl, by rw [List.take_zero, lensP_nil]; omega, Below.refl _ _⟩
  case round =>
    obtain ⟨j, m, hj, rfl, rfl, hm, hb⟩ := hrel
    have HM := Lib.hid hm
    clear hm
    by_cases hlt : j < n
    · have hjx : j < ps.length := by rw [HN.out]; exact hlt
      have hjm : j < (marksSS k ps).length := by rw [marksSS_len]; exact hjx
      obtain ⟨b2, o2, q2, d2, rfl, x2, r2, l2⟩ := HR.out.cellW hb hjm
      have hat := marksSS_at ps k j hjx
      rw [List.getElem?_eq_getElem hjm] at hat
      injection hat with hat
      have hm0 := HM.out
      rw [hat, ← hm0] at x2 r2 l2
      rw [marksFrom_len] at x2 r2 l2
      have hlk := lensP_take ps (j + 1)
      have hls := lensP_succ ps j hjx
      have hmk : m + ps[j].length ≤ 1073741824 := by omega
      have hmp : 0 < m := by omega
      have HN1 : Hid (m + ps[j].length = k + lensP (ps.take (j + 1))) := by show _ = _; omega
      have R2 := Lib.hid r2
      clear hat hlk hls hm0 r2
      generalize ps[j].length = t at *
      have hj0 : (0 : Int) ≤ (j : Int) := by omega
      have hjn : (j : Int) < (n : Int) := by omega
      have hnn : ¬ (((m + t : Nat) : Int) < 0) := by omega
      go_wp2_with fail
      refine (heldStringS_any q2 t d2 m _ R2.out hmp hmk).mono ?_
      rintro e w3 ⟨rfl, hb3⟩
      go_wp2
      go_roundw
      case rel => exact ⟨j + 1, m + t, by omega, by go_num, by go_num, HN1.out, nx hb hb3⟩
      case measure => simp [intOf]; omega
    · have hjn : j = ps.length := by rw [HN.out]; omega
      have HE : Hid (m = k + lensP ps) := by have := HM.out; rw [hjn, List.take_length] at this; exact this
      clear hjn
      go_wp2
      go_ret
      exact ⟨ret_int (by rw [HE.out]), hb⟩
end Go.Proofs.Ytdoclfbfhlgejad
