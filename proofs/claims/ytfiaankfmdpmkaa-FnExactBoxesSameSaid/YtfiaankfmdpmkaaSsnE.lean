/-
  Sessions in the exact laws: sizes, copies, how a session that came in reads. No statement is proved here.
-/
import Derived.Test.YtfiaankfmdpmkaaSsnB
import Derived.Test.YtfiaankfmdpmkaaMalU
import Derived.Deep.Cut
namespace Go.Proofs.Ytfiaankfmdpmkaa
open Go.ChangeShapes Go.WideShapes Go.ChangeAt Go.RowKit
open Go.ChangeMaps (open_string shut_string)
open Go.Deep

def SizedNs (t : Int) (ms : List Ml) (w : World) (e : Ending) (w' : World) : Prop := ∃ r : Int, e = .returned (.int .i64 r) ∧ -1 ≤ r ∧ r ≤ t ∧ (0 ≤ r → ms.length ≤ 1048576 ∧ ∀ m ∈ ms, SmallM 1048576 m) ∧ Below w.heap.size w w'
theorem sizedNs_no {t : Int} {ms : List Ml} {w w' : World} (ht : 0 ≤ t) (hb : Below w.heap.size w w') : SizedNs t ms w (.returned (.int .i64 (-1))) w' := ⟨-1, rfl, by omega, by omega, fun h => by omega, hb⟩
set_option maxRecDepth 100000 in
set_option maxHeartbeats 4000000 in
theorem szMailS_any (a : Option Addr) (n c : Nat) (xs : List MlA) (t : Int) (w : World) (hx : xs.length = n) (h1 : RdMs maxLen w a xs) (hn : n ≤ maxLen) (ht0 : 0 ≤ t) (ht : t ≤ 1048576) :
    Calls Try.prog 15 #[.slice a n c, .int .i64 t] w (SizedNs t (xs.map (·.m)) w) := by
  unfold maxLen at hn
  have X1 := Lib.hid h1
  have L1 := Lib.hid hx
  clear h1 hx
  by_cases hbig : t - n < 0
  · go_enter Try.func15, Try.ntmps15
    go_wp2
    go_ret
    exact sizedNs_no ht0 (Below.refl _ _)
  · go_enter Try.func15, Try.ntmps15
    go_wp2_with fail
    go_loopw [1, 5] (fun l i wr => ∃ (k : Nat) (r : Int), k ≤ n ∧ i = .int .i64 k ∧ l = .int .i64 r ∧ 0 ≤ r ∧ r ≤ t ∧ Below w.heap.size w wr ∧ ∀ j, j < k → (hj : j < xs.length) → SmallM 1048576 xs[j].m) (fun _ i _ => n - (intOf i).toNat)
    case atStart => exact ⟨0, t - n, Nat.zero_le _, rfl, rfl, by omega, by omega, Below.refl _ _, fun j h => by omega⟩
    case round =>
      obtain ⟨k, r, hk, rfl, rfl, hr0, hrt, hb, hall⟩ := hrel
      have HALL := Lib.hid hall
      clear hall
      by_cases hlt : k < n
      · have j1 : k < xs.length := by rw [L1.out]; exact hlt
        obtain ⟨b1, o1, rfl, hb1, p0, p1, p2, p3⟩ := (X1.out.below hb).at j1
        have hkn : (k : Int) < (n : Int) := by omega
        have hk0 : (0 : Int) ≤ (k : Int) := by omega
        have HC : Hid (Calls Try.prog 21 #[.agg #[.string (str xs[k].m.frm), .slice xs[k].a1 xs[k].m.to.length xs[k].c1, .slice xs[k].a2 xs[k].m.lines.length xs[k].c2], .int .i64 r] wr (SizedN r xs[k].m wr)) := szMail_any xs[k] r wr p3 hr0 (by omega)
        clear p3
        obtain ⟨q, hq⟩ : ∃ q, q = xs[k].m := ⟨_, rfl⟩
        have HQ := Lib.hid hq
        rw [← hq] at HC p0 p1 p2
        clear hq
        generalize xs[k].a1 = aa1 at *
        generalize xs[k].a2 = aa2 at *
        generalize xs[k].c1 = cc1 at *
        generalize xs[k].c2 = cc2 at *
        go_wp2_with fail
        refine HC.out.mono ?_
        rintro e w5 ⟨r2, rfl, hr1, hr2, hsm, hb5⟩
        have HSM := Lib.hid hsm
        have hbx := nx hb hb5
        clear hsm p0 p1 p2
        by_cases hneg : r2 < 0
        · go_wp2
          go_ret
          exact sizedNs_no ht0 hbx
        · go_wp2
          go_roundw
          case rel => exact ⟨k + 1, r2, by omega, by go_num, rfl, by omega, by omega, hbx, fun j hj hjx => by
            by_cases e : j = k
            · subst e; rw [← HQ.out]; exact HSM.out (by omega)
            · exact HALL.out j (by omega) hjx⟩
          case measure => simp [intOf]; omega
      · go_wp2
        go_ret
        exact ⟨r, rfl, by omega, hrt, fun _ => ⟨by rw [List.length_map, L1.out]; omega, fun m hm => by
          obtain ⟨x, hx, rfl⟩ := List.mem_map.1 hm
          obtain ⟨j, hj, rfl⟩ := List.getElem_of_mem hx
          exact HALL.out j (by have := L1.out; omega) hj⟩, hb⟩
theorem mlInfo : (Try.prog.info? 38).map (fun i => (i.zero, i.size, i.bytes)) = some (some (.agg #[.string ⟨#[]⟩, .slice none 0 0, .slice none 0 0]), 3, 64) := by kernel_rfl
theorem row_keepM {T : TypeId} {k B n : Nat} {v : Value} {L : List Value} {w w' : World} (h : w.ownsRow B T k v n L) (b : Below w.heap.size w w') : w'.ownsRow B T k v n L := by
  refine ⟨h.1, ?_⟩
  rcases h.2 with hn | ⟨g, cap, cur, hv, hg1, hg2, rest⟩
  · exact .inl hn
  · exact .inr ⟨g, cap, cur, hv, hg1, by rw [b.block g (lt_of_block hg2), hg2], rest⟩
theorem row_cellM {T : TypeId} {k B n g c : Nat} {L : List Value} {w : World} (h : w.ownsRow B T k (.slice (some ⟨g, 0, none⟩) n c) n L) (j : Nat) (hj : j < L.length) : ∃ v, w.cell? ⟨g, j, none⟩ = some v := by
  have := h.cells (g := g) rfl j _ (List.getElem?_eq_getElem hj)
  rw [add0] at this; exact ⟨_, this⟩
theorem set3_getM {L : List Value} {k : Nat} (h : k * 3 + 2 < L.length) (s0 s1 s2 : Value) : (((L.set (k * 3) s0).set (k * 3 + 1) s1).set (k * 3 + 2) s2)[k * 3]? = some s0 ∧ (((L.set (k * 3) s0).set (k * 3 + 1) s1).set (k * 3 + 2) s2)[k * 3 + 1]? = some s1 ∧ (((L.set (k * 3) s0).set (k * 3 + 1) s1).set (k * 3 + 2) s2)[k * 3 + 2]? = some s2 ∧
    ∀ i, i < k * 3 → (((L.set (k * 3) s0).set (k * 3 + 1) s1).set (k * 3 + 2) s2)[i]? = L[i]? := by
  refine ⟨?_, ?_, ?_, fun i hi => ?_⟩
  · rw [List.getElem?_set_ne (by omega), List.getElem?_set_ne (by omega), List.getElem?_set_self (by omega)]
  · rw [List.getElem?_set_ne (by omega), List.getElem?_set_self (by simp; omega)]
  · rw [List.getElem?_set_self (by simp; omega)]
  · rw [List.getElem?_set_ne (by omega), List.getElem?_set_ne (by omega), List.getElem?_set_ne (by omega)]
/-- The row's k-th mail, in a row that is being made. -/
def mrow (B : Nat) (w : World) (L : List Value) (m : Ml) (j : Nat) : Prop := ∃ x : MlA, x.m = m ∧ L[j * 3]? = some (.string (str x.m.frm)) ∧ L[j * 3 + 1]? = some (.slice x.a1 x.m.to.length x.c1) ∧ L[j * 3 + 2]? = some (.slice x.a2 x.m.lines.length x.c2) ∧ OwnM B w x
theorem OwnM.low {B g i : Nat} {w : World} {x : MlA} (h : OwnM B w x) (hg : g < B) (z : Value) : OwnM B (w.setCell ⟨g, i, none⟩ z) x := ⟨h.1.off hg z, h.2.1.off hg z, h.2.2⟩
/-- A row of mails, all in blocks from B on. -/
def HiMs (B : Nat) (w : World) (a : Option Addr) (ys : List MlA) : Prop := (ys.length = 0 ∨ ∃ b, a = some ⟨b, 0, none⟩ ∧ B ≤ b ∧ b < w.heap.size ∧ ∀ i, (h : i < ys.length) → ∀ d v, (mlC ys[i])[d]? = some v → w.cell? ⟨b, 0 + i * 3 + d, none⟩ = some v) ∧ ∀ y ∈ ys, OwnM B w y
theorem HiMs.keep {B : Nat} {w w' : World} {a : Option Addr} {ys : List MlA} (h : HiMs B w a ys) (k : Below w.heap.size w w') : HiMs B w' a ys := by
  refine ⟨?_, fun y hy => (h.2 y hy).keep k⟩
  rcases h.1 with e | ⟨b, e, hB, hl, hc⟩
  · exact .inl e
  · exact .inr ⟨b, e, hB, Nat.lt_of_lt_of_le hl k.size, fun i hi d v hd => (below_at k hl).trans (hc i hi d v hd)⟩
theorem HiMs.low {B g i : Nat} {w : World} {a : Option Addr} {ys : List MlA} (h : HiMs B w a ys) (hg : g < B) (z : Value) : HiMs B (w.setCell ⟨g, i, none⟩ z) a ys := by
  refine ⟨?_, fun y hy => (h.2 y hy).low hg z⟩
  rcases h.1 with e | ⟨b, e, hB, hl, hc⟩
  · exact .inl e
  · exact .inr ⟨b, e, hB, by simpa [World.setCell] using hl, fun j hj d v hd => (cell_blk (by omega) _).trans (hc j hj d v hd)⟩
theorem HiMs.base {B C : Nat} {w : World} {a : Option Addr} {ys : List MlA} (h : HiMs B w a ys) (k : C ≤ B) : HiMs C w a ys := by
  refine ⟨?_, fun y hy => (h.2 y hy).base k⟩
  rcases h.1 with e | ⟨b, e, hB, hl, hc⟩
  · exact .inl e
  · exact .inr ⟨b, e, by omega, hl, hc⟩
theorem HiMs.rd {B M : Nat} {w : World} {a : Option Addr} {ys : List MlA} (h : HiMs B w a ys) (hs : ∀ y ∈ ys, SmallM M y.m) : RdMs M w a ys := by
  refine ⟨⟨rfl, ?_⟩, fun y hy => (h.2 y hy).rd (hs y hy)⟩
  rcases h.1 with e | ⟨b, e, hB, hl, hc⟩
  · exact .inl e
  · exact .inr ⟨b, 0, e, hl, hc⟩
/-- A row of mails of the call's own is returned. -/
def MsRet (ms : List Ml) (n : Nat) (w : World) (e : Ending) (w' : World) : Prop := ∃ (a : Option Addr) (ys : List MlA), e = .returned (.slice a n n) ∧ ys.map (·.m) = ms ∧ ys.length = n ∧ HiMs w.heap.size w' a ys ∧ (a = none → n = 0) ∧ Below w.heap.size w w'
set_option maxRecDepth 100000 in
set_option maxHeartbeats 4000000 in
theorem toMailS_any (a : Option Addr) (n c : Nat) (xs : List MlA) (w : World) (hx : xs.length = n) (h1 : RdMs 1048576 w a xs) (hn : n ≤ 1048576) :
    Calls Try.prog 17 #[.slice a n c] w (MsRet (xs.map (·.m)) n w) := by
  obtain ⟨i0, hi, hz0, hz1, hz2⟩ := info_parts mlInfo
  have HLEN := Lib.hid hx
  have HR := Lib.hid h1
  clear hx h1
  go_enter Try.func17, Try.ntmps17
  go_wp2_with (at_make; refine wpList_make_full _ rfl _ _ 32 rfl w.heap.size 38 i0 (.agg #[.string ⟨#[]⟩, .slice none 0 0, .slice none 0 0]) 3 Try.underlying32 hi hz0 hz1 _ _ (n : Int) (n : Int) n rfl rfl rfl rfl ?c1 ?c2 ?c3 ?_)
  case c1 => rw [hz2]; omega
  case c2 => unfold maxLen; omega
  case c3 => exact Nat.le_refl _
  intro w1 hown hgrow
  have hb1 : Below w.heap.size w w1 := (Below.refl _ _).grown hgrow (Nat.le_refl _) (fun k hk => by cases hk)
  have hsz1 := (hown.lt w.heap.size rfl).2
  go_wp2_with fail
  go_loopw [4] (fun i wr => ∃ (k : Nat) (L : List Value), k ≤ n ∧ i = .int .i64 k ∧ Below w.heap.size w wr ∧ wr.ownsRow w.heap.size 38 3 (.slice (some ⟨w.heap.size, 0, none⟩) n n) n L ∧ w.heap.size < wr.heap.size ∧ ∀ j, j < k → (hj : j < xs.length) → mrow (w.heap.size + 1) wr L xs[j].m j) (fun i _ => n - (intOf i).toNat)
  case atStart => exact ⟨0, _, Nat.zero_le _, rfl, hb1, hown, hsz1, fun j h => by omega⟩
  case round =>
    obtain ⟨k, L, hk, rfl, hb, hO, hzr, hL⟩ := hrel
    have HL := Lib.hid hL
    clear hL
    by_cases hlt : k < n
    · have dk : decide ((k : Int) < n) = true := decide_eq_true (by omega)
      have hkx : k < xs.length := by rw [HLEN.out]; exact hlt
      obtain ⟨b, off, rfl, hbl, q0, q1, q2, q3⟩ := (HR.out.below hb).at hkx
      have HC : Hid (Calls Try.prog 22 #[.agg #[.string (str xs[k].m.frm), .slice xs[k].a1 xs[k].m.to.length xs[k].c1, .slice xs[k].a2 xs[k].m.lines.length xs[k].c2]] wr (MalRet xs[k].m wr)) := toMail_any xs[k] wr q3
      have hlL : L.length = n * 3 := hO.1
      have h3 : k * 3 + 2 < L.length := by rw [hlL]; omega
      have HS3 := Lib.hid (set3_getM h3)
      clear q3
      obtain ⟨q, hq⟩ : ∃ q, q = xs[k].m := ⟨_, rfl⟩
      have HQ := Lib.hid hq
      rw [← hq] at HC q0 q1 q2
      clear hq
      generalize xs[k].a1 = aa1 at *
      generalize xs[k].a2 = aa2 at *
      generalize xs[k].c1 = cc1 at *
      generalize xs[k].c2 = cc2 at *
      go_wp2_with fail
      refine HC.out.mono ?_
      rintro e w2 ⟨x, hxq, rfl, hox, hb2⟩
      have HOX := Lib.hid hox
      have HXQ := Lib.hid hxq
      have hO2 := row_keepM hO hb2
      have hb02 := nx hb hb2
      have hz2' : w.heap.size < w2.heap.size := Nat.lt_of_lt_of_le hzr hb2.size
      obtain ⟨v0, hv0⟩ := row_cellM hO2 (k * 3) (by omega)
      obtain ⟨v1, hv1⟩ := row_cellM hO2 (k * 3 + 1) (by omega)
      obtain ⟨v2, hv2⟩ := row_cellM hO2 (k * 3 + 2) (by omega)
      have f0 : w2.frozen? ⟨w.heap.size, k * 3, none⟩ = false := hO2.frozenAt _
      have f1 : w2.frozen? ⟨w.heap.size, k * 3 + 1, none⟩ = false := hO2.frozenAt _
      have f2 : w2.frozen? ⟨w.heap.size, k * 3 + 2, none⟩ = false := hO2.frozenAt _
      have hmV : mlV x = .agg #[.string (str x.m.frm), .slice x.a1 x.m.to.length x.c1, .slice x.a2 x.m.lines.length x.c2] := rfl
      rw [hmV]
      have HST := Lib.hid (((hO2.stored (k * 3) (.string (str x.m.frm))).1.stored (k * 3 + 1) (.slice x.a1 x.m.to.length x.c1)).1.stored (k * 3 + 2) (.slice x.a2 x.m.lines.length x.c2)).1
      have HNX : Hid (∀ j, j < k + 1 → (hj : j < xs.length) → mrow (w.heap.size + 1) (((w2.setCell ⟨w.heap.size, k * 3, none⟩ (.string (str x.m.frm))).setCell ⟨w.heap.size, k * 3 + 1, none⟩ (.slice x.a1 x.m.to.length x.c1)).setCell ⟨w.heap.size, k * 3 + 2, none⟩ (.slice x.a2 x.m.lines.length x.c2)) (((L.set (k * 3) (.string (str x.m.frm))).set (k * 3 + 1) (.slice x.a1 x.m.to.length x.c1)).set (k * 3 + 2) (.slice x.a2 x.m.lines.length x.c2)) xs[j].m j) := fun j hj hjx => by
        obtain ⟨e0, e1, e2, e3⟩ := HS3.out (.string (str x.m.frm)) (.slice x.a1 x.m.to.length x.c1) (.slice x.a2 x.m.lines.length x.c2)
        by_cases e : j = k
        · subst e
          exact ⟨x, by rw [HXQ.out, HQ.out], e0, e1, e2, (((OwnM.base HOX.out (by omega)).low (Nat.lt_succ_self _) _).low (Nat.lt_succ_self _) _).low (Nat.lt_succ_self _) _⟩
        · obtain ⟨x0, k0, k1, k2, k3, k4⟩ := HL.out j (by omega) hjx
          exact ⟨x0, k0, by rw [e3 _ (by omega), k1], by rw [e3 _ (by omega), k2], by rw [e3 _ (by omega), k3], (((k4.keep hb2).low (Nat.lt_succ_self _) _).low (Nat.lt_succ_self _) _).low (Nat.lt_succ_self _) _⟩
      clear hlL h3 hO hO2 hox hxq hmV
      generalize str x.m.frm = xs0 at *
      generalize x.m.to.length = xn at *
      generalize x.m.lines.length = xk at *
      generalize x.a1 = xa at *
      generalize x.a2 = xb at *
      generalize x.c1 = xc at *
      generalize x.c2 = xd at *
      go_wp2
      go_roundw
      case rel => exact ⟨k + 1, _, by omega, by go_num, (((hb02.setCell (by simp) _).setCell (by simp) _).setCell (by simp) _), HST.out, by simpa using hz2', HNX.out⟩
      case measure => simp [intOf]; omega
    · have dk : decide ((k : Int) < n) = false := decide_eq_false (by omega)
      have hex : ∀ i, (h : i < xs.length) → ∃ x : MlA, x.m = xs[i].m ∧ L[i * 3]? = some (.string (str x.m.frm)) ∧ L[i * 3 + 1]? = some (.slice x.a1 x.m.to.length x.c1) ∧ L[i * 3 + 2]? = some (.slice x.a2 x.m.lines.length x.c2) ∧ OwnM (w.heap.size + 1) wr x := fun i h => HL.out i (by have := HLEN.out; omega) h
      have HYS : Hid (∃ ys : List MlA, ys.map (·.m) = xs.map (·.m) ∧ ys.length = n ∧ HiMs w.heap.size wr (some ⟨w.heap.size, 0, none⟩) ys) := by
        refine ⟨(List.range xs.length).map (fun i => if h : i < xs.length then Classical.choose (hex i h) else ⟨ml0, none, 0, none, 0⟩), ?_, by simp [HLEN.out], ?_⟩
        · apply List.ext_getElem (by simp)
          intro i h1 h2
          have hix : i < xs.length := by simpa using h2
          simp only [List.getElem_map, List.getElem_range]
          rw [dif_pos hix]
          exact (Classical.choose_spec (hex i hix)).1
        · have C : ∀ j z, L[j]? = some z → wr.cell? ⟨w.heap.size, 0 + j, none⟩ = some z := fun j z hz => by
            have := hO.cells (g := w.heap.size) rfl j z hz
            rw [add0] at this
            rw [Nat.zero_add]; exact this
          refine ⟨.inr ⟨w.heap.size, rfl, Nat.le_refl _, hzr, fun i hi d v hd => ?_⟩, fun x hx => ?_⟩
          · have hix : i < xs.length := by simpa using hi
            rw [List.getElem_map, List.getElem_range, dif_pos hix] at hd
            obtain ⟨_, k1, k2, k3, _⟩ := Classical.choose_spec (hex i hix)
            match d, hd with
            | 0, hd => injection hd with hd; subst hd; exact C _ _ k1
            | 1, hd => injection hd with hd; subst hd; rw [Nat.add_assoc]; exact C _ _ k2
            | 2, hd => injection hd with hd; subst hd; rw [Nat.add_assoc]; exact C _ _ k3
            | d + 3, hd => cases hd
          · obtain ⟨i, hi, rfl⟩ := List.mem_map.1 hx
            have hix : i < xs.length := List.mem_range.1 hi
            rw [dif_pos hix]
            obtain ⟨k0, _, _, _, k4⟩ := Classical.choose_spec (hex i hix)
            exact k4.base (Nat.le_succ _)
      clear hO hex
      go_wp2
      go_ret
      obtain ⟨ys, y1, y2, y3⟩ := HYS.out
      exact ⟨_, ys, rfl, y1, y2, y3, (fun h => by cases h), hb⟩
end Go.Proofs.Ytfiaankfmdpmkaa
