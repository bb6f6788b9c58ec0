/-
  Several texts in one. No statement is proved here.
-/
import Derived.Test.YtbfjbabpeigloabDoorZip1
import Derived.Lib.Overlaps
import Derived.Lib.AppendZerosOnto
import Derived.Deep.RegionLaw
import Derived.Deep.Cut
import Derived.Stop.Walk2
import Derived.Test.YtbfjbabpeigloabDoorDraw1
import Derived.Test.YtbfjbabpeigloabDoorCards
import Derived.Test.YtbfjbabpeigloabDoorTie
import Derived.Test.YtbfjbabpeigloabDoorAtoms
import Derived.Deep.DeepHandedRow
import Derived.Lib.LaidTab
import Derived.Deep.DeepLaidRun
import Derived.Test.YtbfjbabpeigloabDoorAddr
import Derived.Shelf.Vars
import Derived.ProofKit
import Derived.OpenShut
import Derived.ShutString
import Derived.ChangeOld
import Derived.WalkSmall
import Derived.Test.YtbfjbabpeigloabDoorMalS
import Derived.Test.YtbfjbabpeigloabDoorLists
import Derived.Test.YtbfjbabpeigloabDoorQuietB
import Derived.Deep.QuietTactic
import Derived.BigQuiet
import Derived.Test.YtbfjbabpeigloabDoorParse
import Derived.Test.YtbfjbabpeigloabDoorSplit
import Derived.Test.YtbfjbabpeigloabDoorAddr2
import Derived.Deep.RegionWith
import Derived.Test.YtbfjbabpeigloabDoorMal
import Derived.Test.YtbfjbabpeigloabDoorWordsM
section
namespace Go.Proofs.YtbfjbabpeigloabDoor
open Go.RowKit

theorem Only.of_grown {w w' : World} {o : Option Nat} (h : w.grownBy w' o) : Only o w w' := ⟨h.os, h.tape, h.output, h.size, h.block⟩
theorem flat_take {α : Type} (f : α → List Value) (k : Nat) (hf : ∀ a, (f a).length = k) : ∀ (xs : List α) (i : Nat), (xs.take i).flatMap f = (xs.flatMap f).take (i * k)
  | [], i => by simp
  | x :: xs, 0 => by simp
  | x :: xs, i + 1 => by
    rw [List.take_succ_cons, List.flatMap_cons, List.flatMap_cons, flat_take f k hf xs i, List.take_append, hf, List.take_of_length_le (l := f x) (by rw [hf, Nat.add_mul]; omega), Nat.add_mul, Nat.one_mul, Nat.add_sub_cancel]
theorem flat_drop {α : Type} (f : α → List Value) (k : Nat) (hf : ∀ a, (f a).length = k) : ∀ (xs : List α) (i : Nat), (xs.drop i).flatMap f = (xs.flatMap f).drop (i * k)
  | [], i => by simp
  | x :: xs, 0 => by simp
  | x :: xs, i + 1 => by
    rw [List.drop_succ_cons, List.flatMap_cons, flat_drop f k hf xs i, List.drop_append, hf, List.drop_of_length_le (l := f x) (by rw [hf, Nat.add_mul]; omega), Nat.add_mul, Nat.one_mul, Nat.add_sub_cancel, List.nil_append]
theorem bxC_one (x : BxA) : ∀ v ∈ bxC x, v.oneCell' = true := fun v hv => by
  unfold bxC at hv
  simp at hv
  rcases hv with rfl | rfl <;> rfl
theorem bxCs_one (xs : List BxA) : ∀ v ∈ xs.flatMap bxC, v.oneCell' = true := fun v hv => by
  obtain ⟨x, _, hx⟩ := List.mem_flatMap.1 hv
  exact bxC_one x v hx
/-- A row of boxes into which one was put, in the cells of a row. -/
theorem OwnBs.ins {B n i : Nat} {v v' : Value} {xs : List BxA} {y : BxA} {w w' : World} {o : Option Nat} (h : OwnBs B v xs w) (hy : OwnMs B (.slice y.a y.xs.length y.c) y.xs w) (hap : ∀ x ∈ xs, ApB x y) (hn : xs.length = n) (hi : i ≤ n)
    (hr : w'.ownsRow B 35 2 v' (n + 1) ((xs.flatMap bxC).take (i * 2) ++ bxC y ++ (xs.flatMap bxC).drop (i * 2))) (t : Only o w w') (ho : ∀ g, o = some g → v.ownBlock = some g) : OwnBs B v' (xs.take i ++ y :: xs.drop i) w' := by
  have hm : ∀ {us : List MlA} {u : Value}, OwnMs B u us w → OwnMs B u us w' := fun {us u} hu => hu.turned (Turn.only (P := fun g => v.ownBlock = some g) t ho) (fun g hg hv => by
    rcases hg with hg | ⟨m, hm, hg⟩
    · exact mails_boxes h.1 hu.1 g hg hv
    · rcases hg with hg | hg
      · exact strs_boxes h.1 (hu.2.1 m hm).1 g hg hv
      · exact strs_boxes h.1 (hu.2.1 m hm).2.1 g hg hv)
  refine ⟨?_, fun z hz => ?_, ?_⟩
  · unfold OwnR
    have e : (xs.take i ++ y :: xs.drop i).length = n + 1 := by
      rw [List.length_append, List.length_cons, List.length_take, List.length_drop]; omega
    rw [e, List.flatMap_append, List.flatMap_cons, flat_take bxC 2 bxC_len, flat_drop bxC 2 bxC_len, ← List.append_assoc]
    exact hr
  · rcases List.mem_append.1 hz with hz | hz
    · exact hm (h.2.1 z (List.mem_of_mem_take hz))
    · rcases List.mem_cons.1 hz with rfl | hz
      · exact hm hy
      · exact hm (h.2.1 z (List.mem_of_mem_drop hz))
  · have hp := h.2.2
    rw [← List.take_append_drop i xs] at hp
    obtain ⟨p1, p2, p3⟩ := List.pairwise_append.1 hp
    refine List.pairwise_append.2 ⟨p1, List.pairwise_cons.2 ⟨fun z hz => (hap z (List.mem_of_mem_drop hz)).symm, p2⟩, fun z hz u hu => ?_⟩
    rcases List.mem_cons.1 hu with rfl | hu
    · exact hap z (List.mem_of_mem_take hz)
    · exact p3 z hz u hu
/-- What the library's test on shared memory returns, where there is none. -/
theorem overlapsB (w : World) (vb m vc g o lb cb : Nat) (hne : vb ≠ g) (tA tB : TypeId) (kA kB : Nat) (hsa : w.shape? vb = some (tA, kA)) (hsb : w.shape? g = some (tB, kB)) (hkB : kB ≠ 0) (hfa : w.frozen? ⟨vb, 0, none⟩ = false) (hfe : w.frozen? ⟨vb, kA, none⟩ = false) :
    (callFunc 69 #[.slice (some ⟨vb, 0, none⟩) m vc, .slice (some ⟨g, o, none⟩) lb cb]).run Tryd.prog w = .ok (.value (.bool false)) w := by
  rw [run_callFunc_extern Tryd.func69 (by kernel_rfl) (by kernel_rfl) (by kernel_rfl) (e := Extern.SlicesOverlaps.overlaps #[23, 23] #[4]) (by kernel_rfl),
    Lib.run_overlaps_apart w 23 4 35 Tryd.underlying23 2 (fun w => by kernel_rfl) ⟨vb, 0, none⟩ ⟨g, o, none⟩ m vc lb cb hne tA tB kA kB hsa hsb hkB hfa hfe]
  rfl
def InsRet (B n i : Nat) (L Y : List Value) (o : Option Nat) (w : World) (e : Ending) (w' : World) : Prop := ∃ v', e = .returned v' ∧ w'.ownsRow B 35 2 v' (n + 1) (L.take (i * 2) ++ Y ++ L.drop (i * 2)) ∧ Only o w w' ∧ Below B w w'
theorem bx_size : (Tryd.prog.info? 35).map (·.size) = some 2 := by kernel_rfl
set_option maxRecDepth 100000 in
set_option maxHeartbeats 4000000 in
/-- There is room, and the place is not the end: in place. -/
theorem insB_room (B g n c i vb m vc : Nat) (L Y D : List Value) (w : World) (hm : m = 1) (hi : i < n) (hroom : n + m ≤ c) (hc : c ≤ maxLen) (hL : L = D.take (n * 2)) (hD : D.length = c * 2) (hg : w.heap[g]? = some (.cells D.toArray 35 (0, 0))) (hB : B ≤ g)
    (hY : Y.length = 2) (hYc : ∀ j u, Y[j]? = some u → w.cell? ⟨vb, j, none⟩ = some u) (hY1 : ∀ v ∈ Y, v.oneCell' = true) (hL1 : ∀ v ∈ L, v.oneCell' = true) (hne : vb ≠ g)
    (tA tB : TypeId) (kA kB : Nat) (hsa : w.shape? vb = some (tA, kA)) (hsb : w.shape? g = some (tB, kB)) (hkB : kB ≠ 0) (hfa : w.frozen? ⟨vb, 0, none⟩ = false) (hfe : w.frozen? ⟨vb, kA, none⟩ = false) :
    Calls Tryd.prog 45 #[.slice (some ⟨g, 0, none⟩) n c, .int .i64 i, .slice (some ⟨vb, 0, none⟩) m vc] w (InsRet B n i L Y (some g) w) := by
  unfold maxLen at hc
  have hov : ∀ o lb cb, (callFunc 69 #[.slice (some ⟨vb, 0, none⟩) m vc, .slice (some ⟨g, o, none⟩) lb cb]).run Tryd.prog w = .ok (.value (.bool false)) w := fun o lb cb => overlapsB w vb m vc g o lb cb hne tA tB kA kB hsa hsb hkB hfa hfe
  have HG := Lib.hid hg
  have HYC := Lib.hid hYc
  have HX : Hid (∃ X : List Value, X = L.drop (i * 2) ∧ X.length = (n - i) * 2 ∧ (∀ v ∈ X, v.oneCell' = true) ∧ ∀ j u, X[j]? = some u → w.cell? ⟨g, i * 2 + j, none⟩ = some u) := by
    refine ⟨_, rfl, by rw [List.length_drop, hL, List.length_take]; omega, fun v hv => hL1 v (List.mem_of_mem_drop hv), fun j u hu => ?_⟩
    rw [List.getElem?_drop, hL, List.getElem?_take] at hu
    split at hu
    · unfold World.cell?
      simp only [hg]
      simpa using hu
    · cases hu
  have HEND : Hid (∀ w', w'.heap[g]? = some (.cells (splice (splice D ((i + m) * 2) (L.drop (i * 2))) (i * 2) Y).toArray 35 (0, 0)) → Only (some g) w w' → InsRet B n i L Y (some g) w (.returned (.slice (some ⟨g, 0, none⟩) (n + m) c)) w') := fun w' h1 h2 => by
    have hsp : ((L.drop (i * 2)).length) = (n - i) * 2 := by rw [List.length_drop, hL, List.length_take]; omega
    have l1 : (splice D ((i + m) * 2) (L.drop (i * 2))).length = D.length := length_splice _ _ _ (by rw [hsp]; omega)
    have l2 : (splice (splice D ((i + m) * 2) (L.drop (i * 2))) (i * 2) Y).length = D.length := by rw [length_splice _ _ _ (by rw [l1, hY]; omega), l1]
    have hin := splice_in (D := D) (X := L.drop (i * 2)) (Y := Y) (I := i * 2) (J := n * 2) (K := 2) (by omega) (by omega) (by rw [hL]) hY
    refine ⟨_, rfl, ⟨by simp [hL, hY]; omega, .inr ⟨g, c, _, by rw [hm], hB, h1, by omega, by unfold maxLen; omega, by simp [l2, hD], ?_⟩⟩, h2, h2.below (fun q hq => by injection hq with hq; omega) (by have := lt_of_block hg; omega)⟩
    rw [show (i + m) * 2 = i * 2 + 2 by omega] at *
    rw [show (n + 1) * 2 = n * 2 + 2 by omega, List.toList_toArray, hin, hL]
  have hXD : (n - i) * 2 + (i + m) * 2 ≤ D.length := by omega
  have hiD : i * 2 + 2 ≤ D.length := by omega
  have HDL : Hid ((splice D ((i + m) * 2) (L.drop (i * 2))).length = D.length) := length_splice _ _ _ (by rw [List.length_drop, hL, List.length_take]; omega)
  have hz1 : ¬ ((m : Int) = 0) := by omega
  have hz2 : ¬ ((i : Int) = (n : Int)) := by omega
  have hw1 : IntKind.i64.wrap ((i : Int) + (m : Int)) = (i : Int) + (m : Int) := by rw [IntKind.wrap_i64]; omega
  have hb1 : (0 : Int) ≤ (i : Int) + (m : Int) := by omega
  have hin : i ≤ n := by omega
  have htn : ((i : Int) + (m : Int)).toNat = i + m := by omega
  have hb2 : ¬ (c = i + m) := by omega
  have hb3 : (i : Int) ≤ (n : Int) + (m : Int) := by omega
  have hb4 : ¬ (c = i) := by omega
  obtain ⟨X, hX, hXl, hX1, hXc⟩ := HX.out
  rw [← hX] at HEND HDL
  have HXC := Lib.hid hXc
  have HXL := Lib.hid hXl
  have hm0 : 0 < m := by omega
  have hmin1 : n - i = Nat.min (n + m - i) (n + m - (i + m)) := by show n - i = min (n + m - i) (n + m - (i + m)); omega
  have hmin2 : m = Nat.min m (n + m - i) := by show m = min m (n + m - i); omega
  have H1 := Lib.hid hmin1
  have H2 := Lib.hid hmin2
  have HYL : Hid (Y.length = m * 2) := by show _ = _; omega
  have HD2 : Hid ((i + m) * 2 + X.length ≤ D.length) := by show _ ≤ _; rw [hXl]; omega
  have HD3 : Hid (i * 2 + Y.length ≤ (splice D ((i + m) * 2) X).length) := by show _ ≤ _; rw [HDL.out]; omega
  clear HX hX hL hL1 hg hYc hXc hXl hm hmin1 hmin2 hXD hiD HDL hD hY
  go_enter Tryd.func45, Tryd.ntmps45
  go_wp2_with (simp only [hov])
  go_region_law (refine step_copyK 2 rfl (.tmp 73) (.tmp 76) 23 23 rfl 35 Tryd.underlying23 bx_size g ((i + m) * 2) (n + m - (i + m)) (c - (i + m)) ⟨g, i * 2, none⟩ (n + m - i) (c - i) (by simp [Act.eval, Act.put]) (by simp [Act.eval, Act.put]) D 35 HG.out X (n - i) H1.out HXL.out (fun j v hj => by rw [Addr.add_lit]; exact HXC.out j v hj) HD2.out hX1 ?_; intro w4 hg4 ho4)
  have ho04 : Only (some g) w w4 := (Only.of_below ((Below.refl _ _).drew)).trans ho4
  have hYc4 : Hid (∀ j u, Y[j]? = some u → w4.cell? ((⟨vb, 0, none⟩ : Addr).add j) = some u) := fun j u hu => by
    have h := HYC.out j u hu
    rw [Addr.add_lit, Nat.zero_add]
    unfold World.cell? at h ⊢
    rw [ho04.block vb (lt_of_cell (HYC.out j u hu)) (fun e => hne (by injection e))]
    exact h
  clear ho4
  obtain ⟨w5, hw5⟩ : ∃ w5, w5 = w4.setRow g (splice (splice D ((i + m) * 2) X) (i * 2) Y).toArray := ⟨_, rfl⟩
  have hcp2 : ∀ ty, (Builtin.copy_ #[23, 23] ty #[.slice (some ⟨g, i * 2, none⟩) (n + m - i) (c - i), .slice (some ⟨vb, 0, none⟩) m vc]).run Tryd.prog w4 = .ok (goInt m) w5 := fun ty => by
    rw [hw5]
    exact run_copyK 2 w4 _ _ ty 35 g (i * 2) (n + m - i) (c - i) ⟨vb, 0, none⟩ m vc _ 35 Y m Tryd.underlying23 bx_size hg4.out H2.out HYL.out hYc4.out HD3.out hY1
  have hg5 : Hid (w5.heap[g]? = some (.cells (splice (splice D ((i + m) * 2) X) (i * 2) Y).toArray 35 (0, 0))) := by
    show _ = _
    rw [hw5]; exact setRow_heap w4 g _ _ _ _ hg4.out
  have ho5 : Only (some g) w4 w5 := by rw [hw5]; exact only_setRow _ _
  clear hw5
  go_wp2_with (simp only [hcp2])
  have HE := Lib.hid (HEND.out w5 hg5.out (ho04.trans ho5))
  go_wp2
  go_ret
  exact HE.out
set_option maxRecDepth 100000 in
set_option maxHeartbeats 4000000 in
/-- There is no room, and the place is not the end: a new row. -/
theorem insB_grow (B g n c i vb m vc : Nat) (L Y : List Value) (w : World) (hm : m = 1) (hi : i < n) (hnc : n ≤ c) (hroom : c < n + m) (hn : n ≤ 1000000) (hL : L.length = n * 2) (hLc : ∀ j u, L[j]? = some u → w.cell? ⟨g, j, none⟩ = some u) (hBw : B ≤ w.heap.size)
    (hY : Y.length = 2) (hYc : ∀ j u, Y[j]? = some u → w.cell? ⟨vb, j, none⟩ = some u) (hY1 : ∀ v ∈ Y, v.oneCell' = true) (hL1 : ∀ v ∈ L, v.oneCell' = true) :
    Calls Tryd.prog 45 #[.slice (some ⟨g, 0, none⟩) n c, .int .i64 i, .slice (some ⟨vb, 0, none⟩) m vc] w (InsRet B n i L Y none w) := by
  obtain ⟨i0, hi0, hz0, hzs, hzb⟩ := info_parts bxInfoC
  have hz1 : ¬ ((m : Int) = 0) := by omega
  have hz2 : ¬ ((i : Int) = (n : Int)) := by omega
  have hz3 : (c : Int) < (n : Int) + (m : Int) := by omega
  have hgw : g < w.heap.size := lt_of_cell (hLc 0 _ (List.getElem?_eq_getElem (by omega)))
  have hvw : vb < w.heap.size := lt_of_cell (hYc 0 _ (List.getElem?_eq_getElem (by omega)))
  have hkk : (n : Int) + (m : Int) - (i : Int) = ((n + m - i : Nat) : Int) := by omega
  have hik : i + (n + m - i) = n + m := by omega
  have hold : (Builtin.firstCells i0.size i (.slice (some ⟨g, 0, none⟩) i c)).run Tryd.prog w.drew = .ok (L.take (i * 2)).toArray w.drew := by
    rw [hzs]
    exact run_firstCells_some w.drew 2 i ⟨g, 0, none⟩ i c (L.take (i * 2)) (by rw [List.length_take]; omega) (fun j v hj => by
      rw [Addr.add_lit, Nat.zero_add]
      rw [List.getElem?_take] at hj
      split at hj
      · exact hLc j v hj
      · cases hj)
  have hrz : ∀ ty, (Builtin.append_ #[23, 3] ty #[.slice (some ⟨g, 0, none⟩) i c, .int .i64 ((n : Int) + (m : Int) - (i : Int))]).run Tryd.prog w =
      .ok (.slice (some ⟨w.heap.size, 0, none⟩) (n + m) (grownCap w (n + m) c 35)) (w.drew.alloc (.cells ((L.take (i * 2)).toArray ++ Builtin.zeroCells (Value.agg #[.string ⟨#[]⟩, .slice none 0 0]).cells (n + m - i) ++ Builtin.zeroCells (Value.agg #[.string ⟨#[]⟩, .slice none 0 0]).cells (grownCap w (n + m) c 35 - (n + m))) 35)) := fun ty => by
    have h := Lib.run_append_grow_zeros w 23 3 ty 35 i0 _ .i64 .i64 Tryd.underlying23 Tryd.underlying3 hi0 hz0 (some ⟨g, 0, none⟩) i c (L.take (i * 2)) hold (n + m - i) (by omega) (by rw [hzs]; omega) (by omega) (by omega) (by rw [hzb]; omega) (by rw [hzb, hik]; exact growslice_fits hroom (by omega))
    rw [hik] at h
    rw [hkk]
    exact h
  obtain ⟨G, hG⟩ : ∃ G, G = grownCap w (n + m) c 35 := ⟨_, rfl⟩
  obtain ⟨ROW, hROW⟩ : ∃ ROW : List Value, ROW.toArray = (L.take (i * 2)).toArray ++ Builtin.zeroCells (Value.agg #[.string ⟨#[]⟩, .slice none 0 0]).cells (n + m - i) ++ Builtin.zeroCells (Value.agg #[.string ⟨#[]⟩, .slice none 0 0]).cells (G - (n + m)) := ⟨_, Array.toArray_toList⟩
  rw [← hG] at hrz
  rw [← hROW] at hrz
  have hGn : n + m ≤ G := by rw [hG]; exact grownCap_ge w _ _ _
  have hGm : G ≤ maxLen := by rw [hG]; exact grownCap_le_maxLen w (n + m) c 35 (by unfold maxLen; omega)
  have hRl : ROW.length = G * 2 := by
    have : ROW.length = ROW.toArray.size := rfl
    rw [this, hROW]
    simp [Builtin.zeroCells, Value.cells]
    omega
  have hRt : ROW.take (i * 2) = L.take (i * 2) := by
    have e : ROW = ROW.toArray.toList := rfl
    rw [e, hROW]
    simp only [Array.toList_append, List.append_assoc]
    exact List.take_left' (by rw [List.length_take]; omega)
  have hG63 : G ≤ 9223372036854775807 := by unfold maxLen at hGm; omega
  obtain ⟨X, hX⟩ : ∃ X, X = L.drop (i * 2) := ⟨_, rfl⟩
  have hXl : X.length = (n - i) * 2 := by rw [hX, List.length_drop]; omega
  have hX1 : ∀ v ∈ X, v.oneCell' = true := fun v hv => hL1 v (List.mem_of_mem_drop (hX ▸ hv))
  have hXc : ∀ j u, X[j]? = some u → w.cell? ⟨g, i * 2 + j, none⟩ = some u := fun j u hu => hLc _ u (by rw [hX, List.getElem?_drop] at hu; exact hu)
  have hRn : (n + m) * 2 ≤ ROW.length := by rw [hRl]; exact Nat.mul_le_mul_right _ hGn
  have hl1 : (splice ROW (i * 2) Y).length = ROW.length := length_splice _ _ _ (by omega)
  have HEND : Hid (∀ w', w'.heap[w.heap.size]? = some (.cells (splice (splice ROW (i * 2) Y) ((i + m) * 2) X).toArray 35 (0, 0)) → Below w.heap.size w w' → InsRet B n i L Y none w (.returned (.slice (some ⟨w.heap.size, 0, none⟩) (n + m) G)) w') := fun w' h1 h2 => by
    have l2 : (splice (splice ROW (i * 2) Y) ((i + m) * 2) X).length = ROW.length := by rw [length_splice _ _ _ (by omega), hl1]
    refine ⟨_, rfl, ⟨by rw [List.length_append, List.length_append, List.length_take, List.length_drop]; omega, .inr ⟨w.heap.size, G, _, by rw [hm], hBw, h1, by omega, hGm, by show (splice _ _ _).length = _; omega, ?_⟩⟩, Only.of_below h2, h2.mono hBw⟩
    rw [List.toList_toArray, ← hX, ← hRt]
    exact splice_two (D := ROW) (C := (n + 1) * 2) (by omega) rfl ⟨by omega, by omega⟩ hY (by omega)
  have hGi : ¬ (G = i) := by omega
  have hGim : ¬ (G = i + m) := by omega
  have hci : ¬ (c = i) := by omega
  have hgN : g ≠ w.heap.size := by omega
  have hvN : vb ≠ w.heap.size := by omega
  have hw1 : IntKind.i64.wrap ((i : Int) + (m : Int)) = (i : Int) + (m : Int) := by rw [IntKind.wrap_i64]; omega
  have hb1 : (0 : Int) ≤ (i : Int) + (m : Int) := by omega
  have hin : i ≤ n := by omega
  have htn : ((i : Int) + (m : Int)).toNat = i + m := by omega
  have hb3 : (i : Int) ≤ (n : Int) := by omega
  have hm0 : 0 < m := by omega
  obtain ⟨W1, hW1⟩ : ∃ W1, W1 = w.drew.alloc (.cells ROW.toArray 35) := ⟨_, rfl⟩
  rw [← hW1] at hrz
  have hb01 : Below w.heap.size w W1 := by rw [hW1]; exact ((Below.refl _ _).drew).alloc (Nat.le_refl _) _
  have hg1 : Hid (W1.heap[w.heap.size]? = some (.cells ROW.toArray 35 (0, 0))) := by
    show _ = _
    rw [hW1]; show (w.heap.push _)[w.heap.size]? = _; simp
  obtain ⟨W2, hW2⟩ : ∃ W2, W2 = W1.setRow w.heap.size (splice ROW (i * 2) Y).toArray := ⟨_, rfl⟩
  have hcp1 : ∀ ty, (Builtin.copy_ #[23, 23] ty #[.slice (some ⟨w.heap.size, i * 2, none⟩) (n + m - i) (G - i), .slice (some ⟨vb, 0, none⟩) m vc]).run Tryd.prog W1 = .ok (goInt m) W2 := fun ty => by
    rw [hW2]
    exact run_copyK 2 W1 _ _ ty 35 w.heap.size (i * 2) (n + m - i) (G - i) ⟨vb, 0, none⟩ m vc _ 35 Y m Tryd.underlying23 bx_size hg1.out (by show m = min m (n + m - i); omega) (by omega) (fun j u hu => by rw [Addr.add_lit, Nat.zero_add]; exact (below_at hb01 hvw).trans (hYc j u hu)) (by omega) hY1
  have hg2 : Hid (W2.heap[w.heap.size]? = some (.cells (splice ROW (i * 2) Y).toArray 35 (0, 0))) := by
    show _ = _
    rw [hW2]; exact setRow_heap W1 w.heap.size _ _ _ _ hg1.out
  have hb02 : Below w.heap.size w W2 := hb01.trans ((by rw [hW2]; exact only_setRow _ _ : Only (some w.heap.size) W1 W2).below (fun q hq => by injection hq with hq; omega) (by have := hb01.size; omega))
  have HXC : Hid (∀ u : World, Below w.heap.size w u → ∀ j v, X[j]? = some v → u.cell? ((⟨g, i * 2, none⟩ : Addr).add j) = some v) := fun u hu j v hv => by
    rw [Addr.add_lit]; exact (below_at hu hgw).trans (hXc j v hv)
  have H1 : Hid (n - i = Nat.min (n - i) (n + m - (i + m))) := by show n - i = min (n - i) (n + m - (i + m)); omega
  have HXL : Hid (X.length = (n - i) * 2) := hXl
  have HD2 : Hid ((i + m) * 2 + X.length ≤ (splice ROW (i * 2) Y).length) := by show _ ≤ _; rw [hl1]; omega
  clear hkk hik hold hROW hG hRl hRt hRn hL hLc hY hYc hW1 hW2 hX hXl hXc hl1 hm hg1 hb01 hgw hvw hi0 hz0 hzs hzb
  generalize splice ROW (i * 2) Y = R2 at *
  have hNs : Hid (w.heap.size ≤ W2.drew.heap.size) := hb02.size
  generalize w.heap.size = N at *
  go_enter Tryd.func45, Tryd.ntmps45
  go_wp2_with (first
    | (at_builtin; refine Lib.wpList_append_run _ rfl _ _ _ _ rfl _ _ rfl rfl _ _ (hrz _) ?_)
    | (simp only [hcp1]))
  go_region_law (refine step_copyK 2 rfl (.tmp 50) (.tmp 53) 23 23 rfl 35 Tryd.underlying23 bx_size N ((i + m) * 2) (n + m - (i + m)) (G - (i + m)) ⟨g, i * 2, none⟩ (n - i) (c - i) (by simp [Act.eval, Act.put]) (by simp [Act.eval, Act.put]) R2 35 hg2.out X (n - i) H1.out HXL.out (HXC.out _ hb02.drew) HD2.out hX1 ?_; intro w4 hg4 ho4)
  have hb04 : Below N w w4 := hb02.trans (((Below.refl _ _).drew).trans (ho4.below (fun q hq => by injection hq with hq; omega) hNs.out))
  have HE := Lib.hid (HEND.out w4 hg4.out hb04)
  clear ho4
  go_wp2
  go_ret
  exact HE.out
set_option maxRecDepth 100000 in
set_option maxHeartbeats 2000000 in
/-- One box put into a row of boxes of the call's own. -/
theorem insB_any (B : Nat) (a : Option Addr) (n c i vb : Nat) (xs : List BxA) (y : BxA) (w : World) (h : OwnBs B (.slice a n c) xs w) (hn : xs.length = n) (hi : i ≤ n) (hn1 : n ≤ 1000000) (hBw : B ≤ w.heap.size) (hy : OwnMs B (.slice y.a y.xs.length y.c) y.xs w) (hap : ∀ x ∈ xs, ApB x y)
    (hc : MK2 w vb (.string (str y.path)) (.slice y.a y.xs.length y.c)) (hne : ∀ g, (Value.slice a n c).ownBlock = some g → vb ≠ g) (hsh : ∃ t k, w.shape? vb = some (t, k) ∧ w.frozen? ⟨vb, k, none⟩ = false) (hfa : w.frozen? ⟨vb, 0, none⟩ = false) :
    Calls Tryd.prog 45 #[.slice a n c, .int .i64 i, .slice (some ⟨vb, 0, none⟩) 1 1] w fun e w' => ∃ v', e = .returned v' ∧ OwnBs B v' (xs.take i ++ y :: xs.drop i) w' ∧ Below B w w' := by
  have hyc : ∀ j u, (bxC y)[j]? = some u → w.cell? ⟨vb, j, none⟩ = some u := fun j u hu => by
    match j, hu with
    | 0, hu => injection hu with hu; subst hu; exact hc.1
    | 1, hu => injection hu with hu; subst hu; exact hc.2
    | j + 2, hu => cases hu
  by_cases hin : i = n
  · subst hin
    have HO := Lib.hid h
    have HY := Lib.hid hy
    have HC := Lib.hid hc
    have HAP := Lib.hid hap
    have HE : Hid (xs.take i ++ y :: xs.drop i = xs ++ [y]) := by show _ = _; rw [List.take_of_length_le (by omega), List.drop_of_length_le (by omega)]
    rw [HE.out]
    have ei : ((i : Int) == (i : Int)) = true := by simp
    have hi0 : i ≤ c := by
      rcases h.1.2 with ⟨e, h0⟩ | ⟨g, cap, cur, hv, _, _, hnc, _⟩
      · injection e with _ _ e3; omega
      · injection hv with _ _ e3; omega
    rcases h.1.2 with ⟨e, h0⟩ | ⟨g, cap, cur, hv, _, _, hnc, hcm, _⟩
    · injection e with e1 e2 e3
      subst e1 e2 e3
      have HL : Hid (xs.length ≤ 1000000) := by show _ ≤ _; omega
      clear h hy hc hap hyc hne hsh hfa hn hi
      go_enter Tryd.func45, Tryd.ntmps45
      go_wp2_with (at_builtin; refine wpList_append_BL rfl _ _ rfl B _ xs y vb rfl rfl HO.out HY.out HC.out hBw HL.out HAP.out ?_)
      intro v' w' hO hb
      have HO1 := Lib.hid hO
      clear hO
      go_wp2
      go_ret
      exact ⟨_, rfl, HO1.out, hb⟩
    · injection hv with e1 e2 e3
      subst e1 e3
      have hcm' : c ≤ 9223372036854775807 := by unfold maxLen at hcm; omega
      have HL : Hid (xs.length ≤ 1000000) := by show _ ≤ _; omega
      clear h hy hc hap hyc hne hsh hfa hn hi e2
      go_enter Tryd.func45, Tryd.ntmps45
      go_wp2_with (at_builtin; refine wpList_append_BL rfl _ _ rfl B _ xs y vb rfl rfl HO.out HY.out HC.out hBw HL.out HAP.out ?_)
      all_goals
        intro v' w' hO hb
        have HO1 := Lib.hid hO
        clear hO
        go_wp2
        go_ret
        exact ⟨_, rfl, HO1.out, hb⟩
  · have hr := h.1
    unfold OwnR at hr
    rw [hn] at hr
    rcases hr.2 with ⟨e, h0⟩ | ⟨g, cap, cur, hv, hBg, hg, hnc, hcm, hsz, htk⟩
    · omega
    · injection hv with e1 _ e3
      subst e1 e3
      have hl2 : (xs.flatMap bxC).length = n * 2 := hr.1
      have fin : ∀ (o : Option Nat), (∀ q, o = some q → (Value.slice (some ⟨g, 0, none⟩) n c).ownBlock = some q) → ∀ e w', InsRet B n i (xs.flatMap bxC) (bxC y) o w e w' → ∃ v', e = .returned v' ∧ OwnBs B v' (xs.take i ++ y :: xs.drop i) w' ∧ Below B w w' := fun o ho e w' ⟨v', he, h1, h2, h3⟩ => ⟨v', he, h.ins hy hap hn hi h1 h2 ho, h3⟩
      by_cases hroom : n + 1 ≤ c
      · obtain ⟨t, k, hs1, hs2⟩ := hsh
        obtain ⟨tB, kB, hsb, hkB⟩ : ∃ tB kB, w.shape? g = some (tB, kB) ∧ kB ≠ 0 := by
          refine ⟨35, cur.size, ?_, by omega⟩
          unfold World.shape?; rw [hg]
        exact (insB_room B g n c i vb 1 1 (xs.flatMap bxC) (bxC y) cur.toList w rfl (by omega) hroom hcm htk.symm (by simpa using hsz) (by simpa using hg) hBg rfl hyc (bxC_one y) (bxCs_one xs) (hne g rfl) t tB k kB hs1 hsb hkB hfa hs2).mono (fun e w' he => fin _ (fun q hq => hq ▸ rfl) e w' he)
      · exact (insB_grow B g n c i vb 1 1 (xs.flatMap bxC) (bxC y) w rfl (by omega) hnc (by omega) hn1 hl2 (fun j u hu => by
          have := hr.cells (g := g) rfl j u hu
          rw [add0] at this; exact this) hBw rfl hyc (bxC_one y) (bxCs_one xs)).mono (fun e w' he => fin _ (fun q hq => by cases hq) e w' he)
end Go.Proofs.YtbfjbabpeigloabDoor
end

section
namespace Go.Proofs.YtbfjbabpeigloabDoor
open Go.RowKit

theorem isBx_small {b : Bx} (h : isBx b = true) : SmallBx 200 b := by
  unfold isBx at h
  simp only [Bool.and_eq_true, decide_eq_true_eq, List.all_eq_true] at h
  refine ⟨?_, by omega, fun m hm => ?_⟩
  · have := isSend_len (l := b.path) (by unfold isSend; rw [h.1]; simp)
    omega
  · exact smallM_draft (isMail_iff.1 (h.2.2 m hm)).1
theorem isBxs_small {bs : List Bx} (h : isBxs bs = true) : ∀ b ∈ bs, SmallBx 200 b := fun b hb => isBx_small (List.all_eq_true.1 (isBxs_upBx h).2.2 b hb)
theorem addO_no {p : List UInt8} {bs : List Bx} (h : addOk p bs = false) : addO p bs = [] := by unfold addO; rw [h]; rfl
theorem addO_yes {p : List UInt8} {bs : List Bx} (h : addOk p bs = true) : addO p bs = addB p bs := by unfold addO; rw [h]; rfl
theorem addOk_no1 {p : List UInt8} {bs : List Bx} (h : isBxs bs = false) : addOk p bs = false := by unfold addOk; rw [h]; rfl
theorem addOk_no2 {p : List UInt8} {bs : List Bx} (h : isPath p = false) : addOk p bs = false := by unfold addOk; rw [h]; simp
theorem addOk_no3 {p : List UInt8} {bs : List Bx} (h : bs.length = 8) : addOk p bs = false := by unfold addOk; rw [decide_eq_false (p := bs.length ≠ 8) (fun k => k h)]; simp
theorem addOk_no4 {p : List UInt8} {bs : List Bx} (h : fndP p (bs.map (·.path)) ≠ none) : addOk p bs = false := by unfold addOk; rw [decide_eq_false h]; simp
theorem addOk_yes {p : List UInt8} {bs : List Bx} (h1 : isBxs bs = true) (h2 : isPath p = true) (h3 : bs.length ≠ 8) (h4 : fndP p (bs.map (·.path)) = none) : addOk p bs = true := by
  unfold addOk; rw [h1, h2, decide_eq_true h3, decide_eq_true h4]; rfl
/-- A row of boxes of the call's own is returned, and whether there is one. -/
def AddRet (bs : List Bx) (ok : Bool) (w : World) (e : Ending) (w' : World) : Prop := ∃ (v : Value) (ys : List BxA), e = .returned (.tuple #[v, .bool ok]) ∧ ys.map BxA.b = bs ∧ OwnBs w.heap.size v ys w' ∧ Below w.heap.size w w'
theorem addRet_no {p : List UInt8} {bs : List Bx} {w w' : World} (h : addOk p bs = false) (hb : Below w.heap.size w w') : AddRet (addO p bs) (addOk p bs) w (.returned (.tuple #[.slice none 0 0, .bool false])) w' :=
  ⟨_, [], by rw [h], by rw [addO_no h]; rfl, OwnBs.nil _ _, hb⟩
set_option maxRecDepth 100000 in
set_option maxHeartbeats 4000000 in
theorem addBox_any (M : Nat) (a : Option Addr) (n c : Nat) (xs : List BxA) (p : List UInt8) (w : World) (en : Env w) (hx : xs.length = n) (h1 : RdBs M w a xs) (hM : M ≤ 1073741000) (hn : n ≤ 1073741000) (hp : p.length ≤ 1073741000) :
    Calls Tryd.prog 17 #[.slice a n c, .string (str p)] w (AddRet (addO p (xs.map BxA.b)) (addOk p (xs.map BxA.b)) w) := by
  have HV : Hid (Calls Tryd.prog 14 #[.slice a n c] w fun e w' => e = .returned (.bool (isBxs (xs.map BxA.b))) ∧ Below w.heap.size w w') := boxesValid_any M a n c xs w en hx h1 hM hn
  have HP : Hid (∀ u, Below w.heap.size w u → Calls Tryd.prog 44 #[.string (str p)] u fun e w' => e = .returned (.bool (isPath p)) ∧ Below u.heap.size u w') := fun u hb => by
    have := pathValid_any (str p) u (en.below hb) (by rw [str_size]; omega)
    rw [str_list] at this; exact this
  have HF : Hid (isBxs (xs.map BxA.b) = true → ∀ u, Below w.heap.size w u → Calls Tryd.prog 33 #[.slice a n c, .string (str p)] u fun e w' => e = .returned (.tuple #[.int .i64 (cntP p ((xs.map BxA.b).map (·.path)) : Nat), .bool (decide (fndP p ((xs.map BxA.b).map (·.path)) ≠ none))]) ∧ Below u.heap.size u w') := fun hq u hb => findBox_any M a n c xs p u hx (h1.below hb) hn (isBxs_upBx hq).1
  have HC : Hid (isBxs (xs.map BxA.b) = true → ∀ u, Below w.heap.size w u → Calls Tryd.prog 34 #[.slice a n c] u (BxsRet (xs.map BxA.b) u)) := fun hq u hb => by
    have h8 := (isBxs_upBx hq).2.1
    rw [List.length_map] at h8
    exact copyBoxes_any a n c xs u hx ((h1.below hb).up (fun x hx => (isBxs_small hq x.b (List.mem_map_of_mem hx)).up (by omega))) (by omega)
  have HL : Hid ((xs.map BxA.b).length = n) := by show _ = _; rw [List.length_map]; exact hx
  have HK := Lib.hid (cntP_le p ((xs.map BxA.b).map (·.path)))
  have HADD : Hid (addB p (xs.map BxA.b) = (xs.map BxA.b).take (cntP p ((xs.map BxA.b).map (·.path))) ++ ⟨p, []⟩ :: (xs.map BxA.b).drop (cntP p ((xs.map BxA.b).map (·.path)))) := rfl
  clear h1 hM hx en
  obtain ⟨bs, hbs⟩ : ∃ bs, bs = xs.map BxA.b := ⟨_, rfl⟩
  rw [← hbs] at HV HF HC HL HK HADD ⊢
  clear hbs
  have HNO := Lib.hid (fun (h : addOk p bs = false) (w' : World) (hb : Below w.heap.size w w') => addRet_no h hb)
  have HYES : Hid (addOk p bs = true → ∀ (v : Value) (ys : List BxA) w', ys.map BxA.b = addB p bs → OwnBs w.heap.size v ys w' → Below w.heap.size w w' → AddRet (addO p bs) (addOk p bs) w (.returned (.tuple #[v, .bool true])) w') := fun h v ys w' h1 h2 h3 => ⟨v, ys, by rw [h], by rw [addO_yes h, h1], h2, h3⟩
  have N1 := Lib.hid (@addOk_no1 p bs)
  have N2 := Lib.hid (@addOk_no2 p bs)
  have N3 := Lib.hid (@addOk_no3 p bs)
  have N4 := Lib.hid (@addOk_no4 p bs)
  have Y1 := Lib.hid (@addOk_yes p bs)
  have HCL : Hid (cntP p (bs.map (·.path)) ≤ n) := by
    have h := HK.out
    rw [List.length_map, HL.out] at h; exact h
  clear HK
  generalize cntP p (bs.map (·.path)) = at' at *
  generalize hfd : decide (fndP p (bs.map (·.path)) ≠ none) = fd at *
  have HFD := Lib.hid hfd
  clear hfd
  obtain ⟨S, hS⟩ : ∃ S, S = str p := ⟨_, rfl⟩
  have HS := Lib.hid hS
  rw [← hS] at HP HF ⊢
  clear hS
  generalize addO p bs = AO at *
  cases hq : isBxs bs with
  | false =>
    have HN := Lib.hid (HNO.out (N1.out hq))
    rw [hq] at HV
    clear hq HNO HYES N1 N2 N3 N4 Y1 HF HC
    generalize addOk p bs = ok at *
    go_enter Tryd.func17, Tryd.ntmps17
    go_wp2_with fail
    refine HV.out.mono ?_
    rintro e w1 ⟨rfl, hb1⟩
    go_wp2
    go_ret2
    exact HN.out _ hb1
  | true =>
    have HF1 := Lib.hid (HF.out hq)
    have HC1 := Lib.hid (HC.out hq)
    rw [hq] at HV
    cases hp' : isPath p with
    | false =>
      have HN := Lib.hid (HNO.out (N2.out hp'))
      rw [hp'] at HP
      clear hq HNO HYES N1 N2 N3 N4 Y1 HF HC HF1 HC1 hp'
      generalize addOk p bs = ok at *
      go_enter Tryd.func17, Tryd.ntmps17
      go_wp2_with fail
      refine HV.out.mono ?_
      rintro e w1 ⟨rfl, hb1⟩
      go_wp2_with fail
      refine (HP.out _ hb1).mono ?_
      rintro e w2 ⟨rfl, hb2⟩
      go_wp2
      go_ret2
      exact HN.out _ (nx hb1 hb2)
    | true =>
      rw [hp'] at HP
      by_cases h8 : n = 8
      · have HN := Lib.hid (HNO.out (N3.out (HL.out.trans h8)))
        have e8 : ((n : Int) == 8) = true := by rw [h8]; rfl
        clear hq HNO HYES N1 N2 N3 N4 Y1 HF HC HF1 HC1 hp' h8
        generalize addOk p bs = ok at *
        go_enter Tryd.func17, Tryd.ntmps17
        go_wp2_with fail
        refine HV.out.mono ?_
        rintro e w1 ⟨rfl, hb1⟩
        go_wp2_with fail
        refine (HP.out _ hb1).mono ?_
        rintro e w2 ⟨rfl, hb2⟩
        go_wp2
        go_ret2
        exact HN.out _ (nx hb1 hb2)
      · have e8 : ((n : Int) == 8) = false := by rw [beq_eq_false_iff_ne]; omega
        cases fd with
        | true =>
          have HN := Lib.hid (HNO.out (N4.out (of_decide_eq_true HFD.out)))
          clear hq HNO HYES N1 N2 N3 N4 Y1 HF HC HC1 hp'
          generalize addOk p bs = ok at *
          go_enter Tryd.func17, Tryd.ntmps17
          go_wp2_with fail
          refine HV.out.mono ?_
          rintro e w1 ⟨rfl, hb1⟩
          go_wp2_with fail
          refine (HP.out _ hb1).mono ?_
          rintro e w2 ⟨rfl, hb2⟩
          have hb02 := nx hb1 hb2
          go_wp2_with fail
          refine (HF1.out _ hb02).mono ?_
          rintro e w3 ⟨rfl, hb3⟩
          go_wp2
          go_ret2
          exact HN.out _ (nx hb02 hb3)
        | false =>
          have HY := Lib.hid (HYES.out (Y1.out hq hp' (by rw [HL.out]; exact h8) (Classical.not_not.1 (of_decide_eq_false HFD.out))))
          have HN8 : Hid (n ≤ 1000000) := by have := (isBxs_upBx hq).2.1; have := HL.out; show _ ≤ _; omega
          clear hq HNO HYES N1 N2 N3 N4 Y1 HF HC hp'
          generalize addOk p bs = ok at *
          go_enter Tryd.func17, Tryd.ntmps17
          go_wp2_with fail
          refine HV.out.mono ?_
          rintro e w1 ⟨rfl, hb1⟩
          go_wp2_with fail
          refine (HP.out _ hb1).mono ?_
          rintro e w2 ⟨rfl, hb2⟩
          have hb02 := nx hb1 hb2
          go_wp2_with fail
          refine (HF1.out _ hb02).mono ?_
          rintro e w3 ⟨rfl, hb3⟩
          have hb03 := nx hb02 hb3
          go_wp2_with fail
          refine (HC1.out _ hb03).mono ?_
          rintro e w4 ⟨v4, ys, rfl, hys, hO, hb4⟩
          obtain ⟨a4, c4, hv4, _⟩ := hO.1.read bxC_len
          have hyl : ys.length = n := by rw [← HL.out, ← hys, List.length_map]
          rw [hyl] at hv4
          subst hv4
          have hb04 := nx hb03 hb4
          have hA : Below w4.heap.size w4 (w4.alloc (.cells #[.string S, .slice none 0 0] 35)) := (Below.refl _ _).alloc (Nat.le_refl _) _
          have hK := MK2.new w4 (.string S) (.slice none 0 0) 35
          rw [HS.out] at hK
          have HI : Hid (Calls Tryd.prog 45 #[.slice a4 n c4, .int .i64 at', .slice (some ⟨w4.heap.size, 0, none⟩) 1 1] (w4.alloc (.cells #[.string S, .slice none 0 0] 35)) fun e w' => ∃ v', e = .returned v' ∧ OwnBs w3.heap.size v' (ys.take at' ++ (⟨p, [], none, 0⟩ : BxA) :: ys.drop at') w' ∧ Below w3.heap.size (w4.alloc (.cells #[.string S, .slice none 0 0] 35)) w') :=
            insB_any w3.heap.size a4 n c4 at' w4.heap.size ys ⟨p, [], none, 0⟩ _ (hO.keep hA) hyl HCL.out HN8.out (by have := hb4.size; have := hA.size; omega) (OwnMs.nil _ _) (fun x hx => ⟨fun g _ h' => (by cases h'), fun m _ m' hm' => (by cases hm')⟩) (by rw [HS.out]; exact hK)
              (fun g hg e => by have := (hO.1.lt g hg).2; omega) ⟨35, 2, (World.shape?_alloc_at _ _ _ rfl).trans rfl, by rw [World.frozen?_alloc_at _ _ _ _ rfl]⟩ (by rw [World.frozen?_alloc_at _ _ _ _ rfl])
          have HM : Hid ((ys.take at' ++ (⟨p, [], none, 0⟩ : BxA) :: ys.drop at').map BxA.b = addB p bs) := by
            show _ = _
            rw [HADD.out, List.map_append, List.map_cons, List.map_take, List.map_drop, hys]; rfl
          have hw34 : w.heap.size ≤ w3.heap.size := hb03.size
          have hb05 := nx hb04 hA
          clear hO hys hK hyl hb4
          go_wp2_with fail
          refine HI.out.mono ?_
          rintro e w6 ⟨v6, rfl, hO6, hb6⟩
          have HE := Lib.hid (HY.out v6 _ w6 HM.out (hO6.base hw34) (hb05.trans (hb6.mono hw34)))
          clear hO6
          go_wp2
          go_ret2
          exact HE.out
end Go.Proofs.YtbfjbabpeigloabDoor
end

section
namespace Go.Proofs.YtbfjbabpeigloabDoor
open Go.ChangeShapes Go.WideShapes Go.ChangeAt Go.RowKit
open Go.ChangeMaps (open_string shut_string)

theorem own : ownKnob Tryd.prog.godebug = none := by kernel_rfl
theorem laidOut : laidOutB Tryd.prog = true := by kernel_rfl
set_option maxRecDepth 100000 in
theorem code_of_trod {H : Type} {enc : TypeId × Value → H} {W : World} {T E : TypeId} {a : Option Addr} {n c : Nat} {d : DataW H} {p : List MemPlace} (hT : Tryd.prog.underlying T = some (.slice E)) (hE : Tryd.prog.underlying E = some (.int .u8)) (hcE : Tryd.prog.cellsOf E = 1)
    (h : DataW.Trod enc Tryd.prog W 0 (fun _ => true) true T (Value.slice a n c) d p) : Code W a n ∧ n ≤ c ∧ c ≤ maxLen := by
  obtain ⟨fuel, hf⟩ := h
  rcases open_ints hT hE hcE hf with ⟨hcs, _⟩ | ⟨x, l, k, zs, hcs, _, hl, hm, hz, _, hcell, hwz⟩
  · simp [Value.cells] at hcs
    obtain ⟨rfl, rfl, rfl⟩ := hcs
    exact ⟨.inl rfl, Nat.le_refl _, by unfold maxLen; omega⟩
  · simp [Value.cells] at hcs
    obtain ⟨rfl, rfl, rfl⟩ := hcs
    refine ⟨?_, hl, hm⟩
    by_cases h0 : n = 0
    · exact .inl h0
    · have hz' : zs.length = c := by simpa using hz
      obtain ⟨b, off, spot⟩ := x
      have hc0 := hcell 0 (by omega)
      have hspot : spot = none := by simpa [Addr.add] using World.cell?_spot hc0
      subst hspot
      have hsh : ∀ i, i < c → W.cell? ⟨b, off + i, none⟩ = some (.int .u8 (zs.getD i 0)) := fun i hi => by
        have := hcell i (by omega)
        rw [show (⟨b, off, none⟩ : Addr).add i = ⟨b, off + i, none⟩ by unfold Addr.add; split <;> simp_all] at this
        exact this
      refine .inr ⟨b, off, rfl, lt_of_cell (hsh 0 (by omega)), fun i hi => ?_⟩
      have hm2 : zs.getD i 0 ∈ zs := by
        rw [List.getD_eq_getElem?_getD, List.getElem?_eq_getElem (by omega)]
        exact List.getElem_mem _
      have hb := bounds_u8 (hwz _ hm2)
      refine ⟨(zs.getD i 0).toNat, by omega, ?_⟩
      rw [hsh i (by omega)]
      congr 2; omega
/-! The table of atoms' other bytes, as a package-level variable that the rows list. -/
theorem tG : Tryd.prog.globalNamed "loop.example/mailwire/impl.atomMarks" = some 1 := by kernel_rfl
theorem tGType : (Tryd.prog.globals[1]?).map (·.type) = some 113 := by kernel_rfl
theorem tCellsE : Tryd.prog.cellsOf 112 = 2 := by kernel_rfl
theorem tCellsT : Tryd.prog.cellsOf 113 = 18 := by kernel_rfl
theorem tCellsB : Tryd.prog.cellsOf 5 = 1 := by kernel_rfl
def tabAt (cs : List Value) (i : Nat) : Int := intOf (cs.getD i undef)
def tabDatum {H : Type} (cs : List Value) : DataW H := .agg ((List.range 9).map fun i => .agg [.lit (.int .u8 (tabAt cs (2 * i))), .lit (.int .u8 (tabAt cs (2 * i + 1)))])
theorem tab_inv {H : Type} {enc : TypeId × Value → H} {w : World} {base fuel : Nat} {sp : Nat → Bool} {held : Bool} {cs : List Value} {x : DataW H × List MemPlace}
    (h : DataW.trod enc Tryd.prog w base sp held fuel 113 cs = some x) :
    cs.length = 18 ∧ (∀ i, i < 18 → cs[i]? = some (.int .u8 (tabAt cs i))) ∧ x = (tabDatum cs, []) := by
  obtain ⟨xs, m, _, rfl, hl, hn, hf⟩ := DataW.trod_array Tryd.underlying113 h
  rw [tCellsT] at hl
  have key : ∀ i, i < 9 → cs[2 * i]? = some (.int .u8 (tabAt cs (2 * i))) ∧ cs[2 * i + 1]? = some (.int .u8 (tabAt cs (2 * i + 1))) ∧ xs[i]? = some (.agg [.lit (.int .u8 (tabAt cs (2 * i))), .lit (.int .u8 (tabAt cs (2 * i + 1)))], []) := by
    intro i hi
    have h1 := hf i hi
    rw [List.getElem?_eq_getElem (by omega)] at h1
    obtain ⟨y0, y1, k, hx, _, g0, g1⟩ := trod_struct2 Tryd.underlying112 h1
    obtain ⟨z0, c0, e0, _⟩ := DataW.trod_int Tryd.underlying5 g0
    obtain ⟨z1, c1, e1, _⟩ := DataW.trod_int Tryd.underlying5 g1
    have q0 : cs[2 * i]? = some (.int .u8 z0) := by
      have := congrArg (·[0]?) c0
      simp only [tCellsE, tCellsB] at this
      simpa [List.getElem?_take, List.getElem?_drop, Nat.mul_comm] using this
    have q1 : cs[2 * i + 1]? = some (.int .u8 z1) := by
      have := congrArg (·[0]?) c1
      simp only [tCellsE, tCellsB] at this
      simpa [List.getElem?_take, List.getElem?_drop, Nat.mul_comm] using this
    have f0 : tabAt cs (2 * i) = z0 := by unfold tabAt; rw [List.getD_eq_getElem?_getD, q0]; rfl
    have f1 : tabAt cs (2 * i + 1) = z1 := by unfold tabAt; rw [List.getD_eq_getElem?_getD, q1]; rfl
    rw [f0, f1]
    refine ⟨q0, q1, ?_⟩
    rw [List.getElem?_eq_getElem (by omega), hx, e0, e1]; rfl
  refine ⟨hl, fun i hi => ?_, ?_⟩
  · rcases Nat.mod_two_eq_zero_or_one i with h2 | h2
    · have := (key (i / 2) (by omega)).1
      rwa [show 2 * (i / 2) = i by omega] at this
    · have := (key (i / 2) (by omega)).2.1
      rwa [show 2 * (i / 2) + 1 = i by omega] at this
  · have hxs : xs = (List.range 9).map fun i => ((.agg [.lit (.int .u8 (tabAt cs (2 * i))), .lit (.int .u8 (tabAt cs (2 * i + 1)))], []) : DataW H × List MemPlace) := by
      apply List.ext_getElem?
      intro i
      by_cases hi : i < 9
      · rw [(key i hi).2.2]; simp [hi]
      · rw [List.getElem?_eq_none (by omega), List.getElem?_eq_none (by simp; omega)]
    rw [hxs]
    unfold tabDatum
    simp [List.map_map, Function.comp_def]
theorem tab_list {cs : List Value} (hl : cs.length = 18) (h : ∀ i, i < 18 → cs[i]? = some (.int .u8 (tabAt cs i))) (hd : (tabDatum cs : DataW Unit) = Rows.laid_loop_example_mailwire_impl_atomMarks) : cs = tabL := by
  unfold tabDatum Rows.laid_loop_example_mailwire_impl_atomMarks at hd
  simp only [List.range, List.range.loop, List.map_cons, List.map_nil, DataW.agg.injEq, List.cons.injEq, DataW.lit.injEq, Lit.int.injEq, true_and, and_true] at hd
  apply List.ext_getElem?
  intro i
  by_cases hi : i < 18
  · rw [h i hi]
    rcases (by omega : i = 0 ∨ i = 1 ∨ i = 2 ∨ i = 3 ∨ i = 4 ∨ i = 5 ∨ i = 6 ∨ i = 7 ∨ i = 8 ∨ i = 9 ∨ i = 10 ∨ i = 11 ∨ i = 12 ∨ i = 13 ∨ i = 14 ∨ i = 15 ∨ i = 16 ∨ i = 17) with rfl | rfl | rfl | rfl | rfl | rfl | rfl | rfl | rfl | rfl | rfl | rfl | rfl | rfl | rfl | rfl | rfl | rfl <;> simp_all [tabL]
  · rw [List.getElem?_eq_none (by omega), List.getElem?_eq_none (by simp [tabL]; omega)]
theorem tab_reads {H : Type} (enc : TypeId × Value → H) (w : World) (base : Nat) (sp : Nat → Bool) (held : Bool) : DataW.trod enc Tryd.prog w base sp held 8 113 tabL = some (tabDatum tabL, []) := by kernel_rfl
/-- From the rows' condition: the table's cells. -/
theorem tab_of_laid {W : World} (h : laidMet Tryd.prog [("loop.example/mailwire/impl.atomMarks", Rows.laid_loop_example_mailwire_impl_atomMarks)] W) : W.var? Tryd.prog "loop.example/mailwire/impl.atomMarks" = some tabL.toArray ∧ Tab W := by
  obtain ⟨ps, ⟨g', t', cs, fuel, p, q, hg', ht', hvar, hd, _, _⟩, _⟩ := h
  obtain rfl := Option.some.inj (tG.symm.trans hg')
  obtain rfl := Option.some.inj (tGType.symm.trans ht')
  obtain ⟨hl, hc, hx⟩ := tab_inv hd
  have hcs := tab_list hl hc (congrArg Prod.fst hx).symm
  have hv : W.var? Tryd.prog "loop.example/mailwire/impl.atomMarks" = some tabL.toArray := by rw [hvar, ← hcs]
  refine ⟨hv, fun j v hj => ?_⟩
  have := World.var?_cell tG hv j
  rw [Nat.zero_add, this]; simpa using hj
/-- The variable read again behind the call. -/
theorem tab_again {H : Type} {enc : TypeId × Value → H} {W W' : World} {gs : List (DataW H)} {ps : List MemPlace} (h : DataW.TrodVars enc Tryd.prog W (fun _ => true) ["loop.example/mailwire/impl.atomMarks"] gs ps) (hv : W.var? Tryd.prog "loop.example/mailwire/impl.atomMarks" = some tabL.toArray) (hb : Below W.heap.size W W') (ht : Tab W) :
    ∃ d : DataW H, gs = [d] ∧ ∀ sp, DataW.TrodVars enc Tryd.prog W' sp ["loop.example/mailwire/impl.atomMarks"] [d] (MemPlace.row ⟨1, 0, none⟩ tabL.toArray.size ++ []) := by
  obtain ⟨g, t, cs, fuel, d, p, rfl, hg, hty, hvar, hd, rfl⟩ := trodVars_one h
  obtain rfl := Option.some.inj (tG.symm.trans hg)
  obtain rfl := Option.some.inj (tGType.symm.trans hty)
  obtain rfl := Option.some.inj (hv.symm.trans hvar)
  obtain ⟨_, _, hx⟩ := tab_inv hd
  have hdd : d = tabDatum tabL := congrArg Prod.fst hx
  subst hdd
  exact ⟨_, rfl, fun sp => trodVars_mk1 tG tGType (var?_below hb tG ht.lt hv) (tab_reads enc W' 0 sp true)⟩
/-- A world for the witness: the settled one, the table holding what its initialiser lays. -/
noncomputable def laidWorld (os : Os) : World :=
  { World.holding Tryd.prog os ⟨#[], #[], []⟩ with heap := (World.holding Tryd.prog os ⟨#[], #[], []⟩).heap.modify 1 fun
      | .cells _ t frozen => .cells tabL.toArray t frozen
      | o => o }
/-! Rows that list two tables of the library's beside the program's. -/
theorem tab_of_laid3 {W : World} (h : laidMet Tryd.prog [("unicode/utf8.acceptRanges", Rows.laid_unicode_utf8_acceptRanges), ("loop.example/mailwire/impl.atomMarks", Rows.laid_loop_example_mailwire_impl_atomMarks), ("unicode/utf8.first", Rows.laid_unicode_utf8_first)] W) : W.var? Tryd.prog "loop.example/mailwire/impl.atomMarks" = some tabL.toArray ∧ Tab W := by
  obtain ⟨ps, ⟨_, _, _, _, _, _, _, _, _, _, ⟨g', t', cs, fuel, p, q, hg', ht', hvar, hd, _, _⟩, _⟩, _⟩ := h
  obtain rfl := Option.some.inj (tG.symm.trans hg')
  obtain rfl := Option.some.inj (tGType.symm.trans ht')
  obtain ⟨hl, hc, hx⟩ := tab_inv hd
  have hcs := tab_list hl hc (congrArg Prod.fst hx).symm
  have hv : W.var? Tryd.prog "loop.example/mailwire/impl.atomMarks" = some tabL.toArray := by rw [hvar, ← hcs]
  refine ⟨hv, fun j v hj => ?_⟩
  have := World.var?_cell tG hv j
  rw [Nat.zero_add, this]; simpa using hj
def accL : List Nat := [128, 191, 160, 191, 128, 159, 144, 191, 128, 143, 0, 0, 0, 0, 0, 0, 0, 0, 0, 0, 0, 0, 0, 0, 0, 0, 0, 0, 0, 0, 0, 0]
def layAt (h : Array Obj) (g : Nat) (C : Array Value) : Array Obj := h.modify g fun
  | .cells _ t frozen => .cells C t frozen
  | o => o
/-- A world for the witness: the settled one, the three tables holding what their initialisers lay. -/
noncomputable def laidWorld3 (os : Os) : World :=
  { World.holding Tryd.prog os ⟨#[], #[], []⟩ with heap := layAt (layAt (layAt (World.holding Tryd.prog os ⟨#[], #[], []⟩).heap 1 tabL.toArray) 2 (Go.Pinned.utf8FirstZ.map fun (n : Nat) => Value.int .u8 n).toArray) 3 (accL.map fun (n : Nat) => Value.int .u8 n).toArray }
set_option maxRecDepth 100000 in
theorem met3 (os : Os) (args : Array Value) : laidMet Tryd.prog [("unicode/utf8.acceptRanges", Rows.laid_unicode_utf8_acceptRanges), ("loop.example/mailwire/impl.atomMarks", Rows.laid_loop_example_mailwire_impl_atomMarks), ("unicode/utf8.first", Rows.laid_unicode_utf8_first)] ((laidWorld3 os).forCall (fun _ _ => 0) ⟨#[], args, []⟩).memory :=
  laidMet_of_run3 8 (by kernel_rfl) (by kernel_rfl) (by kernel_rfl)
theorem mx_of_shaped {W : World} (h : W.ShapedOpen Tryd.prog) : ∃ m, W.cell? ⟨0, 0, none⟩ = some (.int .i64 m) :=
  cell_of_shapedOpen_int (zero := #[.int .i64 0]) (t := 3) h (of_decide_eq_true (by kernel_rfl)) (by kernel_rfl) rfl (by kernel_rfl) (by kernel_rfl) Tryd.underlying3
end Go.Proofs.YtbfjbabpeigloabDoor
end

section
namespace Go.Proofs.YtbfjbabpeigloabDoor
open Go.ChangeShapes Go.WideShapes Go.ChangeAt Go.RowKit
open Go.ChangeMaps (open_string shut_string)

end Go.Proofs.YtbfjbabpeigloabDoor
end

section
namespace Go.Proofs.YtbfjbabpeigloabDoor
open Go.ChangeShapes Go.WideShapes Go.ChangeAt Go.RowKit
open Go.ChangeMaps (open_string shut_string)
open Go.Deep

end Go.Proofs.YtbfjbabpeigloabDoor
end

section
namespace Go.Proofs.YtbfjbabpeigloabDoor
open Go.RowKit

section
variable {M N : Nat} {w : World} {s s' : ByteArray} {a b a' b' : Option Addr} {n c k d n' c' k' d' : Nat} {m m' : Ml}
theorem mailSame_v (h : RdV 1048576 w s a n c b k d m) (h' : RdV 1048576 w s' a' n' c' b' k' d' m') : Calls Tryd.prog 13 #[.agg #[.string s, .slice a n c, .slice b k d], .agg #[.string s', .slice a' n' c', .slice b' k' d']] w fun e w' => e = .returned (.bool (decide (m = m'))) ∧ Below w.heap.size w w' :=
  h.calls2 h' (fun x y hx hy h1 h2 => by
    have := mailSame_any 1048576 x y w h1 h2 (by unfold maxLen; omega)
    rw [hx, hy] at this; exact this)
theorem mailSameS_v (h : RdV 1048576 w s a n c b k d m) (h' : RdV 1048576 w s' a' n' c' b' k' d' m') : Calls Tryd.prog 55 #[.agg #[.string s, .slice a n c, .slice b k d], .agg #[.string s', .slice a' n' c', .slice b' k' d']] w fun e w' => e = .returned (.bool (decide (m = m'))) ∧ Below w.heap.size w w' :=
  h.calls2 h' (fun x y hx hy h1 h2 => by
    have := mailSameS_any 1048576 x y w h1 h2 (by unfold maxLen; omega)
    rw [hx, hy] at this; exact this)
end
end Go.Proofs.YtbfjbabpeigloabDoor
end

section
namespace Go.Proofs.YtbfjbabpeigloabDoor
open Go.RowKit

end Go.Proofs.YtbfjbabpeigloabDoor
end

section
namespace Go.Proofs.YtbfjbabpeigloabDoor
open Go.RowKit

/-- Blocks below G, and those from E on, stay. -/
structure MkS (G E : Nat) (w w' : World) : Prop where
  low : Below G w w'
  high : ∀ k, E ≤ k → k < w.heap.size → w'.heap[k]? = w.heap[k]?
theorem MkS.trans {G E : Nat} {a b c : World} (h : MkS G E a b) (k : MkS G E b c) : MkS G E a c :=
  ⟨h.low.trans k.low, fun i he hi => (k.high i he (Nat.lt_of_lt_of_le hi h.low.size)).trans (h.high i he hi)⟩
theorem MkS.below {G E : Nat} {w w' : World} (h : Below w.heap.size w w') (hG : G ≤ w.heap.size) : MkS G E w w' := ⟨h.mono hG, fun k _ hk => h.block k hk⟩
theorem MkS.own {G E : Nat} {w w' : World} (k : MkS G E w w') {v : Value} {xs : List (List UInt8)} (h : OwnL E v xs w) : OwnL E v xs w' := by
  refine ⟨h.1, ?_⟩
  rcases h.2 with hn | ⟨g, cap, cur, hv, hg1, hg2, rest⟩
  · exact .inl hn
  · exact .inr ⟨g, cap, cur, hv, hg1, by rw [k.high g hg1 (lt_of_block hg2), hg2], rest⟩
theorem MkS.only {G E : Nat} {w w' : World} {v : Value} (h : Only v.ownBlock w w') (hl : ∀ g, v.ownBlock = some g → G ≤ g ∧ g < E) (hG : G ≤ w.heap.size) : MkS G E w w' := by
  refine ⟨h.below (fun g hg => (hl g hg).1) hG, fun k he hk => h.block k hk (fun e => ?_)⟩
  have := (hl k e.symm).2
  omega
end Go.Proofs.YtbfjbabpeigloabDoor
end

section
namespace Go.Proofs.YtbfjbabpeigloabDoor
open Go.RowKit

theorem rdL_slc {B : Nat} {a : Option Addr} {n c : Nat} {xs : List (List UInt8)} {w : World} (h : OwnL B (.slice a n c) xs w) : RdL w a n xs := by
  obtain ⟨a', c', e, hr, _⟩ := h.read
  injection e with e1 e2 e3
  subst e1 e2
  exact hr
end Go.Proofs.YtbfjbabpeigloabDoor
end

section
namespace Go.Proofs.YtbfjbabpeigloabDoor
open Go.RowKit

theorem MlA.ap_same {x y x' y' : MlA} (h : ApM x y) (e1 : x'.a1 = x.a1) (e2 : x'.c1 = x.c1) (e3 : x'.m.to.length = x.m.to.length) (e4 : x'.a2 = x.a2) (e5 : x'.c2 = x.c2) (e6 : x'.m.lines.length = x.m.lines.length)
    (f1 : y'.a1 = y.a1) (f2 : y'.c1 = y.c1) (f3 : y'.m.to.length = y.m.to.length) (f4 : y'.a2 = y.a2) (f5 : y'.c2 = y.c2) (f6 : y'.m.lines.length = y.m.lines.length) : ApM x' y' := by
  unfold ApM at *
  rw [e1, e2, e3, e4, e5, e6, f1, f2, f3, f4, f5, f6]; exact h
/-- Two mails with the same rows in memory, as far as places go. -/
def SameP (x y : MlA) : Prop := x.a1 = y.a1 ∧ x.c1 = y.c1 ∧ x.m.to.length = y.m.to.length ∧ x.a2 = y.a2 ∧ x.c2 = y.c2 ∧ x.m.lines.length = y.m.lines.length
theorem SameP.ap {x y x' y' : MlA} (h : ApM x y) (hx : SameP x' x) (hy : SameP y' y) : ApM x' y' :=
  MlA.ap_same h hx.1 hx.2.1 hx.2.2.1 hx.2.2.2.1 hx.2.2.2.2.1 hx.2.2.2.2.2 hy.1 hy.2.1 hy.2.2.1 hy.2.2.2.1 hy.2.2.2.2.1 hy.2.2.2.2.2
theorem SameP.refl (x : MlA) : SameP x x := ⟨rfl, rfl, rfl, rfl, rfl, rfl⟩
theorem pair_set {xs : List MlA} {k : Nat} {x' : MlA} (h : xs.Pairwise ApM) (hk : k < xs.length) (hs : SameP x' xs[k]) : (xs.set k x').Pairwise ApM := by
  rw [List.pairwise_iff_getElem] at h ⊢
  intro i j hi hj hij
  have hi' : i < xs.length := by simpa using hi
  have hj' : j < xs.length := by simpa using hj
  have key : ∀ (t : Nat) (ht : t < xs.length) (ht' : t < (xs.set k x').length), SameP (xs.set k x')[t] xs[t] := fun t ht ht' => by
    by_cases e : k = t
    · subst e
      rw [List.getElem_set_self]; exact hs
    · rw [List.getElem_set_ne e]; exact SameP.refl _
  exact SameP.ap (h i j hi' hj' hij) (key i hi' hi) (key j hj' hj)
theorem flat_set {xs : List MlA} {k : Nat} {x' : MlA} (hk : k < xs.length) : (xs.set k x').flatMap mlC = (((xs.flatMap mlC).set (k * 3) (.string (str x'.m.frm))).set (k * 3 + 1) (.slice x'.a1 x'.m.to.length x'.c1)).set (k * 3 + 2) (.slice x'.a2 x'.m.lines.length x'.c2) := by
  induction xs generalizing k with
  | nil => simp at hk
  | cons x xs ih =>
    cases k with
    | zero => simp [mlC]
    | succ k =>
      have h := ih (k := k) (by simpa using hk)
      have e0 : (k + 1) * 3 = k * 3 + 3 := by omega
      simp only [List.set_cons_succ, List.flatMap_cons, h, e0]
      simp [mlC]
theorem set_self3 {L : List Value} {i : Nat} {v : Value} (h : L[i]? = some v) : L.set i v = L := by
  obtain ⟨hi, h⟩ := List.getElem?_eq_some_iff.1 h
  rw [← h]; exact List.set_getElem_self hi
theorem flat_cells {xs : List MlA} {k : Nat} (hk : k < xs.length) : (xs.flatMap mlC)[k * 3]? = some (.string (str xs[k].m.frm)) ∧ (xs.flatMap mlC)[k * 3 + 1]? = some (.slice xs[k].a1 xs[k].m.to.length xs[k].c1) ∧ (xs.flatMap mlC)[k * 3 + 2]? = some (.slice xs[k].a2 xs[k].m.lines.length xs[k].c2) :=
  ⟨(flat_at mlC 3 mlC_len xs k 0 (by omega) hk).trans rfl, (flat_at mlC 3 mlC_len xs k 1 (by omega) hk).trans rfl, (flat_at mlC 3 mlC_len xs k 2 (by omega) hk).trans rfl⟩
/-- A mail with another sender, at its places. -/
def MlA.frm' (x : MlA) (s : List UInt8) : MlA := ⟨⟨s, x.m.to, x.m.lines⟩, x.a1, x.c1, x.a2, x.c2⟩
theorem awayL {B g i : Nat} {w : World} {v : Value} {xs : List (List UInt8)} (h : OwnL B v xs w) (hv : ∀ q, v.ownBlock = some q → q ≠ g) (z : Value) : OwnL B v xs (w.setCell ⟨g, i, none⟩ z) :=
  ((⟨h, OwnL.nil B w, fun g _ e => by cases e⟩ : St2 B w v xs (.slice none 0 0) []).off hv (fun q hq => by cases hq) z).a
theorem OwnM.away {B g i : Nat} {w : World} {x : MlA} (h : OwnM B w x) (h1 : ∀ q, (Value.slice x.a1 x.m.to.length x.c1).ownBlock = some q → q ≠ g) (h2 : ∀ q, (Value.slice x.a2 x.m.lines.length x.c2).ownBlock = some q → q ≠ g) (z : Value) : OwnM B (w.setCell ⟨g, i, none⟩ z) x := ⟨awayL h.1 h1 z, awayL h.2.1 h2 z, h.2.2⟩
theorem OwnMs.setFrm {B g c n k : Nat} {xs : List MlA} {w : World} (h : OwnMs B (.slice (some ⟨g, 0, none⟩) n c) xs w) (hn : xs.length = n) (hk : k < xs.length) (s : List UInt8) : OwnMs B (.slice (some ⟨g, 0, none⟩) n c) (xs.set k (xs[k].frm' s)) (w.setCell ⟨g, k * 3, none⟩ (.string (str s))) := by
  subst hn
  have hr := h.1
  unfold OwnR at hr
  have hne : ∀ x ∈ xs, (∀ q, (Value.slice x.a1 x.m.to.length x.c1).ownBlock = some q → q ≠ g) ∧ ∀ q, (Value.slice x.a2 x.m.lines.length x.c2).ownBlock = some q → q ≠ g := fun x hx =>
    ⟨fun q hq e => strs_mails h.1 (h.2.1 x hx).1 q hq (by rw [e]; rfl), fun q hq e => strs_mails h.1 (h.2.1 x hx).2.1 q hq (by rw [e]; rfl)⟩
  have key : ∀ x ∈ xs, OwnM B (w.setCell ⟨g, k * 3, none⟩ (.string (str s))) x := fun x hx => (h.2.1 x hx).away (hne x hx).1 (hne x hx).2 _
  refine ⟨?_, fun x hx => ?_, pair_set h.2.2 hk ⟨rfl, rfl, rfl, rfl, rfl, rfl⟩⟩
  · unfold OwnR
    have h3 := (hr.stored (k * 3) (.string (str s))).1
    obtain ⟨_, c1, c2⟩ := flat_cells hk
    have e : (xs.set k (xs[k].frm' s)).flatMap mlC = (xs.flatMap mlC).set (k * 3) (.string (str s)) := by
      rw [flat_set hk]
      have e1 : ((xs.flatMap mlC).set (k * 3) (.string (str s)))[k * 3 + 1]? = some (.slice xs[k].a1 xs[k].m.to.length xs[k].c1) := by rw [List.getElem?_set_ne (by omega)]; exact c1
      have e2 : ((xs.flatMap mlC).set (k * 3) (.string (str s)))[k * 3 + 2]? = some (.slice xs[k].a2 xs[k].m.lines.length xs[k].c2) := by rw [List.getElem?_set_ne (by omega)]; exact c2
      show (((xs.flatMap mlC).set (k * 3) (.string (str s))).set (k * 3 + 1) (.slice xs[k].a1 xs[k].m.to.length xs[k].c1)).set (k * 3 + 2) (.slice xs[k].a2 xs[k].m.lines.length xs[k].c2) = _
      rw [set_self3 e1, set_self3 e2]
    rw [e, List.length_set]; exact h3
  · rcases List.mem_or_eq_of_mem_set hx with hx | rfl
    · exact key x hx
    · have hk' := key xs[k] (List.getElem_mem hk)
      exact ⟨hk'.1, hk'.2.1, hk'.2.2⟩
theorem ApM.symm {x y : MlA} (h : ApM x y) : ApM y x := fun g hy hx => h g hx hy
theorem onlyL {B : Nat} {v : Value} {xs : List (List UInt8)} {w w' : World} {o : Option Nat} (h : OwnL B v xs w) (t : Only o w w') (hne : ∀ q, v.ownBlock = some q → o ≠ some q) : OwnL B v xs w' := by
  refine ⟨h.1, ?_⟩
  rcases h.2 with hn | ⟨g, cap, cur, hv, hg1, hg2, rest⟩
  · exact .inl hn
  · exact .inr ⟨g, cap, cur, hv, hg1, by rw [t.block g (lt_of_block hg2) (fun e => hne g (by rw [hv]; rfl) e.symm), hg2], rest⟩
theorem onlyR {B : Nat} {v : Value} {xs : List MlA} {w w' : World} {o : Option Nat} (h : OwnR 28 3 mlC B v xs w) (t : Only o w w') (hne : ∀ q, v.ownBlock = some q → o ≠ some q) : OwnR 28 3 mlC B v xs w' := by
  refine ⟨h.1, ?_⟩
  rcases h.2 with hn | ⟨g, cap, cur, hv, hg1, hg2, rest⟩
  · exact .inl hn
  · exact .inr ⟨g, cap, cur, hv, hg1, by rw [t.block g (lt_of_block hg2) (fun e => hne g (by rw [hv]; rfl) e.symm), hg2], rest⟩
/-- A mail with other rows of the same length, at its places. -/
def MlA.to' (x : MlA) (ys : List (List UInt8)) : MlA := ⟨⟨x.m.frm, ys, x.m.lines⟩, x.a1, x.c1, x.a2, x.c2⟩
def MlA.ln' (x : MlA) (ys : List (List UInt8)) : MlA := ⟨⟨x.m.frm, x.m.to, ys⟩, x.a1, x.c1, x.a2, x.c2⟩
/-- One row of one mail is turned, and nothing else. -/
theorem OwnMs.turn {B k : Nat} {v : Value} {xs : List MlA} {w w' : World} {o : Option Nat} {x' : MlA} (h : OwnMs B v xs w) (hk : k < xs.length) (t : Only o w w') (ho : ∀ q, o = some q → (Value.slice xs[k].a1 xs[k].m.to.length xs[k].c1).ownBlock = some q ∨ (Value.slice xs[k].a2 xs[k].m.lines.length xs[k].c2).ownBlock = some q)
    (hs : SameP x' xs[k]) (hf : x'.m.frm = xs[k].m.frm) (hx : OwnM B w' x') : OwnMs B v (xs.set k x') w' := by
  have hno : ∀ q, v.ownBlock = some q → o ≠ some q := fun q hv e => by
    rcases ho q e with h1 | h1
    · exact strs_mails h.1 (h.2.1 _ (List.getElem_mem hk)).1 q h1 hv
    · exact strs_mails h.1 (h.2.1 _ (List.getElem_mem hk)).2.1 q h1 hv
  refine ⟨?_, fun y hy => ?_, pair_set h.2.2 hk hs⟩
  · have hr := onlyR h.1 t hno
    unfold OwnR at hr ⊢
    obtain ⟨c0, c1, c2⟩ := flat_cells hk
    have e : (xs.set k x').flatMap mlC = xs.flatMap mlC := by
      rw [flat_set hk, hf, hs.1, hs.2.1, hs.2.2.1, hs.2.2.2.1, hs.2.2.2.2.1, hs.2.2.2.2.2, set_self3 c0, set_self3 c1, set_self3 c2]
    rw [e, List.length_set]; exact hr
  · obtain ⟨i, hi, rfl⟩ := List.getElem_of_mem hy
    have hi' : i < xs.length := by simpa using hi
    by_cases e : k = i
    · subst e
      rw [List.getElem_set_self]; exact hx
    · rw [List.getElem_set_ne e]
      have hap : ApM xs[k] xs[i] := by
        have hp := List.pairwise_iff_getElem.1 h.2.2
        rcases Nat.lt_or_ge k i with h1 | h1
        · exact hp k i hk hi' h1
        · exact (hp i k hi' hk (by omega)).symm
      have hxi := h.2.1 _ (List.getElem_mem hi')
      exact ⟨onlyL hxi.1 t (fun q hq e => hap q (ho q e) (.inl hq)), onlyL hxi.2.1 t (fun q hq e => hap q (ho q e) (.inr hq)), hxi.2.2⟩
theorem OwnMs.setTo {B k : Nat} {v : Value} {xs : List MlA} {w w' : World} {ys : List (List UInt8)} (h : OwnMs B v xs w) (hk : k < xs.length) (hl : ys.length = xs[k].m.to.length) (hy : OwnL B (.slice xs[k].a1 xs[k].m.to.length xs[k].c1) ys w') (t : Only (Value.slice xs[k].a1 xs[k].m.to.length xs[k].c1).ownBlock w w') : OwnMs B v (xs.set k (xs[k].to' ys)) w' := by
  have hx := h.2.1 _ (List.getElem_mem hk)
  refine h.turn hk t (fun q hq => .inl hq) ⟨rfl, rfl, hl, rfl, rfl, rfl⟩ rfl ⟨?_, ?_, ?_⟩
  · show OwnL B (.slice xs[k].a1 ys.length xs[k].c1) ys w'
    rw [hl]; exact hy
  · exact onlyL hx.2.1 t (fun q hq e => hx.2.2 q e hq)
  · show ∀ g, (Value.slice xs[k].a1 ys.length xs[k].c1).ownBlock = some g → _
    rw [hl]; exact hx.2.2
theorem OwnMs.setLn {B k : Nat} {v : Value} {xs : List MlA} {w w' : World} {ys : List (List UInt8)} (h : OwnMs B v xs w) (hk : k < xs.length) (hl : ys.length = xs[k].m.lines.length) (hy : OwnL B (.slice xs[k].a2 xs[k].m.lines.length xs[k].c2) ys w') (t : Only (Value.slice xs[k].a2 xs[k].m.lines.length xs[k].c2).ownBlock w w') : OwnMs B v (xs.set k (xs[k].ln' ys)) w' := by
  have hx := h.2.1 _ (List.getElem_mem hk)
  refine h.turn hk t (fun q hq => .inr hq) ⟨rfl, rfl, rfl, rfl, rfl, hl⟩ rfl ⟨onlyL hx.1 t (fun q hq e => hx.2.2 q hq e), ?_, ?_⟩
  · show OwnL B (.slice xs[k].a2 ys.length xs[k].c2) ys w'
    rw [hl]; exact hy
  · show ∀ g, _ → (Value.slice xs[k].a2 ys.length xs[k].c2).ownBlock ≠ some g
    rw [hl]; exact hx.2.2
end Go.Proofs.YtbfjbabpeigloabDoor
end

section
namespace Go.Proofs.YtbfjbabpeigloabDoor
open Go.RowKit

theorem setCells_row {g : Nat} {t : TypeId} : ∀ (vs : List Value) (o : Nat) (cur : List Value) (w : World), w.heap[g]? = some (.cells cur.toArray t (0, 0)) → o + vs.length ≤ cur.length → w.setCells g o vs = w.setRow g (splice cur o vs).toArray
  | [], o, cur, w, hg, _ => by
    have := setRow_self w g cur.toArray t (0, 0) hg
    simp only [World.setCells, splice, List.nil_append, List.length_nil, Nat.add_zero, List.take_append_drop]
    exact this.symm
  | v :: rest, o, cur, w, hg, hl => by
    have h1 : o + 1 + rest.length ≤ cur.length := by simp at hl; omega
    have hs := setCell_eq_setRow w g o cur.toArray t (0, 0) v hg
    rw [World.setCells, hs]
    have hg2 : (w.setRow g (cur.toArray.setIfInBounds o v)).heap[g]? = some (.cells (cur.set o v).toArray t (0, 0)) := by
      have := setRow_heap w g cur.toArray (cur.toArray.setIfInBounds o v) t (0, 0) hg
      rw [this]; simp
    rw [setCells_row rest (o + 1) (cur.set o v) _ hg2 (by rw [List.length_set]; exact h1), setRow_setRow]
    congr 2
    unfold splice
    have e := list_seg_step cur o v rest (by omega)
    rw [List.length_cons]
    simpa [List.append_assoc] using e
theorem run_clear_rowK {P : Program} (w : World) (t e ty : TypeId) (z : Value) (Z : List Value) (ht : P.underlying t = some (.slice e)) (hv : ∀ w, (zeroValue e).run P w = .ok z w) (g o n c : Nat) (cur : List Value) (T : TypeId) (hn : 0 < n)
    (hz : (Builtin.zeroCells z.cells n).toList = Z) (h1 : ∀ v ∈ Z, v.oneCell' = true) (hg : w.heap[g]? = some (.cells cur.toArray T (0, 0))) (hfit : o + Z.length ≤ cur.length) :
    (Builtin.clear_ #[t] ty #[.slice (some ⟨g, o, none⟩) n c]).run P w = .ok (.tuple #[]) (w.setRow g (splice cur o Z).toArray) := by
  have hst := run_storeCells_at P g o T Z 0 cur.toArray w hg (by simpa using hfit) h1
  obtain ⟨m, rfl⟩ : ∃ m, n = m + 1 := ⟨n - 1, by omega⟩
  simp [Builtin.clear_, run_underlying ht, hv, hz, hst, splice]
/-- What a row holds whose first thing was taken out: the others, then what is no longer in it. -/
theorem splice_del {D Z X : List Value} {J K : Nat} (hD : K + J ≤ D.length) (hX : X = (D.take (K + J)).drop K) (hZ : Z.length = K) : (splice (splice D 0 X) J Z).take J = (D.take (K + J)).drop K := by
  have hXl : X.length = J := by rw [hX, List.length_drop, List.length_take]; omega
  have hXe : ∀ j, X[j]? = if j < J then D[K + j]? else none := fun j => by
    rw [hX, List.getElem?_drop, List.getElem?_take]
    by_cases h : j < J
    · rw [if_pos h, if_pos (by omega)]
    · rw [if_neg h, if_neg (by omega)]
  rw [← hX]
  clear hX
  unfold splice
  apply List.ext_getElem?
  intro j
  simp only [List.getElem?_take, List.getElem?_append, List.getElem?_drop, List.length_append, List.length_take, List.length_drop, hXl, hZ, hXe, List.take_zero, List.nil_append]
  by_cases h1 : j < J
  · repeat' split
    all_goals first | rfl | omega | (congr 1; omega)
  · rw [if_neg h1, if_neg h1]
theorem mlC_one (x : MlA) : ∀ v ∈ mlC x, v.oneCell' = true := fun v hv => by
  unfold mlC at hv
  simp at hv
  rcases hv with rfl | rfl | rfl <;> rfl
def DelRet (B g n c : Nat) (L : List Value) (w : World) (e : Ending) (w' : World) : Prop := e = .returned (.slice (some ⟨g, 0, none⟩) (n - 1) c) ∧ w'.ownsRow B 28 3 (.slice (some ⟨g, 0, none⟩) (n - 1) c) (n - 1) (L.drop 3) ∧ Only (some g) w w'
set_option maxRecDepth 100000 in
set_option maxHeartbeats 4000000 in
theorem delM_row (B g n c : Nat) (L D : List Value) (w : World) (hn : 1 ≤ n) (hnc : n ≤ c) (hc : c ≤ maxLen) (hL : L = D.take (n * 3)) (hD : D.length = c * 3) (hg : w.heap[g]? = some (.cells D.toArray 28 (0, 0))) (hB : B ≤ g) (hL1 : ∀ v ∈ L, v.oneCell' = true) :
    Calls Tryd.prog 35 #[.slice (some ⟨g, 0, none⟩) n c, .int .i64 0, .int .i64 1] w (DelRet B g n c L w) := by
  obtain ⟨i0, hi0, hz0, hzs, hzb⟩ := info_parts mlInfoC
  unfold maxLen at hc
  have HG := Lib.hid hg
  obtain ⟨X, hX⟩ : ∃ X, X = L.drop 3 := ⟨_, rfl⟩
  have hXl : X.length = (n - 1) * 3 := by rw [hX, hL, List.length_drop, List.length_take]; omega
  have hX1 : ∀ v ∈ X, v.oneCell' = true := fun v hv => hL1 v (List.mem_of_mem_drop (hX ▸ hv))
  have hXc : ∀ j u, X[j]? = some u → w.cell? ⟨g, 3 + j, none⟩ = some u := fun j u hu => by
    rw [hX, List.getElem?_drop, hL, List.getElem?_take] at hu
    split at hu
    · unfold World.cell?
      simp only [hg]
      simpa using hu
    · cases hu
  obtain ⟨A, hA, hsrc⟩ : ∃ A : Addr, (if c = 1 then some (⟨g, 0, none⟩ : Addr) else some ⟨g, 3, none⟩) = some A ∧ Hid (∀ j u, X[j]? = some u → w.drew.cell? (A.add j) = some u) := by
    by_cases h : c = 1
    · refine ⟨⟨g, 0, none⟩, by simp [h], fun t u hu => ?_⟩
      have h0 : X.length = 0 := by omega
      rw [List.length_eq_zero_iff.1 h0] at hu
      simp at hu
    · exact ⟨⟨g, 3, none⟩, by simp [h], fun t u hu => by rw [Addr.add_lit]; exact hXc t u hu⟩
  have HZ : Hid ((Builtin.zeroCells (Value.agg #[.string ⟨#[]⟩, .slice none 0 0, .slice none 0 0]).cells 1).toList = [.string ⟨#[]⟩, .slice none 0 0, .slice none 0 0]) := by show _ = _; kernel_rfl
  obtain ⟨W1, hW1⟩ : ∃ W1, W1 = w.drew.setRow g (splice D 0 X).toArray := ⟨_, rfl⟩
  have hg1 : W1.heap[g]? = some (.cells (splice D 0 X).toArray 28 (0, 0)) := by rw [hW1]; exact setRow_heap w.drew g _ _ _ _ hg
  have hl1 : (splice D 0 X).length = D.length := length_splice _ _ _ (by omega)
  obtain ⟨W2, hW2⟩ : ∃ W2, W2 = W1.setRow g (splice (splice D 0 X) ((n - 1) * 3) [.string ⟨#[]⟩, .slice none 0 0, .slice none 0 0]).toArray := ⟨_, rfl⟩
  have hcl : ∀ ty k, (Builtin.clear_ #[33] ty #[.slice (some ⟨g, (n - 1) * 3, none⟩) (n - (n - 1)) k]).run Tryd.prog W1 = .ok (.tuple #[]) W2 := fun ty k => by
    rw [hW2, show n - (n - 1) = 1 by omega]
    exact run_clear_rowK W1 _ _ ty _ _ Tryd.underlying33 (fun w => by kernel_rfl) g ((n - 1) * 3) 1 k _ 28 (by omega) HZ.out (fun v hv => by simp at hv; rcases hv with rfl | rfl | rfl <;> rfl) hg1 (by rw [hl1, hD]; simp; omega)
  have HEND : Hid (DelRet B g n c L w (.returned (.slice (some ⟨g, 0, none⟩) (n - 1) c)) W2) := by
    have hg2 : W2.heap[g]? = some (.cells (splice (splice D 0 X) ((n - 1) * 3) [.string ⟨#[]⟩, .slice none 0 0, .slice none 0 0]).toArray 28 (0, 0)) := by rw [hW2]; exact setRow_heap W1 g _ _ _ _ hg1
    have l2 : (splice (splice D 0 X) ((n - 1) * 3) [Value.string ⟨#[]⟩, .slice none 0 0, .slice none 0 0]).length = D.length := by rw [length_splice _ _ _ (by rw [hl1, hD]; simp; omega), hl1]
    have hsd := splice_del (D := D) (Z := [Value.string ⟨#[]⟩, .slice none 0 0, .slice none 0 0]) (X := X) (J := (n - 1) * 3) (K := 3) (by omega) (by rw [hX, hL, show 3 + (n - 1) * 3 = n * 3 by omega]) rfl
    refine ⟨rfl, ⟨by rw [← hX]; exact hXl, .inr ⟨g, c, _, rfl, hB, hg2, by omega, by unfold maxLen; omega, by simp [l2, hD], ?_⟩⟩, ?_⟩
    · rw [List.toList_toArray, hsd, hL, show 3 + (n - 1) * 3 = n * 3 by omega]
    · refine Only.trans (b := W1) ?_ (by rw [hW2]; exact only_setRow _ _)
      rw [hW1]
      exact (Only.of_below ((Below.refl _ _).drew)).trans (only_setRow _ _)
  have hsc : w.drew.setCells g 0 X = W1 := by rw [hW1]; exact setCells_row X 0 D w.drew hg (by omega)
  have s3 : Hid (∀ j, j < X.length → (w.drew.cell? ⟨g, 0 + 0 * 3 + j, none⟩).isSome = true ∧ w.drew.frozen? ⟨g, 0 + 0 * 3 + j, none⟩ = false) := fun j hj => by
    have e : (0 + 0 * 3 + j) = j := by omega
    rw [e]
    refine ⟨?_, ?_⟩
    · show (w.cell? _).isSome = true
      unfold World.cell?
      simp only [hg]
      simp
      omega
    · show w.frozen? _ = false
      unfold World.frozen?
      simp [hg]
  have HXL : Hid (X.length = (n - 1) * 3) := hXl
  have HX1 := Lib.hid hX1
  have hn1 : ((1 : Nat) : Int) ≤ (n : Int) := by omega
  have hn0 : (1 : Int) ≤ (n : Int) := by omega
  have hcn : (n : Int) ≤ (c : Int) := by omega
  have hc1 : (1 : Int) ≤ (c : Int) := by omega
  clear hX hXl hX1 hXc hW1 hW2 hg1 hl1 hL hD hL1 hg HZ hz0
  go_enter Tryd.func35, Tryd.ntmps35
  go_wp2_with fail
  go_region_law (refine step_append_room rfl (.tmp 22) (.tmp 25) 33 rfl 28 i0 3 Tryd.underlying33 hi0 hzs g 0 0 c (by simp [Act.eval, Act.put]) A (n - 1) (c - 1) X (by simp [Act.eval, Act.put]) HXL.out hsrc.out HX1.out (by omega) s3.out ?_; rw [show 0 + 0 * 3 = 0 from rfl, hsc])
  go_wp2_with (simp only [hcl])
  go_ret
  exact HEND.out
/-- The first mail taken out of a row of mails of the call's own. -/
theorem delM_any (B : Nat) (a : Option Addr) (n c : Nat) (x : MlA) (xs : List MlA) (w : World) (h : OwnMs B (.slice a n c) (x :: xs) w) :
    Calls Tryd.prog 35 #[.slice a n c, .int .i64 0, .int .i64 1] w fun e w' => e = .returned (.slice a xs.length c) ∧ OwnMs B (.slice a xs.length c) xs w' ∧ OwnM B w' x ∧ Only (Value.slice a n c).ownBlock w w' := by
  have hr := h.1
  unfold OwnR at hr
  rcases hr.2 with ⟨_, h0⟩ | ⟨g, cap, cur, hv, hBg, hg, hnc, hcm, hsz, htk⟩
  · simp at h0
  · injection hv with e1 e2 e3
    subst e1 e2 e3
    have hn : (x :: xs).length - 1 = xs.length := by simp
    refine (delM_row B g (x :: xs).length c _ cur.toList w (by simp) hnc hcm htk.symm (by simpa using hsz) (by simpa using hg) hBg (fun v hv => by
      obtain ⟨y, _, hy⟩ := List.mem_flatMap.1 hv
      exact mlC_one y v hy)).mono ?_
    rintro e w' ⟨rfl, hr', ho⟩
    rw [hn] at hr'
    have hk : ∀ y, y ∈ x :: xs → OwnM B w' y := fun y hy => (h.2.1 y hy).turned (Turn.only (P := fun q => q = g) ho (fun q hq => by injection hq with hq; exact hq.symm)) (fun q hq e => by
      rcases hq with hq | hq
      · exact strs_mails h.1 (h.2.1 y hy).1 q hq (by rw [e]; rfl)
      · exact strs_mails h.1 (h.2.1 y hy).2.1 q hq (by rw [e]; rfl))
    refine ⟨by rw [hn], ⟨?_, fun y hy => hk y (List.mem_cons_of_mem _ hy), (List.pairwise_cons.1 h.2.2).2⟩, hk x List.mem_cons_self, ho⟩
    unfold OwnR
    rw [List.flatMap_cons, List.drop_left' (mlC_len x)] at hr'
    exact hr'
end Go.Proofs.YtbfjbabpeigloabDoor
end

section
namespace Go.Proofs.YtbfjbabpeigloabDoor
open Go.RowKit

/-- What a mail of a row has: its cells, its rows, and how it may be turned. -/
theorem OwnMs.cellsK {B g n c k : Nat} {L : List MlA} {w : World} {y : MlA} (h : OwnMs B (.slice (some ⟨g, 0, none⟩) n c) L w) (hk : k < L.length) (hy : L[k] = y) :
    (w.cell? ⟨g, k * 3, none⟩ = some (.string (str y.m.frm)) ∧ w.cell? ⟨g, k * 3 + 1, none⟩ = some (.slice y.a1 y.m.to.length y.c1) ∧ w.cell? ⟨g, k * 3 + 2, none⟩ = some (.slice y.a2 y.m.lines.length y.c2)) ∧ w.frozen? ⟨g, k * 3, none⟩ = false ∧ OwnM B w y := by
  subst hy
  have hr := h.1
  unfold OwnR at hr
  have hn : L.length = n := by
    rcases hr.2 with ⟨e, h0⟩ | ⟨g1, cap1, cur1, e1, _⟩
    · cases e
    · injection e1 with _ e1 _; exact e1.symm
  subst hn
  obtain ⟨c0, c1, c2⟩ := flat_cells hk
  have C : ∀ j z, (L.flatMap mlC)[j]? = some z → w.cell? ⟨g, j, none⟩ = some z := fun j z hz => by
    have := hr.cells (g := g) rfl j z hz
    rw [add0] at this; exact this
  exact ⟨⟨C _ _ c0, C _ _ c1, C _ _ c2⟩, hr.frozenAt _, h.2.1 _ (List.getElem_mem hk)⟩
end Go.Proofs.YtbfjbabpeigloabDoor
end

section
namespace Go.Proofs.YtbfjbabpeigloabDoor
open Go.RowKit

end Go.Proofs.YtbfjbabpeigloabDoor
end

section
namespace Go.Proofs.YtbfjbabpeigloabDoor
open Go.RowKit

/-- What a box of a row has: its cells, its row, and how it may be turned. -/
theorem OwnBs.cellsK {B g n c k : Nat} {L : List BxA} {w : World} {y : BxA} (h : OwnBs B (.slice (some ⟨g, 0, none⟩) n c) L w) (hk : k < L.length) (hy : L[k] = y) :
    (w.cell? ⟨g, k * 2, none⟩ = some (.string (str y.path)) ∧ w.cell? ⟨g, k * 2 + 1, none⟩ = some (.slice y.a y.xs.length y.c)) ∧ w.frozen? ⟨g, k * 2, none⟩ = false ∧ OwnMs B (.slice y.a y.xs.length y.c) y.xs w := by
  subst hy
  have hr := h.1
  unfold OwnR at hr
  have hn : L.length = n := by
    rcases hr.2 with ⟨e, h0⟩ | ⟨g1, cap1, cur1, e1, _⟩
    · cases e
    · injection e1 with _ e1 _; exact e1.symm
  subst hn
  obtain ⟨c0, c1⟩ := flat_cellsB hk
  have C : ∀ j z, (L.flatMap bxC)[j]? = some z → w.cell? ⟨g, j, none⟩ = some z := fun j z hz => by
    have := hr.cells (g := g) rfl j z hz
    rw [add0] at this; exact this
  exact ⟨⟨C _ _ c0, C _ _ c1⟩, hr.frozenAt _, h.2.1 _ (List.getElem_mem hk)⟩
end Go.Proofs.YtbfjbabpeigloabDoor
end

section
namespace Go.Proofs.YtbfjbabpeigloabDoor
open Go.RowKit

def parseR (l : List UInt8) : Adr := (parseA l).getD adr0
/-- What reading an address leaves. -/
def ParseRet (l : List UInt8) (w : World) (e : Ending) (w' : World) : Prop := e = .returned (.tuple #[adrV (parseR l), .bool (parseA l).isSome]) ∧ Below w.heap.size w w'
theorem parseRet_none {l : List UInt8} {w w' : World} (h : parseA l = none) (hb : Below w.heap.size w w') : ParseRet l w (.returned (.tuple #[.agg #[.string ⟨#[]⟩, .string ⟨#[]⟩, .string ⟨#[]⟩], .bool false])) w' :=
  ⟨by unfold parseR; rw [h]; rfl, hb⟩
theorem parseRet_some {l : List UInt8} {w w' : World} {n x d : ByteArray} (h : parseA l = some (adr n x d)) (hb : Below w.heap.size w w') : ParseRet l w (.returned (.tuple #[.agg #[.string n, .string x, .string d], .bool true])) w' :=
  ⟨by unfold parseR; rw [h]; show _ = Ending.returned (.tuple #[adrV (adr n x d), .bool true]); rw [adrV_adr], hb⟩
theorem lowS_str (l : List UInt8) : lowS (str l) = str (low l) := by unfold lowS; rw [str_list]
theorem isText_trimS {l : List UInt8} (h : isText l = true) : isText (trimS l) = true := isText_sub h (fun _ hx => trimS_mem hx) (trimS_len l)
end Go.Proofs.YtbfjbabpeigloabDoor
end

section
namespace Go.Proofs.YtbfjbabpeigloabDoor
open Go.RowKit

end Go.Proofs.YtbfjbabpeigloabDoor
end

section
namespace Go.Proofs.YtbfjbabpeigloabDoor
open Go.RowKit

def CutRetS (s : ByteArray) (c : UInt8) (w : World) (e : Ending) (w' : World) : Prop :=
  (∀ a d, cutU c s.data.toList = some (a, d) → e = .returned (.tuple #[.string (str a), .string (str d), .bool true])) ∧
  (cutU c s.data.toList = none → e = .returned (.tuple #[.string s, .string ⟨#[]⟩, .bool false])) ∧ ∃ q, w' = w.drewN q
theorem cutRetS_some {s : ByteArray} {c : UInt8} {k q : Nat} {w : World} {x y : ByteArray} (h : cutK c 0 s.data.toList = some k) (hx : x = s.extract 0 k) (hy : y = s.extract (k + 1) s.size) : CutRetS s c w (.returned (.tuple #[.string x, .string y, .bool true])) (w.drewN q) := by
  have hc : cutU c s.data.toList = some (s.data.toList.take k, s.data.toList.drop (k + 1)) := by unfold cutU; rw [h]; rfl
  refine ⟨fun a d h' => ?_, fun h' => ?_, q, rfl⟩
  · rw [hc] at h'; injection h' with h'; injection h' with h1 h2; subst h1 h2; rw [hx, hy, ext_take, ext_drop]
  · rw [hc] at h'; cases h'
theorem cutRetS_none {s : ByteArray} {c : UInt8} {w : World} (h : cutK c 0 s.data.toList = none) : CutRetS s c w (.returned (.tuple #[.string s, .string ⟨#[]⟩, .bool false])) w := by
  have hc : cutU c s.data.toList = none := by unfold cutU; rw [h]; rfl
  refine ⟨fun a d h' => ?_, fun _ => rfl, 0, rfl⟩
  rw [hc] at h'; cases h'
set_option maxRecDepth 100000 in
set_option maxHeartbeats 4000000 in
theorem l2Cut_any (s : ByteArray) (c : UInt8) (w : World) (hc34 : (34 : UInt8) ≠ c) (hs : s.size ≤ 1073741824) :
    Calls Tryd.prog 89 #[.string s, .int .u8 c.toNat] w (CutRetS s c w) := by
  go_enter Tryd.func89, Tryd.ntmps89
  go_wp2_with fail
  go_loop [7] (fun i => ∃ k : Nat, k ≤ s.size ∧ i = .int .i64 k ∧ cutsAt c s k) (fun i => s.size - (intOf i).toNat)
  case atStart => exact ⟨0, Nat.zero_le _, rfl, cutsAt_start c s⟩
  case round =>
    obtain ⟨k, hk, rfl, hg⟩ := hrel
    have HG := Lib.hid hg
    clear hg
    by_cases hlt : k < s.size
    · by_cases hq : s[k] = 34
      · have e2 := beq_t hq (n := 34) rfl
        cases hr : readQ (s.data.toList.drop (k + 1)) with
        | none =>
          have HR := Lib.hid (cutsAt_stuck hc34 HG.out hlt hq hr)
          have HQ := Lib.hid hr
          clear hq hr
          go_wp2_with fail
          refine (l1Read_any s k _ hlt hs).mono ?_
          rintro e w1 ⟨_, hno, rfl⟩
          have he := hno HQ.out
          clear hno
          subst he
          go_wp2
          go_ret3
          exact cutRetS_none HR.out
        | some y =>
          obtain ⟨t, r⟩ := y
          obtain ⟨hN, hlo⟩ := cutsAt_quote hc34 HG.out hlt hq hr
          have HN := Lib.hid hN
          have HQ := Lib.hid hr
          clear hq hr hN
          go_wp2_with fail
          refine (l1Read_any s k _ hlt hs).mono ?_
          rintro e w1 ⟨hy, _, rfl⟩
          have he := hy t r HQ.out
          clear hy
          subst he
          obtain ⟨q, hq⟩ : ∃ q, q = s.size - r.length := ⟨_, rfl⟩
          rw [← hq] at HN hlo ⊢
          have hqs : q ≤ s.size := by omega
          clear hq
          go_wp2
          go_round
          case rel => exact ⟨q, hqs, by go_num, HN.out⟩
          case measure => simp [intOf]; omega
      · have e2 := beq_f hq (n := 34) rfl
        by_cases hc : s[k] = c
        · have HR := Lib.hid (cutsAt_hit HG.out hlt hc)
          have e1 : ((s[k].toNat : Int) == (c.toNat : Int)) = true := by rw [hc]; simp
          have hw1 : IntKind.i64.wrap ((k : Int) + 1) = (k : Int) + 1 := IntWalk.i64_in _ (by omega)
          have hw2 : 0 ≤ (k : Int) + 1 := by omega
          have hw3 : ((k : Int) + 1).toNat = k + 1 := by omega
          clear hc hq
          go_wp2
          go_quiet (fail)
          go_wp2
          go_ret3
          exact cutRetS_some HR.out rfl rfl
        · have e1 : ((s[k].toNat : Int) == (c.toNat : Int)) = false := by
            rw [beq_eq_false_iff_ne]; intro e; exact hc (UInt8.toNat_inj.1 (by omega))
          have HN := Lib.hid (cutsAt_skip HG.out hlt hc hq)
          clear hc hq
          go_wp2
          go_round
          case rel => exact ⟨k + 1, by omega, by go_num, HN.out⟩
          case measure => simp [intOf]; omega
    · have HR := Lib.hid (cutsAt_end HG.out (by omega))
      go_wp2
      go_ret3
      exact cutRetS_none HR.out
/-- A list of the call's own. -/
def OwnRet (xs : List (List UInt8)) (w : World) (e : Ending) (w' : World) : Prop := ∃ v, e = .returned v ∧ OwnL w.heap.size v xs w' ∧ Below w.heap.size w w'
def partsAt (c : UInt8) (s : ByteArray) (st i : Nat) (acc : List (List UInt8)) : Prop := splitC c s.data.toList = acc ++ glue ((s.data.toList.drop st).take (i - st)) (splitC c (s.data.toList.drop i))
theorem partsAt_start (c : UInt8) (s : ByteArray) : partsAt c s 0 0 [] := by unfold partsAt; simp [glue_nil]
theorem partsAt_skip {c : UInt8} {s : ByteArray} {st i : Nat} {acc : List (List UInt8)} (h : partsAt c s st i acc) (hst : st ≤ i) (hi : i < s.size) (hc : s[i] ≠ c) : partsAt c s st (i + 1) acc := by
  unfold partsAt at h ⊢
  rw [h, drop_at s i hi, splitC_skip _ hc, glue_app]
  congr 2
  rw [show i + 1 - st = (i - st) + 1 by omega, List.take_succ_eq_append_getElem (by rw [List.length_drop, size_list]; omega)]
  congr 1
  rw [List.getElem_drop]
  have : st + (i - st) = i := by omega
  simp only [this]; rfl
theorem partsAt_hit {c : UInt8} {s : ByteArray} {st i : Nat} {acc : List (List UInt8)} (h : partsAt c s st i acc) (hi : i < s.size) (hc : s[i] = c) : partsAt c s (i + 1) (i + 1) (acc ++ [(s.extract st i).data.toList]) := by
  unfold partsAt at h ⊢
  rw [h, drop_at s i hi, hc, splitC_hit, Lib.extract_data, Nat.sub_self, List.take_zero, glue_nil]
  simp [glue]
theorem partsAt_end {c : UInt8} {s : ByteArray} {st i : Nat} {acc : List (List UInt8)} (h : partsAt c s st i acc) (hst : st ≤ i) (hi : s.size ≤ i) : splitC c s.data.toList = acc ++ [(s.extract st s.size).data.toList] := by
  unfold partsAt at h
  rw [h, drop_out s i hi, Lib.extract_data]
  show acc ++ glue _ [[]] = _
  simp only [glue, List.append_nil]
  congr 2
  rw [List.take_of_length_le (by rw [List.length_drop, size_list]; omega), List.take_of_length_le (by rw [List.length_drop, size_list]; omega)]
theorem ext_size (s : ByteArray) (a b : Nat) : (s.extract a b).size ≤ s.size := by rw [ByteArray.size_extract]; omega
set_option maxRecDepth 100000 in
set_option maxHeartbeats 4000000 in
theorem l2Parts_any (s : ByteArray) (c : UInt8) (w : World) (hs : s.size ≤ 1073741000) :
    Calls Tryd.prog 110 #[.string s, .int .u8 c.toNat] w (OwnRet (splitC c s.data.toList) w) := by
  obtain ⟨i0, hi, hz0, hz1, hz2⟩ := info_parts sInfo
  go_enter Tryd.func110, Tryd.ntmps110
  go_wp2_with fail
  go_loopw [5, 6, 7] (fun v st i wr => ∃ (k a : Nat) (acc : List (List UInt8)), k ≤ s.size ∧ a ≤ k ∧ i = .int .i64 k ∧ st = .int .i64 a ∧ acc.length ≤ k ∧ partsAt c s a k acc ∧ OwnL w.heap.size v acc wr ∧ Below w.heap.size w wr) (fun _ _ i _ => s.size - (intOf i).toNat)
  case atStart => exact ⟨0, 0, [], Nat.zero_le _, Nat.le_refl _, rfl, rfl, Nat.zero_le _, partsAt_start c s, OwnL.empty w, (Below.refl _ _).alloc (Nat.le_refl _) _⟩
  case round =>
    obtain ⟨k, a, acc, hk, hak, rfl, rfl, hal, hg, hown, hb⟩ := hrel
    have HG := Lib.hid hg
    clear hg
    have hown1 := hown
    unfold OwnL at hown1
    by_cases hlt : k < s.size
    · by_cases hc : s[k] = c
      · have HN := Lib.hid (partsAt_hit HG.out hlt hc)
        have e1 : ((s[k].toNat : Int) == (c.toNat : Int)) = true := by rw [hc]; simp
        have hbs := hb.size
        clear hc
        go_wp2_with (at_builtin; refine wpList_append_own _ rfl _ _ 26 rfl w.heap.size 9 i0 (.string ⟨#[]⟩) 1 16 Tryd.underlying26 hi hz0 hz1 hz2 rfl (by decide) _ _ _ rfl (hown1.alloc _) ⟨wr.heap.size, 0, none⟩ 1 1 [.string (s.extract a k)] rfl rfl ?c1 ?c2 ?c3 ?c4 ?c5 ?_)
        case c1 =>
          intro u v hj
          match u, hj with
          | 0, hj => simp at hj; subst hj; simp [Addr.add]
        case c2 => intro u hu; simp at hu; subst hu; rfl
        case c3 => unfold maxLen; omega
        case c4 => omega
        case c5 => simp; omega
        intro v' w3 hown' hgrow _
        have hO3 : OwnL w.heap.size v' (acc ++ [(s.extract a k).data.toList]) w3 := own_snoc hown'
        have hb3 : Below w.heap.size wr w3 := ((Below.refl _ _).alloc (by omega) _).grown hgrow (by simp; omega) (fun k hk => (hown1.lt k hk).1)
        go_wp2
        go_roundw
        case rel => exact ⟨k + 1, k + 1, _, by omega, Nat.le_refl _, by go_num, by go_num, by simp; omega, HN.out, hO3, hb.trans hb3⟩
        case measure => simp [intOf]; omega
      · have HN := Lib.hid (partsAt_skip HG.out hak hlt hc)
        have e1 : ((s[k].toNat : Int) == (c.toNat : Int)) = false := by
          rw [beq_eq_false_iff_ne]; intro e; exact hc (UInt8.toNat_inj.1 (by omega))
        clear hc
        go_wp2
        go_roundw
        case rel => exact ⟨k + 1, a, acc, by omega, by omega, by go_num, rfl, by omega, HN.out, hown, hb⟩
        case measure => simp [intOf]; omega
    · have HN := Lib.hid (partsAt_end HG.out hak (by omega))
      have hbs := hb.size
      go_wp2_with (at_builtin; refine wpList_append_own _ rfl _ _ 26 rfl w.heap.size 9 i0 (.string ⟨#[]⟩) 1 16 Tryd.underlying26 hi hz0 hz1 hz2 rfl (by decide) _ _ _ rfl (hown1.alloc _) ⟨wr.heap.size, 0, none⟩ 1 1 [.string (s.extract a s.size)] rfl rfl ?q1 ?q2 ?q3 ?q4 ?q5 ?_)
      case q1 =>
        intro u v hj
        match u, hj with
        | 0, hj => simp at hj; subst hj; simp [Addr.add]
      case q2 => intro u hu; simp at hu; subst hu; rfl
      case q3 => unfold maxLen; omega
      case q4 => omega
      case q5 => simp; omega
      intro v' w3 hown' hgrow _
      have hO3 : OwnL w.heap.size v' (acc ++ [(s.extract a s.size).data.toList]) w3 := own_snoc hown'
      have hb3 : Below w.heap.size wr w3 := ((Below.refl _ _).alloc (by omega) _).grown hgrow (by simp; omega) (fun k hk => (hown1.lt k hk).1)
      go_wp2
      go_ret
      exact ⟨v', rfl, by rw [HN.out]; exact hO3, hb.trans hb3⟩
set_option maxRecDepth 100000 in
set_option maxHeartbeats 2000000 in
theorem l2Local_any (s : ByteArray) (w : World) (hs : s.size ≤ 1073741000) :
    Calls Tryd.prog 102 #[.string s] w fun e w' => e = .returned (.bool (isLocal s.data.toList)) ∧ Below w.heap.size w w' := by
  have HSM := Lib.hid (splitC_small 46 s.data.toList)
  have HD : Hid (isLocal s.data.toList = (decide (s.size ≤ 30) && (splitC 46 s.data.toList).all isAtom)) := rfl
  go_enter Tryd.func102, Tryd.ntmps102
  go_wp2_with fail
  refine (l2Parts_any s 46 _ hs).mono ?_
  rintro e w1 ⟨v, rfl, ho, hb1⟩
  obtain ⟨a1, c1, rfl, hr, hm⟩ := ho.read
  generalize hX : splitC 46 s.data.toList = xs at *
  have HX := Lib.hid hX
  obtain ⟨_, hr2⟩ := hr
  have HR := Lib.hid hr2
  have hlen : xs.length ≤ 1073741824 := by have := HSM.out.1; rw [size_list] at this; omega
  clear hX hr2
  go_wp2_with fail
  go_loop [4] (fun i => ∃ k : Nat, k ≤ xs.length ∧ i = .int .i64 k ∧ ∀ j, (h : j < k) → (h' : j < xs.length) → isAtom xs[j] = true) (fun i => xs.length - (intOf i).toNat)
  case atStart => exact ⟨0, Nat.zero_le _, rfl, fun j h => by omega⟩
  case round =>
    obtain ⟨k, hk, rfl, hall⟩ := hrel
    have HA := Lib.hid hall
    clear hall
    by_cases hlt : k < xs.length
    · obtain ⟨b, o, rfl, hbl, hcell⟩ := HR.out.resolve_left (by omega)
      have hc1 : w1.cell? ⟨b, o + k, none⟩ = some (.string (str xs[k])) := hcell k hlt
      have hsz : (str xs[k]).size ≤ 1073741824 := by rw [str_size]; have := HSM.out.2 _ (List.getElem_mem hlt); rw [size_list] at this; omega
      clear hcell
      cases hp : isAtom xs[k]
      · have HP : Hid (isAtom (str xs[k]).data.toList = false) := by show _ = _; rw [str_list]; exact hp
        have HE : Hid (xs.all isAtom = false) := by show _ = _; rw [List.all_eq_false]; exact ⟨_, List.getElem_mem hlt, by simp [hp]⟩
        generalize str xs[k] = x at *
        clear hp
        go_wp2_with fail
        refine (atomValidS_any x _ (by unfold maxLen; omega)).mono ?_
        rintro e w2 ⟨rfl, rfl⟩
        rw [HP.out]
        go_wp2
        go_ret
        exact ⟨ret_bool (by rw [HD.out, HE.out]; simp), hb1⟩
      · have HP : Hid (isAtom (str xs[k]).data.toList = true) := by show _ = _; rw [str_list]; exact hp
        have HQ := Lib.hid hp
        generalize str xs[k] = x at *
        clear hp
        go_wp2_with fail
        refine (atomValidS_any x _ (by unfold maxLen; omega)).mono ?_
        rintro e w2 ⟨rfl, rfl⟩
        rw [HP.out]
        go_wp2
        go_round
        case rel => exact ⟨k + 1, by omega, by go_num, fun j h h' => by
          by_cases e : j = k
          · subst e; exact HQ.out
          · exact HA.out j (by omega) h'⟩
        case measure => simp [intOf]; omega
    · have HE : Hid (xs.all isAtom = true) := by
        show _ = _
        rw [List.all_eq_true]; intro x hx
        obtain ⟨j, hj, rfl⟩ := List.getElem_of_mem hx
        exact HA.out j (by omega) hj
      go_wp2
      go_ret
      exact ⟨ret_bool (by rw [HD.out, HE.out, Bool.and_true]; rw [Bool.eq_iff_iff]; simp; omega), hb1⟩
theorem labC_nat : ∀ n, n < 256 → labC (UInt8.ofNat n) = ((alnumB (UInt8.ofNat n) || decide (UInt8.ofNat n = 45)) && !capB (UInt8.ofNat n)) := by decide +kernel
theorem labC_eq (c : UInt8) : labC c = ((alnumB c || decide (c = 45)) && !capB c) := by
  have := labC_nat c.toNat c.toNat_lt; rw [UInt8.ofNat_toNat] at this; exact this
set_option maxRecDepth 100000 in
set_option maxHeartbeats 8000000 in
theorem l2Domain_any (s : ByteArray) (w : World) (hs : s.size ≤ 1073741000) :
    Calls Tryd.prog 103 #[.string s] w fun e w' => e = .returned (.bool (isDomain s.data.toList)) ∧ Below w.heap.size w w' := by
  have HSM := Lib.hid (splitC_small 46 s.data.toList)
  have HD : Hid (isDomain s.data.toList = (decide (s.size ≤ 40) && (splitC 46 s.data.toList).all isLab)) := rfl
  go_enter Tryd.func103, Tryd.ntmps103
  go_wp2_with fail
  refine (l2Parts_any s 46 _ hs).mono ?_
  rintro e w1 ⟨v, rfl, ho, hb1⟩
  obtain ⟨a1, c1, rfl, hr, hm⟩ := ho.read
  generalize hX : splitC 46 s.data.toList = xs at *
  have HX := Lib.hid hX
  obtain ⟨_, hr2⟩ := hr
  have HR := Lib.hid hr2
  have hlen : xs.length ≤ 1073741824 := by have := HSM.out.1; rw [size_list] at this; omega
  clear hX hr2
  go_wp2_with fail
  go_loop [4] (fun i => ∃ k : Nat, k ≤ xs.length ∧ i = .int .i64 k ∧ ∀ j, (h : j < k) → (h' : j < xs.length) → isLab xs[j] = true) (fun i => xs.length - (intOf i).toNat)
  case atStart => exact ⟨0, Nat.zero_le _, rfl, fun j h => by omega⟩
  case round =>
    obtain ⟨k, hk, rfl, hall⟩ := hrel
    have HA := Lib.hid hall
    clear hall
    by_cases hlt : k < xs.length
    · obtain ⟨b, o, rfl, hbl, hcell⟩ := HR.out.resolve_left (by omega)
      have hc1 : w1.cell? ⟨b, o + k, none⟩ = some (.string (str xs[k])) := hcell k hlt
      have hsz : (str xs[k]).size ≤ 1073741824 := by rw [str_size]; have := HSM.out.2 _ (List.getElem_mem hlt); rw [size_list] at this; omega
      have HBAD : Hid (isLab xs[k] = false → xs.all isLab = false) := fun hp => by rw [List.all_eq_false]; exact ⟨_, List.getElem_mem hlt, by simp [hp]⟩
      have HOK : Hid (isLab xs[k] = true → ∀ j, (h : j < k + 1) → (h' : j < xs.length) → isLab xs[j] = true) := fun hp j h h' => by
        by_cases e : j = k
        · subst e; exact hp
        · exact HA.out j (by omega) h'
      have HXK : Hid (xs[k] = (str xs[k]).data.toList) := by show _ = _; rw [str_list]
      generalize str xs[k] = x at *
      clear hcell
      by_cases h0 : x.size = 0
      · have HB := Lib.hid (HBAD.out (by rw [HXK.out]; exact isLab_nil x h0))
        have he := empty_t h0
        have H0 := Lib.hid h0
        clear h0
        go_wp2
        go_ret
        exact ⟨ret_bool (by rw [HD.out, HB.out]; simp), hb1⟩
      · have he := empty_f (s := x) (by omega)
        have hp : 0 < x.size := by omega
        have hp2 : 1 ≤ x.size := by omega
        have h0' : x.size - 1 < x.size := by omega
        have hhead : x.data.toList.head? = some x[0] := by
          rw [List.head?_eq_getElem?, List.getElem?_eq_getElem (by rw [size_list]; exact hp)]; rfl
        have hlast : x.data.toList.getLast? = some x[x.size - 1] := by
          rw [List.getLast?_eq_getElem?, size_list, List.getElem?_eq_getElem (by rw [size_list]; omega)]; rfl
        by_cases ha : x[0] = 45
        · have HB := Lib.hid (HBAD.out (by rw [HXK.out]; unfold isLab; rw [hhead, ha]; simp))
          have e1 := beq_t ha (n := 45) rfl
          clear ha hhead hlast
          go_wp2
          go_ret
          exact ⟨ret_bool (by rw [HD.out, HB.out]; simp), hb1⟩
        · have e1 := beq_f ha (n := 45) rfl
          by_cases hb : x[x.size - 1] = 45
          · have HB := Lib.hid (HBAD.out (by rw [HXK.out]; unfold isLab; rw [hlast, hb]; simp))
            have e2 := beq_t hb (n := 45) rfl
            clear ha hb hhead hlast
            go_wp2
            go_ret
            exact ⟨ret_bool (by rw [HD.out, HB.out]; simp), hb1⟩
          · have e2 := beq_f hb (n := 45) rfl
            have HGOOD : Hid ((∀ j, (h' : j < x.size) → labC x[j] = true) → isLab xs[k] = true) := fun h => by
              rw [HXK.out, isLab_good x hp h]; simp [ha, hb]
            have HBAD2 : Hid (∀ j, (h' : j < x.size) → labC x[j] = false → xs.all isLab = false) := fun j h' h => HBAD.out (by rw [HXK.out]; exact isLab_bad x j h' h)
            clear ha hb hhead hlast
            go_wp2_with fail
            go_loop [6] (fun i => ∃ q : Nat, q ≤ x.size ∧ i = .int .i64 q ∧ ∀ j, (h : j < q) → (h' : j < x.size) → labC x[j] = true) (fun i => x.size - (intOf i).toNat)
            case atStart => exact ⟨0, Nat.zero_le _, rfl, fun j h => by omega⟩
            case round =>
              obtain ⟨q, hq, rfl, hqall⟩ := hrel
              have HQA := Lib.hid hqall
              clear hqall
              by_cases hqlt : q < x.size
              · have HEQ := Lib.hid (labC_eq x[q])
                have HSTEP : Hid (labC x[q] = true → ∀ j, (h : j < q + 1) → (h' : j < x.size) → labC x[j] = true) := fun hp j h h' => by
                  by_cases e : j = q
                  · subst e; exact hp
                  · exact HQA.out j (by omega) h'
                cases hal : alnumB x[q]
                · have HAL := Lib.hid hal
                  by_cases h45 : x[q] = 45
                  · have e3 := bneq_f h45 (n := 45) rfl
                    have hlow : (x[q].toNat : Int) < 65 := by rw [h45]; decide
                    have HN := Lib.hid (HSTEP.out (by rw [HEQ.out, h45]; decide))
                    clear hal h45
                    go_wp2_with fail
                    refine (l1Letter_any _ _).mono ?_
                    rintro e w2 ⟨rfl, rfl⟩
                    rw [HAL.out]
                    go_wp2
                    go_round
                    case rel => exact ⟨q + 1, by omega, by go_num, HN.out⟩
                    case measure => simp [intOf]; omega
                  · have e3 := bneq_t h45 (n := 45) rfl
                    have HB := Lib.hid (HBAD2.out q hqlt (by rw [HEQ.out, hal]; simp [h45]))
                    clear hal h45
                    go_wp2_with fail
                    refine (l1Letter_any _ _).mono ?_
                    rintro e w2 ⟨rfl, rfl⟩
                    rw [HAL.out]
                    go_wp2
                    go_ret
                    exact ⟨ret_bool (by rw [HD.out, HB.out]; simp), hb1⟩
                · have HAL := Lib.hid hal
                  cases hcp : capB x[q]
                  · have HN := Lib.hid (HSTEP.out (by rw [HEQ.out, hal, hcp]; rfl))
                    rcases capB_f hcp with hlow | ⟨hlo, hhi⟩
                    · clear hal hcp
                      go_wp2_with fail
                      refine (l1Letter_any _ _).mono ?_
                      rintro e w2 ⟨rfl, rfl⟩
                      rw [HAL.out]
                      go_wp2
                      go_round
                      case rel => exact ⟨q + 1, by omega, by go_num, HN.out⟩
                      case measure => simp [intOf]; omega
                    · clear hal hcp
                      go_wp2_with fail
                      refine (l1Letter_any _ _).mono ?_
                      rintro e w2 ⟨rfl, rfl⟩
                      rw [HAL.out]
                      go_wp2
                      go_round
                      case rel => exact ⟨q + 1, by omega, by go_num, HN.out⟩
                      case measure => simp [intOf]; omega
                  · have HB := Lib.hid (HBAD2.out q hqlt (by rw [HEQ.out, hcp]; simp))
                    obtain ⟨hlo, hhi⟩ := capB_t hcp
                    clear hal hcp
                    go_wp2_with fail
                    refine (l1Letter_any _ _).mono ?_
                    rintro e w2 ⟨rfl, rfl⟩
                    rw [HAL.out]
                    go_wp2
                    go_ret
                    exact ⟨ret_bool (by rw [HD.out, HB.out]; simp), hb1⟩
              · have HG := Lib.hid (HOK.out (HGOOD.out (fun j h' => HQA.out j (by omega) h')))
                go_wp2
                go_round
                case rel => exact ⟨k + 1, by omega, by go_num, HG.out⟩
                case measure => simp [intOf]; omega
    · have HE : Hid (xs.all isLab = true) := by
        show _ = _
        rw [List.all_eq_true]; intro x hx
        obtain ⟨j, hj, rfl⟩ := List.getElem_of_mem hx
        exact HA.out j (by omega) hj
      go_wp2
      go_ret
      exact ⟨ret_bool (by rw [HD.out, HE.out, Bool.and_true]; rw [Bool.eq_iff_iff]; simp; omega), hb1⟩
end Go.Proofs.YtbfjbabpeigloabDoor
end

section
namespace Go.Proofs.YtbfjbabpeigloabDoor
open Go.RowKit

set_option maxRecDepth 100000 in
set_option maxHeartbeats 400000 in
theorem l2Name_any (s : ByteArray) (w : World) (hs : s.size ≤ 1073741824) :
    Calls Tryd.prog 101 #[.string s] w fun e w' => e = .returned (.bool (isName s.data.toList)) ∧ w = w' := by
  have HD : Hid (isName s.data.toList = (isText s.data.toList && decide (s.size ≤ 40))) := rfl
  cases h : isText s.data.toList
  · have H := Lib.hid h
    clear h
    go_enter Tryd.func101, Tryd.ntmps101
    go_wp2_with fail
    refine (textValidS_any s _ (by unfold maxLen; omega)).mono ?_
    rintro e w1 ⟨rfl, rfl⟩
    rw [H.out]
    go_wp2
    go_ret
    exact ⟨ret_bool (by rw [HD.out, H.out]; rfl), rfl⟩
  · have H := Lib.hid h
    clear h
    go_enter Tryd.func101, Tryd.ntmps101
    go_wp2_with fail
    refine (textValidS_any s _ (by unfold maxLen; omega)).mono ?_
    rintro e w1 ⟨rfl, rfl⟩
    rw [H.out]
    go_wp2
    go_ret
    exact ⟨ret_bool (by rw [HD.out, H.out, Bool.true_and, Bool.eq_iff_iff]; simp; omega), rfl⟩
theorem isLocal_long {l : List UInt8} (h : 30 < l.length) : isLocal l = false := by unfold isLocal; rw [decide_eq_false (by omega)]; rfl
theorem isDomain_long {l : List UInt8} (h : 40 < l.length) : isDomain l = false := by unfold isDomain; rw [decide_eq_false (by omega)]; rfl
set_option maxRecDepth 100000 in
set_option maxHeartbeats 1000000 in
theorem addressValidS_any (n l d : ByteArray) (w : World) (hn : n.size ≤ 1073741000) (hl : l.size ≤ 1073741000) (hd : d.size ≤ 1073741000) :
    Calls Tryd.prog 91 #[.agg #[.string n, .string l, .string d]] w fun e w' => e = .returned (.bool (isAdr (adr n l d))) ∧ Below w.heap.size w w' := by
  have HP : Hid (isAdr (adr n l d) = (isName n.data.toList && isLocal l.data.toList && isDomain d.data.toList)) := rfl
  have hb0 : Below w.heap.size w (w.alloc (.cells #[.string n, .string l, .string d] 88)) := (Below.refl _ _).alloc (Nat.le_refl _) _
  cases h1 : isName n.data.toList
  · have H1 := Lib.hid h1
    clear h1
    go_enter Tryd.func91, Tryd.ntmps91
    go_wp2_with fail
    refine (l2Name_any n _ (by omega)).mono ?_
    rintro e w1 ⟨rfl, rfl⟩
    rw [H1.out]
    go_wp2
    go_ret
    exact ⟨ret_bool (by rw [HP.out, H1.out]; rfl), hb0⟩
  · have H1 := Lib.hid h1
    clear h1
    by_cases h30 : l.size ≤ 30
    · have d1 : decide ((l.size : Int) ≤ 30) = true := by simp; omega
      cases h3 : isLocal l.data.toList
      · have H3 := Lib.hid h3
        clear h3
        go_enter Tryd.func91, Tryd.ntmps91
        go_wp2_with fail
        refine (l2Name_any n _ (by omega)).mono ?_
        rintro e w1 ⟨rfl, rfl⟩
        rw [H1.out]
        go_wp2_with fail
        refine (l2Local_any l _ hl).mono ?_
        rintro e w1 ⟨rfl, hb1⟩
        rw [H3.out]
        go_wp2
        go_ret
        exact ⟨ret_bool (by rw [HP.out, H1.out, H3.out]; rfl), nx hb0 hb1⟩
      · have H3 := Lib.hid h3
        clear h3
        by_cases h40 : d.size ≤ 40
        · have d2 : decide ((d.size : Int) ≤ 40) = true := by simp; omega
          go_enter Tryd.func91, Tryd.ntmps91
          go_wp2_with fail
          refine (l2Name_any n _ (by omega)).mono ?_
          rintro e w1 ⟨rfl, rfl⟩
          rw [H1.out]
          go_wp2_with fail
          refine (l2Local_any l _ hl).mono ?_
          rintro e w1 ⟨rfl, hb1⟩
          rw [H3.out]
          obtain ⟨hc, hf⟩ := bcell hb1
          go_wp2_with fail
          refine (l2Domain_any d _ hd).mono ?_
          rintro e w2 ⟨rfl, hb2⟩
          go_wp2
          go_ret
          exact ⟨ret_bool (by rw [HP.out, H1.out, H3.out]; rfl), nx (nx hb0 hb1) hb2⟩
        · have d2 : decide ((d.size : Int) ≤ 40) = false := by simp; omega
          have HDD := Lib.hid (isDomain_long (l := d.data.toList) (by rw [size_list]; omega))
          go_enter Tryd.func91, Tryd.ntmps91
          go_wp2_with fail
          refine (l2Name_any n _ (by omega)).mono ?_
          rintro e w1 ⟨rfl, rfl⟩
          rw [H1.out]
          go_wp2_with fail
          refine (l2Local_any l _ hl).mono ?_
          rintro e w1 ⟨rfl, hb1⟩
          rw [H3.out]
          obtain ⟨hc, hf⟩ := bcell hb1
          go_wp2
          go_ret
          exact ⟨ret_bool (by rw [HP.out, H1.out, H3.out, HDD.out]; rfl), nx hb0 hb1⟩
    · have d1 : decide ((l.size : Int) ≤ 30) = false := by simp; omega
      have HLL := Lib.hid (isLocal_long (l := l.data.toList) (by rw [size_list]; omega))
      go_enter Tryd.func91, Tryd.ntmps91
      go_wp2_with fail
      refine (l2Name_any n _ (by omega)).mono ?_
      rintro e w1 ⟨rfl, rfl⟩
      rw [H1.out]
      go_wp2
      go_ret
      exact ⟨ret_bool (by rw [HP.out, H1.out, HLL.out]; rfl), hb0⟩
end Go.Proofs.YtbfjbabpeigloabDoor
end

section
namespace Go.Proofs.YtbfjbabpeigloabDoor
open Go.RowKit

def boxVal (l : List UInt8) : Adr × Bool := match cutU 64 l with
  | none => (⟨[], l, []⟩, false)
  | some (a, d) => (⟨[], a, low d⟩, isAdr ⟨[], a, low d⟩)
theorem boxVal_boxA (l : List UInt8) : boxA [] l = if (boxVal l).2 then some (boxVal l).1 else none := by
  unfold boxA boxVal
  cases cutU 64 l with
  | none => rfl
  | some y => rfl
theorem boxVal_small (l : List UInt8) : (boxVal l).1.loc.length ≤ l.length ∧ (boxVal l).1.dom.length ≤ l.length ∧ (boxVal l).1.name = [] := by
  unfold boxVal
  cases h : cutU 64 l with
  | none => exact ⟨Nat.le_refl _, by simp, rfl⟩
  | some y =>
    obtain ⟨a, d⟩ := y
    have := cutU_bound h
    exact ⟨by show a.length ≤ _; omega, by show (low d).length ≤ _; unfold low; rw [List.length_map]; omega, rfl⟩
def BoxRet (l : List UInt8) (w : World) (e : Ending) (w' : World) : Prop := e = .returned (.tuple #[adrV (boxVal l).1, .bool (boxVal l).2]) ∧ Below w.heap.size w w'
theorem boxRet_none {l : List UInt8} {w w' : World} {x : ByteArray} (h : cutU 64 l = none) (hx : x.data.toList = l) (hb : Below w.heap.size w w') : BoxRet l w (.returned (.tuple #[.agg #[.string ⟨#[]⟩, .string x, .string ⟨#[]⟩], .bool false])) w' := by
  refine ⟨?_, hb⟩
  unfold boxVal; rw [h]
  show _ = Ending.returned (.tuple #[.agg #[.string (str []), .string (str l), .string (str [])], .bool false])
  rw [← hx, str_of]; rfl
theorem boxRet_some {l a d : List UInt8} {w w' : World} {b : Bool} (h : cutU 64 l = some (a, d)) (hv : b = isAdr ⟨[], a, low d⟩) (hb : Below w.heap.size w w') : BoxRet l w (.returned (.tuple #[.agg #[.string ⟨#[]⟩, .string (str a), .string (str (low d))], .bool b])) w' := by
  refine ⟨?_, hb⟩
  unfold boxVal; rw [h, hv]; rfl
theorem lowS_nil : lowS ⟨#[]⟩ = ⟨#[]⟩ := rfl
set_option maxRecDepth 100000 in
set_option maxHeartbeats 1000000 in
theorem l2Box_any (s : ByteArray) (w : World) (hs : s.size ≤ 1073741000) :
    Calls Tryd.prog 74 #[.string s] w (BoxRet s.data.toList w) := by
  have hb0 : Below w.heap.size w (w.alloc (.cells #[.string ⟨#[]⟩, .string ⟨#[]⟩, .string ⟨#[]⟩] 88)) := (Below.refl _ _).alloc (Nat.le_refl _) _
  cases hcut : cutU 64 s.data.toList with
  | none =>
    have HC := Lib.hid hcut
    clear hcut
    go_enter Tryd.func74, Tryd.ntmps74
    go_wp2_with fail
    refine (l2Cut_any s 64 _ (by decide) (by omega)).mono ?_
    rintro e w1 ⟨_, hno, q, rfl⟩
    have he := hno HC.out
    clear hno
    subst he
    have hb1 := below_drewN hb0 q
    go_wp2_with fail
    refine (lowerTextS_any ⟨#[]⟩ _ (by decide)).mono ?_
    rintro e w2 ⟨rfl, hb2⟩
    rw [lowS_nil]
    obtain ⟨hc, hf⟩ := bcell hb2
    have hsz := hb2.size
    simp at hsz
    have hlt : w.heap.size < w2.heap.size := by omega
    have hne : w.heap.size ≠ w2.heap.size := by omega
    have hne2 : w2.heap.size ≠ w.heap.size := by omega
    go_wp2
    go_region
    all_goals
      go_wp2
      refine bodyPost_ret (v := .tuple #[.agg #[.string ⟨#[]⟩, .string s, .string ⟨#[]⟩], .bool false]) (by simp [results, Tryd.results74, go_sem, hc, hlt, World.cell?_alloc_lt]) rfl (boxRet_none HC.out rfl ?_)
      exact ((((((nx hb1 hb2).setCell (by simp) _).setCell (by simp) _).setCell (by simp) _).alloc (by simp; omega) _).drew)
  | some y =>
    obtain ⟨a, d⟩ := y
    have hbd := cutU_bound hcut
    rw [size_list] at hbd
    have HC := Lib.hid hcut
    have HLD := Lib.hid (lowS_str d)
    have hlz : (str a).size ≤ 1073741000 := by rw [str_size]; omega
    have hdz : (str d).size ≤ 1073741000 := by rw [str_size]; omega
    have hez : (str (low d)).size ≤ 1073741000 := by rw [str_size]; unfold low; rw [List.length_map]; omega
    have HAD : Hid (adr ⟨#[]⟩ (str a) (str (low d)) = ⟨[], a, low d⟩) := adr_str ⟨[], a, low d⟩
    clear hcut hbd
    go_enter Tryd.func74, Tryd.ntmps74
    go_wp2_with fail
    refine (l2Cut_any s 64 _ (by decide) (by omega)).mono ?_
    rintro e w1 ⟨hy, _, q, rfl⟩
    have he := hy a d HC.out
    clear hy
    subst he
    have hb1 := below_drewN hb0 q
    go_wp2_with fail
    refine (lowerTextS_any (str d) _ (by omega)).mono ?_
    rintro e w2 ⟨rfl, hb2⟩
    rw [HLD.out]
    obtain ⟨hc, hf⟩ := bcell hb2
    have hsz := hb2.size
    simp at hsz
    have hlt : w.heap.size < w2.heap.size := by omega
    have hlt2 : w.heap.size < w2.heap.size + 1 := by omega
    have hne : w.heap.size ≠ w2.heap.size := by omega
    have hne2 : w2.heap.size ≠ w.heap.size := by omega
    go_wp2
    go_region_with (go_at_call 91; refine (addressValidS_any ⟨#[]⟩ (str a) (str (low d)) _ ?_ ?_ ?_).mono ?_; exact Nat.zero_le _; exact hlz; exact hez; rintro e w5 ⟨rfl, hb5⟩; rw [HAD.out]; obtain ⟨hc5, hf5⟩ := bcell hb5)
    all_goals
      go_wp2
      refine bodyPost_ret (v := .tuple #[.agg #[.string ⟨#[]⟩, .string (str a), .string (str (low d))], .bool (isAdr ⟨[], a, low d⟩)]) (by simp [results, Tryd.results74, go_sem, hc, hc5, hlt, hlt2, World.cell?_alloc_lt]) rfl (boxRet_some HC.out rfl ?_)
      have h25 : Below w.heap.size w w5 := nx (((nx hb1 hb2).alloc (nx hb1 hb2).size _).drew) hb5
      exact (((h25.setCell (by simp) _).setCell (by simp) _).setCell (by simp) _)
end Go.Proofs.YtbfjbabpeigloabDoor
end

section
namespace Go.Proofs.YtbfjbabpeigloabDoor
open Go.RowKit

theorem boxVal_path (l : List UInt8) : isPath l = ((boxVal l).2 && decide (boxT (boxVal l).1 = l)) := by
  rw [path_box, boxVal_boxA]
  cases (boxVal l).2 <;> rfl
theorem boxVal_low (l : List UInt8) : isPath (lowPath l) = (boxVal l).2 ∧ (isPath (lowPath l) = true → boxT (boxVal l).1 = lowPath l) := by
  have h := box_path l
  rw [boxVal_boxA] at h
  cases hb : (boxVal l).2 with
  | false =>
    rw [hb] at h
    cases hp : isPath (lowPath l) with
    | false => exact ⟨rfl, fun h => by cases h⟩
    | true => rw [hp] at h; cases h
  | true =>
    rw [hb] at h
    cases hp : isPath (lowPath l) with
    | false => rw [hp] at h; cases h
    | true => rw [hp] at h; injection h with h; exact ⟨rfl, fun _ => h⟩
theorem strS_toList (l : List UInt8) : (str l).toList = l := by rw [ByteArray.toList_eq]; exact str_list _
theorem sumBox (p q : List UInt8) (s : ByteArray) : (((str p ++ ⟨#[64]⟩) ++ str q).toList == s.toList) = decide (p ++ 64 :: q = s.data.toList) := by
  have e : ((str p ++ ⟨#[64]⟩) ++ str q).toList = p ++ 64 :: q := by
    rw [ByteArray.toList_eq, Joins.data_append, Joins.data_append, str_list, str_list]; simp
  rw [e, ByteArray.toList_eq, Bool.eq_iff_iff, beq_iff_eq, decide_eq_true_iff]
set_option maxRecDepth 100000 in
set_option maxHeartbeats 1000000 in
theorem l10Box_any (s : ByteArray) (w : World) (hs : s.size ≤ 1073741000) :
    Calls Tryd.prog 52 #[.string s] w fun e w' => e = .returned (.bool (isPath s.data.toList)) ∧ Below w.heap.size w w' := by
  obtain ⟨z1, z2, z3⟩ := boxVal_small s.data.toList
  rw [size_list] at z1 z2
  have H0 : Hid (∀ u, Calls Tryd.prog 74 #[.string s] u (BoxRet s.data.toList u)) := fun u => l2Box_any s u (by omega)
  unfold BoxRet adrV at H0
  rw [boxVal_path]
  have d0 := sumBox (boxVal s.data.toList).1.loc (boxVal s.data.toList).1.dom s
  unfold boxT
  have s1 : (str (boxVal s.data.toList).1.loc).size ≤ 1073741000 := by rw [str_size]; omega
  have s2 : (str (boxVal s.data.toList).1.dom).size ≤ 1073741000 := by rw [str_size]; omega
  have s3 : (ByteArray.mk #[64]).size = 1 := rfl
  generalize decide ((boxVal s.data.toList).1.loc ++ 64 :: (boxVal s.data.toList).1.dom = s.data.toList) = g1 at *
  generalize (boxVal s.data.toList).2 = g0 at *
  generalize str (boxVal s.data.toList).1.loc = x1 at *
  generalize str (boxVal s.data.toList).1.dom = x2 at *
  generalize str (boxVal s.data.toList).1.name = x0 at *
  clear z1 z2 z3
  go_enter Tryd.func52, Tryd.ntmps52
  go_wp2_with fail
  refine (H0.out _).mono ?_
  rintro e w1 ⟨rfl, hb1⟩
  have hb2 : Below w.heap.size w (w1.alloc (.cells #[.string x0, .string x1, .string x2] 88)) := hb1.alloc hb1.size _
  cases g0
  · go_wp2
    go_ret
    exact ⟨rfl, by first | exact hb2 | exact hb1⟩
  · go_wp2
    go_ret
    exact ⟨rfl, by first | exact hb2 | exact hb1⟩
theorem boxE (x : ByteArray) (w : World) (hx : x.size ≤ 1073741000) : Calls Tryd.prog 52 #[.string x] w fun e w' => e = .returned (.bool (isPath x.data.toList)) ∧ Below w.heap.size w w' := l10Box_any x w hx
theorem textSE (x : ByteArray) (w : World) (hx : x.size ≤ 1073741000) : Calls Tryd.prog 92 #[.string x] w fun e w' => e = .returned (.bool (isText x.data.toList)) ∧ Below w.heap.size w w' :=
  (textValidS_any x w (by unfold maxLen; omega)).mono (fun _ _ ⟨he, hw⟩ => ⟨he, hw ▸ Below.refl _ _⟩)
theorem all_bad {P : List UInt8 → Bool} {xs : List (List UInt8)} {k : Nat} (h : k < xs.length) (hp : P xs[k] = false) : xs.all P = false := by
  rw [List.all_eq_false]; exact ⟨_, List.getElem_mem h, by simp [hp]⟩
theorem all_good {P : List UInt8 → Bool} {xs : List (List UInt8)} {n : Nat} (hn : xs.length ≤ n) (h : ∀ j, j < n → (h' : j < xs.length) → P xs[j] = true) : xs.all P = true := by
  rw [List.all_eq_true]; intro x hx
  obtain ⟨j, hj, rfl⟩ := List.getElem_of_mem hx
  exact h j (by omega) hj
set_option maxRecDepth 100000 in
set_option maxHeartbeats 4000000 in
theorem l10Draft_any (M : Nat) (x : MlA) (w : World) (h1 : RdM M w x) (hM : M ≤ 1073741000) :
    Calls Tryd.prog 75 #[mlV x] w fun e w' => e = .returned (.bool (isDraft x.m)) ∧ Below w.heap.size w w' := by
  obtain ⟨⟨f1, t1, l1⟩, a1, c1, b1, d1⟩ := x
  obtain ⟨⟨p1, _, _⟩, ⟨p2, _, _⟩, p0, p3, p5, p4, p6⟩ := h1
  dsimp only at *
  unfold mlV isDraft isSend
  dsimp only
  have H0 : Hid (∀ u, Below w.heap.size w u → Calls Tryd.prog 52 #[.string (str f1)] u fun e w' => e = .returned (.bool (isPath f1)) ∧ Below u.heap.size u w') := fun u hb => by
    have := l10Box_any (str f1) u (by rw [str_size]; omega)
    rw [str_list] at this; exact this
  have P1 := Lib.hid p1
  have P2 := Lib.hid p2
  have P5 := Lib.hid p5
  have P6 := Lib.hid p6
  have e1 : decide (t1.length ≤ 10) = decide ((t1.length : Int) ≤ 10) := decide_eq_decide.2 (by omega)
  have e2 : decide (l1.length ≤ 31) = decide ((l1.length : Int) ≤ 31) := decide_eq_decide.2 (by omega)
  rw [e1, e2]
  have d0 := eqEmp f1
  have d0' : ((str f1).toList != []) = !decide (f1 = []) := by rw [bne, d0]
  have hz1 : t1.length ≤ 1073741000 := by omega
  have hz2 : l1.length ≤ 1073741000 := by omega
  have HN1 : Hid (t1.length ≤ t1.length) := Nat.le_refl _
  have HN2 : Hid (l1.length ≤ l1.length) := Nat.le_refl _
  clear p1 p2 p3 p4 p5 p6 p0 e1 e2
  generalize decide (f1 = []) = g00 at *
  generalize isPath f1 = g0 at *
  obtain ⟨n1, hn1⟩ : ∃ n, n = t1.length := ⟨_, rfl⟩
  obtain ⟨n3, hn3⟩ : ∃ n, n = l1.length := ⟨_, rfl⟩
  rw [← hn1, ← hn3]
  rw [← hn1] at hz1 P1
  rw [← hn3] at hz2 P2
  have HE1 := Lib.hid hn1
  have HE3 := Lib.hid hn3
  clear hn1 hn3 HN1 HN2
  generalize str f1 = s1 at *
  have hA : Below w.heap.size w (w.alloc (.cells #[.string s1, .slice a1 n1 c1, .slice b1 n3 d1] 28)) := (Below.refl _ _).alloc (Nat.le_refl _) _
  have HX := Lib.hid (MK3.new w (.string s1) (.slice a1 n1 c1) (.slice b1 n3 d1) 28)
  cases g00
  · cases g0
    · go_enter Tryd.func75, Tryd.ntmps75
      go_wp2_with fail
      refine (H0.out _ hA).mono ?_
      rintro e w1 ⟨rfl, hb1⟩
      have hb01 := nx hA hb1
      have HX1 := Lib.hid (HX.out.below hb1)
      go_wp2
      go_ret
      exact ⟨rfl, hb01⟩
    · by_cases k1 : (n1 : Int) ≤ 10
      · by_cases k2 : (n3 : Int) ≤ 31
        · rw [decide_eq_true k1, decide_eq_true k2]
          go_enter Tryd.func75, Tryd.ntmps75
          go_wp2_with fail
          refine (H0.out _ hA).mono ?_
          rintro e w1 ⟨rfl, hb1⟩
          have hb01 := nx hA hb1
          have HX1 := Lib.hid (HX.out.below hb1)
          obtain ⟨y0, y1, y2⟩ := HX1.out
          go_wp2_with fail
          go_loopw [3] (fun i w5 => ∃ k : Nat, k ≤ n1 ∧ i = .int .i64 k ∧ Below w1.heap.size w1 w5 ∧ ∀ j, j < k → (h' : j < t1.length) → isPath t1[j] = true) (fun i _ => n1 - (intOf i).toNat)
          case atStart => exact ⟨0, Nat.zero_le _, rfl, Below.refl _ _, fun j h => by omega⟩
          case round =>
            obtain ⟨k, hk, rfl, hb, hall⟩ := hrel
            have HA := Lib.hid hall
            clear hall
            obtain ⟨y0, y1, y2⟩ := HX1.out.below hb
            by_cases hlt : k < n1
            · have hkx : k < t1.length := by have := HE1.out; omega
              obtain ⟨b, off, rfl, hbl, hcell⟩ := P1.out.2.resolve_left (by omega)
              have hc1 : wr.cell? ⟨b, off + k, none⟩ = some (.string (str t1[k])) := by rw [below_at (nx hb01 hb) hbl]; exact hcell k hkx
              have HC : Hid (Calls Tryd.prog 52 #[.string (str t1[k])] wr fun e w' => e = .returned (.bool (isPath (str t1[k]).data.toList)) ∧ Below wr.heap.size wr w') := boxE _ wr (by rw [str_size]; have := P5.out _ (List.getElem_mem hkx); omega)
              rw [str_list] at HC
              clear hcell
              cases hp : isPath t1[k]
              · have HE : Hid (t1.all isPath = false) := all_bad hkx hp
                rw [hp] at HC
                generalize str t1[k] = z at *
                clear hp
                go_wp2_with fail
                refine HC.out.mono ?_
                rintro e w2 ⟨rfl, hb2⟩
                go_wp2
                go_ret
                exact ⟨ret_bool (by rw [HE.out]; simp), nx hb01 (nx hb hb2)⟩
              · have HQ := Lib.hid hp
                rw [hp] at HC
                generalize str t1[k] = z at *
                clear hp
                go_wp2_with fail
                refine HC.out.mono ?_
                rintro e w2 ⟨rfl, hb2⟩
                go_wp2
                go_roundw
                case rel => exact ⟨k + 1, by omega, by go_num, nx hb hb2, fun j h h' => by
                  by_cases e : j = k
                  · subst e; exact HQ.out
                  · exact HA.out j (by omega) h'⟩
                case measure => simp [intOf]; omega
            · have HT : Hid (t1.all isPath = true) := all_good (n := n1) (by have := HE1.out; omega) (fun j h h' => HA.out j (by omega) h')
              go_wp2_with fail
              go_loopw [4] (fun i w5 => ∃ k : Nat, k ≤ n3 ∧ i = .int .i64 k ∧ Below w1.heap.size w1 w5 ∧ ∀ j, j < k → (h' : j < l1.length) → isText l1[j] = true) (fun i _ => n3 - (intOf i).toNat)
              case atStart => exact ⟨0, Nat.zero_le _, rfl, hb, fun j h => by omega⟩
              case round =>
                clear y0 y1 y2 hlt hb hk
                obtain ⟨k2, hk, rfl, hb, hall⟩ := hrel
                have HA2 := Lib.hid hall
                clear hall
                obtain ⟨y0, y1, y2⟩ := HX1.out.below hb
                by_cases hlt : k2 < n3
                · have hkx : k2 < l1.length := by have := HE3.out; omega
                  obtain ⟨b, off, rfl, hbl, hcell⟩ := P2.out.2.resolve_left (by omega)
                  have hc1 : wr.cell? ⟨b, off + k2, none⟩ = some (.string (str l1[k2])) := by rw [below_at (nx hb01 hb) hbl]; exact hcell k2 hkx
                  have HC : Hid (Calls Tryd.prog 92 #[.string (str l1[k2])] wr fun e w' => e = .returned (.bool (isText (str l1[k2]).data.toList)) ∧ Below wr.heap.size wr w') := textSE _ wr (by rw [str_size]; have := P6.out _ (List.getElem_mem hkx); omega)
                  rw [str_list] at HC
                  clear hcell
                  cases hp : isText l1[k2]
                  · have HE : Hid (l1.all isText = false) := all_bad hkx hp
                    rw [hp] at HC
                    generalize str l1[k2] = z at *
                    clear hp
                    go_wp2_with fail
                    refine HC.out.mono ?_
                    rintro e w2 ⟨rfl, hb2⟩
                    go_wp2
                    go_ret
                    exact ⟨ret_bool (by rw [HE.out]; simp), nx hb01 (nx hb hb2)⟩
                  · have HQ := Lib.hid hp
                    rw [hp] at HC
                    generalize str l1[k2] = z at *
                    clear hp
                    go_wp2_with fail
                    refine HC.out.mono ?_
                    rintro e w2 ⟨rfl, hb2⟩
                    go_wp2
                    go_roundw
                    case rel => exact ⟨k2 + 1, by omega, by go_num, nx hb hb2, fun j h h' => by
                      by_cases e : j = k2
                      · subst e; exact HQ.out
                      · exact HA2.out j (by omega) h'⟩
                    case measure => simp [intOf]; omega
                · have HL : Hid (l1.all isText = true) := all_good (n := n3) (by have := HE3.out; omega) (fun j h h' => HA2.out j (by omega) h')
                  go_wp2
                  go_ret
                  exact ⟨ret_bool (by rw [HT.out, HL.out]; rfl), nx hb01 hb⟩
        · rw [decide_eq_false k2]
          go_enter Tryd.func75, Tryd.ntmps75
          go_wp2_with fail
          refine (H0.out _ hA).mono ?_
          rintro e w1 ⟨rfl, hb1⟩
          have hb01 := nx hA hb1
          have HX1 := Lib.hid (HX.out.below hb1)
          obtain ⟨y0, y1, y2⟩ := HX1.out
          go_wp2
          go_ret
          exact ⟨ret_bool (by simp), hb01⟩
      · rw [decide_eq_false k1]
        go_enter Tryd.func75, Tryd.ntmps75
        go_wp2_with fail
        refine (H0.out _ hA).mono ?_
        rintro e w1 ⟨rfl, hb1⟩
        have hb01 := nx hA hb1
        have HX1 := Lib.hid (HX.out.below hb1)
        obtain ⟨y0, y1, y2⟩ := HX1.out
        go_wp2
        go_ret
        exact ⟨ret_bool (by simp), hb01⟩
  · by_cases k1 : (n1 : Int) ≤ 10
    · by_cases k2 : (n3 : Int) ≤ 31
      · rw [decide_eq_true k1, decide_eq_true k2]
        go_enter Tryd.func75, Tryd.ntmps75
        have hb01 := hA
        have HX1 := HX
        obtain ⟨y0, y1, y2⟩ := HX1.out
        go_wp2_with fail
        generalize w.alloc (.cells #[.string s1, .slice a1 n1 c1, .slice b1 n3 d1] 28) = w1 at *
        go_loopw [3] (fun i w5 => ∃ k : Nat, k ≤ n1 ∧ i = .int .i64 k ∧ Below w1.heap.size w1 w5 ∧ ∀ j, j < k → (h' : j < t1.length) → isPath t1[j] = true) (fun i _ => n1 - (intOf i).toNat)
        case atStart => exact ⟨0, Nat.zero_le _, rfl, Below.refl _ _, fun j h => by omega⟩
        case round =>
          obtain ⟨k, hk, rfl, hb, hall⟩ := hrel
          have HA := Lib.hid hall
          clear hall
          obtain ⟨y0, y1, y2⟩ := HX1.out.below hb
          by_cases hlt : k < n1
          · have hkx : k < t1.length := by have := HE1.out; omega
            obtain ⟨b, off, rfl, hbl, hcell⟩ := P1.out.2.resolve_left (by omega)
            have hc1 : wr.cell? ⟨b, off + k, none⟩ = some (.string (str t1[k])) := by rw [below_at (nx hb01 hb) hbl]; exact hcell k hkx
            have HC : Hid (Calls Tryd.prog 52 #[.string (str t1[k])] wr fun e w' => e = .returned (.bool (isPath (str t1[k]).data.toList)) ∧ Below wr.heap.size wr w') := boxE _ wr (by rw [str_size]; have := P5.out _ (List.getElem_mem hkx); omega)
            rw [str_list] at HC
            clear hcell
            cases hp : isPath t1[k]
            · have HE : Hid (t1.all isPath = false) := all_bad hkx hp
              rw [hp] at HC
              generalize str t1[k] = z at *
              clear hp
              go_wp2_with fail
              refine HC.out.mono ?_
              rintro e w2 ⟨rfl, hb2⟩
              go_wp2
              go_ret
              exact ⟨ret_bool (by rw [HE.out]; simp), nx hb01 (nx hb hb2)⟩
            · have HQ := Lib.hid hp
              rw [hp] at HC
              generalize str t1[k] = z at *
              clear hp
              go_wp2_with fail
              refine HC.out.mono ?_
              rintro e w2 ⟨rfl, hb2⟩
              go_wp2
              go_roundw
              case rel => exact ⟨k + 1, by omega, by go_num, nx hb hb2, fun j h h' => by
                by_cases e : j = k
                · subst e; exact HQ.out
                · exact HA.out j (by omega) h'⟩
              case measure => simp [intOf]; omega
          · have HT : Hid (t1.all isPath = true) := all_good (n := n1) (by have := HE1.out; omega) (fun j h h' => HA.out j (by omega) h')
            go_wp2_with fail
            go_loopw [4] (fun i w5 => ∃ k : Nat, k ≤ n3 ∧ i = .int .i64 k ∧ Below w1.heap.size w1 w5 ∧ ∀ j, j < k → (h' : j < l1.length) → isText l1[j] = true) (fun i _ => n3 - (intOf i).toNat)
            case atStart => exact ⟨0, Nat.zero_le _, rfl, hb, fun j h => by omega⟩
            case round =>
              clear y0 y1 y2 hlt hb hk
              obtain ⟨k2, hk, rfl, hb, hall⟩ := hrel
              have HA2 := Lib.hid hall
              clear hall
              obtain ⟨y0, y1, y2⟩ := HX1.out.below hb
              by_cases hlt : k2 < n3
              · have hkx : k2 < l1.length := by have := HE3.out; omega
                obtain ⟨b, off, rfl, hbl, hcell⟩ := P2.out.2.resolve_left (by omega)
                have hc1 : wr.cell? ⟨b, off + k2, none⟩ = some (.string (str l1[k2])) := by rw [below_at (nx hb01 hb) hbl]; exact hcell k2 hkx
                have HC : Hid (Calls Tryd.prog 92 #[.string (str l1[k2])] wr fun e w' => e = .returned (.bool (isText (str l1[k2]).data.toList)) ∧ Below wr.heap.size wr w') := textSE _ wr (by rw [str_size]; have := P6.out _ (List.getElem_mem hkx); omega)
                rw [str_list] at HC
                clear hcell
                cases hp : isText l1[k2]
                · have HE : Hid (l1.all isText = false) := all_bad hkx hp
                  rw [hp] at HC
                  generalize str l1[k2] = z at *
                  clear hp
                  go_wp2_with fail
                  refine HC.out.mono ?_
                  rintro e w2 ⟨rfl, hb2⟩
                  go_wp2
                  go_ret
                  exact ⟨ret_bool (by rw [HE.out]; simp), nx hb01 (nx hb hb2)⟩
                · have HQ := Lib.hid hp
                  rw [hp] at HC
                  generalize str l1[k2] = z at *
                  clear hp
                  go_wp2_with fail
                  refine HC.out.mono ?_
                  rintro e w2 ⟨rfl, hb2⟩
                  go_wp2
                  go_roundw
                  case rel => exact ⟨k2 + 1, by omega, by go_num, nx hb hb2, fun j h h' => by
                    by_cases e : j = k2
                    · subst e; exact HQ.out
                    · exact HA2.out j (by omega) h'⟩
                  case measure => simp [intOf]; omega
              · have HL : Hid (l1.all isText = true) := all_good (n := n3) (by have := HE3.out; omega) (fun j h h' => HA2.out j (by omega) h')
                go_wp2
                go_ret
                exact ⟨ret_bool (by rw [HT.out, HL.out]; rfl), nx hb01 hb⟩
      · rw [decide_eq_false k2]
        go_enter Tryd.func75, Tryd.ntmps75
        go_wp2
        go_ret
        exact ⟨ret_bool (by simp), hA⟩
    · rw [decide_eq_false k1]
      go_enter Tryd.func75, Tryd.ntmps75
      go_wp2
      go_ret
      exact ⟨ret_bool (by simp), hA⟩
set_option maxRecDepth 100000 in
set_option maxHeartbeats 2000000 in
theorem mailValidS_any (M : Nat) (x : MlA) (w : World) (h1 : RdM M w x) (hM : M ≤ 1073741000) :
    Calls Tryd.prog 53 #[mlV x] w fun e w' => e = .returned (.bool (isMail x.m)) ∧ Below w.heap.size w w' := by
  have hA0 : ∀ o, Below w.heap.size w (w.alloc o) := fun o => (Below.refl _ _).alloc (Nat.le_refl _) o
  have H0 : Hid (∀ u, Below w.heap.size w u → Calls Tryd.prog 75 #[mlV x] u fun e w' => e = .returned (.bool (isDraft x.m)) ∧ Below u.heap.size u w') := fun u hb => l10Draft_any M x u (h1.below hb) hM
  obtain ⟨⟨f1, t1, l1⟩, a1, c1, b1, d1⟩ := x
  obtain ⟨⟨p1, _, _⟩, ⟨p2, _, _⟩, p0, p3, p5, p4, p6⟩ := h1
  dsimp only at *
  unfold isMail
  unfold mlV at *
  dsimp only at *
  have e1 : decide (0 < t1.length) = decide ((0 : Int) < (t1.length : Int)) := decide_eq_decide.2 (by omega)
  have e2 : decide (l1.length ≤ 30) = decide ((l1.length : Int) ≤ 30) := decide_eq_decide.2 (by omega)
  rw [e1, e2]
  have hz1 : t1.length ≤ 1073741000 := by omega
  have hz2 : l1.length ≤ 1073741000 := by omega
  clear p1 p2 p3 p4 p5 p6 p0 hM e1 e2
  generalize isDraft ⟨f1, t1, l1⟩ = g0 at *
  generalize t1.length = n1 at *
  generalize l1.length = n3 at *
  generalize str f1 = s1 at *
  have HX := Lib.hid (MK3.new w (.string s1) (.slice a1 n1 c1) (.slice b1 n3 d1) 28)
  go_enter Tryd.func53, Tryd.ntmps53
  go_wp2_with fail
  refine (H0.out _ (hA0 _)).mono ?_
  rintro e w1 ⟨rfl, hb1⟩
  have hb01 := nx (hA0 _) hb1
  obtain ⟨y0, y1, y2⟩ := HX.out.below hb1
  cases g0
  · go_wp2
    go_ret
    exact ⟨rfl, hb01⟩
  · by_cases k1 : (0 : Int) < (n1 : Int)
    · have z1 := decide_eq_true k1
      go_wp2
      go_ret
      exact ⟨ret_bool (by rw [z1]; rfl), hb01⟩
    · have z1 := decide_eq_false k1
      go_wp2
      go_ret
      exact ⟨ret_bool (by rw [z1]; rfl), hb01⟩
end Go.Proofs.YtbfjbabpeigloabDoor
end

section
namespace Go.Proofs.YtbfjbabpeigloabDoor
open Go.RowKit

theorem isBx_path {b : Bx} (h : isPath b.path = false) : isBx b = false := by unfold isBx; rw [h]; rfl
theorem isBx_long {b : Bx} (h : 4 < b.mails.length) : isBx b = false := by unfold isBx; rw [decide_eq_false (by omega)]; simp
theorem isBx_mail {x : BxA} {j : Nat} (h : j < x.xs.length) (hp : isMail x.xs[j].m = false) : isBx x.b = false := by
  unfold isBx; rw [show x.b.mails.all isMail = false from ml_bad h hp]; simp
theorem isBx_yes {x : BxA} (h1 : isPath x.path = true) (h2 : x.xs.length ≤ 4) (h3 : ∀ j, (h : j < x.xs.length) → isMail x.xs[j].m = true) : isBx x.b = true := by
  unfold isBx
  rw [show isPath x.b.path = true from h1, show x.b.mails.all isMail = true from ml_good (n := x.xs.length) (Nat.le_refl _) (fun j h h' => h3 j h'), show x.b.mails.length = x.xs.length by unfold BxA.b; simp, decide_eq_true h2]; rfl
set_option maxRecDepth 100000 in
set_option maxHeartbeats 8000000 in
theorem boxesValidS_any (M : Nat) (a : Option Addr) (n c : Nat) (xs : List BxA) (w : World) (hx : xs.length = n) (h1 : RdBs M w a xs) (hM : M ≤ 1073741000) (hn : n ≤ 1073741000) :
    Calls Tryd.prog 24 #[.slice a n c] w fun e w' => e = .returned (.bool (isBxs (xs.map BxA.b))) ∧ Below w.heap.size w w' := by
  have hl : (xs.map BxA.b).length = n := by rw [List.length_map]; exact hx
  have HLONG : Hid (8 < n → isBxs (xs.map BxA.b) = false) := fun h => isBxs_long (by omega)
  have HBAD : Hid (∀ k (h : k < xs.length), isBx (xs[k]'h).b = false → isBxs (xs.map BxA.b) = false) := fun k h hq => isBxs_all (bx_bad h hq)
  have HUP : Hid (∀ k (h : k + 1 < xs.length), ltP (xs[k]'(Nat.lt_of_succ_lt h)).path (xs[k + 1]'h).path = false → isBxs (xs.map BxA.b) = false) := fun k h hq => isBxs_up (bx_upbad h hq)
  have HYES : Hid (n ≤ 8 → (∀ j, j < n → (h' : j < xs.length) → isBx (xs[j]'h').b = true) → (∀ j, j + 1 < n → (h' : j + 1 < xs.length) → ltP (xs[j]'(Nat.lt_of_succ_lt h')).path (xs[j + 1]'h').path = true) → isBxs (xs.map BxA.b) = true) := fun h h2 h3 => isBxs_yes (by omega) (bx_good (by omega) h2) (bx_upgood (by omega) h3)
  have X1 := Lib.hid h1
  have L1 := Lib.hid hx
  obtain ⟨ANS, hans⟩ : ∃ A, A = isBxs (xs.map BxA.b) := ⟨_, rfl⟩
  rw [← hans] at HLONG HBAD HUP HYES ⊢
  clear h1 hl hx hans
  go_enter Tryd.func24, Tryd.ntmps24
  go_wp2_with fail
  go_loopw [3] (fun i wr => ∃ k : Nat, k ≤ n ∧ k ≤ 9 ∧ i = .int .i64 k ∧ Below w.heap.size w wr ∧ (∀ j, j < k → (h' : j < xs.length) → isBx xs[j].b = true) ∧ ∀ j, j + 1 < k → (h' : j + 1 < xs.length) → ltP xs[j].path xs[j + 1].path = true) (fun i _ => n - (intOf i).toNat)
  case atStart => exact ⟨0, Nat.zero_le _, by omega, rfl, Below.refl _ _, fun j h => by omega, fun j h => by omega⟩
  case round =>
    obtain ⟨k, hk, hk9, rfl, hb, hall, hup⟩ := hrel
    have HALL := Lib.hid hall
    have HUPS := Lib.hid hup
    clear hall hup
    by_cases hlt : k < n
    · by_cases hk8 : (k : Int) ≤ 8
      · have k1 : k < xs.length := by rw [L1.out]; exact hlt
        obtain ⟨b1, o1, rfl, hl1, p0, p1, p3⟩ := (X1.out.below hb).at k1
        have hkn : (k : Int) < (n : Int) := by omega
        have hk0 : (0 : Int) ≤ (k : Int) := by omega
        have HC : Hid (∀ y : BelowT wr, Calls Tryd.prog 52 #[.string (str xs[k].path)] y.val fun e w' => e = .returned (.bool (isPath xs[k].path)) ∧ Below y.val.heap.size y.val w') := fun y => by
          have := l10Box_any (str xs[k].path) y.val (by rw [str_size]; have := p3.2.1; omega)
          rw [str_list] at this; exact this
        have HBK := Lib.hid (HBAD.out k k1)
        have hxl : xs[k].xs.length ≤ 1073741000 := by have := p3.2.2.1; omega
        have HXR := Lib.hid p3
        have HCELL : Hid (∀ u, Below wr.heap.size wr u → u.cell? ⟨b1, o1 + k * 2, none⟩ = some (.string (str xs[k].path)) ∧ u.cell? ⟨b1, o1 + k * 2 + 1, none⟩ = some (.slice xs[k].a xs[k].xs.length xs[k].c)) := fun u hu => ⟨(below_at hu hl1).trans p0, (below_at hu hl1).trans p1⟩
        have HPREV : Hid (∀ u, Below wr.heap.size wr u → 0 < k → (h : k - 1 < xs.length) → u.cell? ⟨b1, o1 + (k - 1) * 2, none⟩ = some (.string (str xs[k - 1].path))) := fun u hu _ h => by
          obtain ⟨b2, o2, he2, hl2, q0, _, _⟩ := ((X1.out.below hb).below hu).at h
          injection he2 with he2
          injection he2 with e1 e2
          subst e1 e2
          exact q0
        have zc0 : ∀ y : BelowT wr, y.val.cell? ⟨b1, o1 + k * 2, none⟩ = some (.string (str xs[k].path)) := fun y => (HCELL.out _ y.below).1
        have zc1 : ∀ y : BelowT wr, y.val.cell? ⟨b1, o1 + k * 2 + 1, none⟩ = some (.slice xs[k].a xs[k].xs.length xs[k].c) := fun y => (HCELL.out _ y.below).2
        clear p0 p1 p3
        cases hp : isPath xs[k].path
        · have HN : Hid (ANS = false) := HBK.out (isBx_path hp)
          rw [hp] at HC
          clear hp
          generalize xs[k].xs.length = nn at *
          generalize xs[k].a = aa at *
          generalize xs[k].c = cc at *
          generalize str xs[k].path = s2 at *
          go_wp2_with fail
          refine wp_region_quietB (W := wr) (by kernel_rfl) (by kernel_rfl) (Below.refl _ _) ?_
          repeat (go_big_quiet_step (first
            | (go_at_call 52; exact calls_belowT (HC.out _))))
          refine wpQuiet_nil ?_
          intro wz hwz
          obtain ⟨x9, rfl⟩ := hwz
          have hb2 := x9.below
          clear zc0 zc1
          generalize x9.val = w2 at *
          have hb02 := nx hb hb2
          go_wp2
          go_ret
          exact ⟨ret_bool HN.out.symm, hb02⟩
        · have HP := Lib.hid hp
          rw [hp] at HC
          clear hp
          by_cases hlong : (xs[k].xs.length : Int) > 4
          · have HN : Hid (ANS = false) := HBK.out (isBx_long (by unfold BxA.b; simp; omega))
            generalize xs[k].xs.length = nn at *
            generalize xs[k].a = aa at *
            generalize xs[k].c = cc at *
            generalize str xs[k].path = s2 at *
            go_wp2_with fail
            refine wp_region_quietB (W := wr) (by kernel_rfl) (by kernel_rfl) (Below.refl _ _) ?_
            repeat (go_big_quiet_step (first
              | (go_at_call 52; exact calls_belowT (HC.out _))))
            refine wpQuiet_nil ?_
            intro wz hwz
            obtain ⟨x9, rfl⟩ := hwz
            have hb2 := x9.below
            clear zc0 zc1
            generalize x9.val = w2 at *
            have hb02 := nx hb hb2
            go_wp2
            go_ret
            exact ⟨ret_bool HN.out.symm, hb02⟩
          · have HL4 : Hid (xs[k].xs.length ≤ 4) := by show _ ≤ _; omega
            have HORD : Hid (k = 0 ∨ (0 < k ∧ (∀ h : k - 1 < xs.length, ltP xs[k - 1].path xs[k].path = true)) ∨ (0 < k ∧ (∀ h : k - 1 < xs.length, ltP xs[k - 1].path xs[k].path = false ∧ ANS = false))) := by
              rcases Nat.eq_zero_or_pos k with h0 | h0
              · exact .inl h0
              · have hkk : k - 1 + 1 = k := by omega
                have hk1' : k - 1 < xs.length := by omega
                have hE : ∀ h : k - 1 + 1 < xs.length, ltP xs[k - 1].path xs[k - 1 + 1].path = ltP xs[k - 1].path xs[k].path := fun h => by simp only [hkk]
                cases hq : ltP xs[k - 1].path xs[k].path
                · exact .inr (.inr ⟨h0, fun h => ⟨hq, HUP.out (k - 1) (by omega) (by rw [hE (by omega)]; exact hq)⟩⟩)
                · exact .inr (.inl ⟨h0, fun h => hq⟩)
            have HINNER : Hid (∀ h0 : (k = 0 ∨ ∀ h : k - 1 < xs.length, ltP xs[k - 1].path xs[k].path = true), ∀ j, j + 1 < k + 1 → (h' : j + 1 < xs.length) → ltP xs[j].path xs[j + 1].path = true) := fun h0 j hj h' => by
              by_cases e : j + 1 = k
              · rcases h0 with h0 | h0
                · omega
                · subst e
                  exact h0 (by omega)
              · exact HUPS.out j (by omega) h'
            rcases HORD.out with hk00 | ⟨hkp, hord⟩ | ⟨hkp, hord⟩
            · have HUPN := Lib.hid (HINNER.out (.inl hk00))
              generalize hKe : (k : Int) = K at *
              have HKK := Lib.hid hKe
              have hkz : K ≤ 0 := by omega
              have hkd : decide ((0 : Int) < K) = false := decide_eq_false (by omega)
              have hkt : K.toNat = k := by omega
              clear hk00 hKe
              generalize hX : xs[k] = x at *
              have HX := Lib.hid hX
              clear hX
              generalize hnn : x.xs.length = nn at *
              have HNN := Lib.hid hnn
              clear hnn
              have dl : decide ((nn : Int) > 4) = false := decide_eq_false hlong
              have dl2 : (nn : Int) ≤ 4 := by omega
              generalize str x.path = s2 at *
              go_wp2_with fail
              refine wp_region_quietB (W := wr) (by kernel_rfl) (by kernel_rfl) (Below.refl _ _) ?_
              repeat (go_big_quiet_step (first
                | (go_at_call 52; exact calls_belowT (HC.out _))))
              refine wpQuiet_nil ?_
              intro wz hwz
              obtain ⟨x9, rfl⟩ := hwz
              have hb2 := x9.below
              clear zc0 zc1
              generalize x9.val = w2 at *
              have hb02 := nx hb hb2
              obtain ⟨y0, y1⟩ := HCELL.out _ hb2
              go_wp2_with fail
              go_loopw [4] (fun i wi => ∃ j : Nat, j ≤ nn ∧ i = .int .i64 j ∧ Below w2.heap.size w2 wi ∧ ∀ t, t < j → (h' : t < x.xs.length) → isMail x.xs[t].m = true) (fun i _ => nn - (intOf i).toNat)
              case atStart => exact ⟨0, Nat.zero_le _, rfl, Below.refl _ _, fun j h => by omega⟩
              case round =>
                obtain ⟨j, hj, rfl, hbi, hmls⟩ := hrel
                have HMLS := Lib.hid hmls
                have hb3 := nx hb02 hbi
                obtain ⟨v0, v1⟩ := HCELL.out _ (nx hb2 hbi)
                clear hmls y0 y1
                by_cases hjn : j < nn
                · have j1 : j < x.xs.length := by rw [HNN.out]; exact hjn
                  obtain ⟨b3, o3, ha3, hl3, r0, r1, r2, r3⟩ := ((HXR.out.below (nx hb2 hbi)).1).at j1
                  rw [ha3] at v1
                  have hj0 : (0 : Int) ≤ (j : Int) := by omega
                  have hjn' : (j : Int) < (nn : Int) := by omega
                  have HMV : Hid (Calls Tryd.prog 53 #[.agg #[.string (str x.xs[j].m.frm), .slice x.xs[j].a1 x.xs[j].m.to.length x.xs[j].c1, .slice x.xs[j].a2 x.xs[j].m.lines.length x.xs[j].c2]] wr fun e w' => e = .returned (.bool (isMail x.xs[j].m)) ∧ Below wr.heap.size wr w') := mailValidS_any M x.xs[j] wr r3 hM
                  have HBM := Lib.hid (isBx_mail (x := x) j1)
                  have HQ : Hid (isMail x.xs[j].m = true → ∀ t (h' : t < x.xs.length), t = j → isMail x.xs[t].m = true) := fun hq t h' e => by subst e; exact hq
                  clear r3 ha3
                  obtain ⟨gm, hgm⟩ : ∃ g, g = isMail x.xs[j].m := ⟨_, rfl⟩
                  rw [← hgm] at HMV HBM HQ
                  clear hgm
                  generalize x.xs[j] = z at *
                  cases gm
                  · have HN : Hid (ANS = false) := HBK.out (HBM.out (by first | rfl | trivial))
                    go_wp2_with fail
                    refine HMV.out.mono ?_
                    rintro e w4 ⟨rfl, hb4⟩
                    go_wp2
                    go_ret
                    exact ⟨ret_bool HN.out.symm, nx hb3 hb4⟩
                  · go_wp2_with fail
                    refine HMV.out.mono ?_
                    rintro e w4 ⟨rfl, hb4⟩
                    clear v0 v1 r0 r1 r2
                    go_wp2
                    go_roundw
                    case rel => exact ⟨j + 1, by omega, by go_num, nx hbi hb4, fun t ht h' => by
                      by_cases e : t = j
                      · exact HQ.out (by first | rfl | trivial) t h' e
                      · exact HMLS.out t (by omega) h'⟩
                    case measure => simp [intOf]; omega
                · have HBX : Hid (isBx x.b = true) := isBx_yes HP.out (by have := HL4.out; have := HNN.out; omega) (fun t h => HMLS.out t (by have := HNN.out; omega) h)
                  generalize x.a = aa at *
                  generalize x.c = cc at *
                  go_wp2
                  go_roundw
                  case rel => exact ⟨k + 1, by omega, by omega, by rw [← HKK.out]; go_num, hb3, (fun t ht h' => by
                    by_cases e : t = k
                    · subst e; rw [HX.out]; exact HBX.out
                    · exact HALL.out t (by omega) h'), HUPN.out⟩
                  case measure => simp [intOf]; omega
            · have HUPN := Lib.hid (HINNER.out (.inr hord))
              have hk1' : k - 1 < xs.length := by omega
              have zc2 : ∀ y : BelowT wr, y.val.cell? ⟨b1, o1 + (k - 1) * 2, none⟩ = some (.string (str xs[k - 1].path)) := fun y => HPREV.out _ y.below hkp hk1'
              have z1 : decide ((k : Int) > 0) = true := decide_eq_true (by omega)
              have hkz : (0 : Int) < (k : Int) := by omega
              have hi0 : (0 : Int) ≤ (k : Int) - 1 := by omega
              have hi1 : (k : Int) - 1 < (n : Int) := by omega
              have hi2 : ((k : Int) - 1).toNat = k - 1 := by omega
              have hq' : Op.bytesLess (str xs[k - 1].path).toList (str xs[k].path).toList = true := hord hk1'
              generalize hX : xs[k] = x at *
              have HX := Lib.hid hX
              clear hX hord
              generalize hnn : x.xs.length = nn at *
              have HNN := Lib.hid hnn
              clear hnn
              have dl : decide ((nn : Int) > 4) = false := decide_eq_false hlong
              have dl2 : (nn : Int) ≤ 4 := by omega
              generalize str x.path = s2 at *
              generalize str xs[k - 1].path = s1 at *
              go_wp2_with fail
              refine wp_region_quietB (W := wr) (by kernel_rfl) (by kernel_rfl) (Below.refl _ _) ?_
              repeat (go_big_quiet_step (first
                | (go_at_call 52; exact calls_belowT (HC.out _))))
              refine wpQuiet_nil ?_
              intro wz hwz
              obtain ⟨x9, rfl⟩ := hwz
              have hb2 := x9.below
              clear zc0 zc1 zc2
              generalize x9.val = w2 at *
              have hb02 := nx hb hb2
              obtain ⟨y0, y1⟩ := HCELL.out _ hb2
              go_wp2_with fail
              go_loopw [4] (fun i wi => ∃ j : Nat, j ≤ nn ∧ i = .int .i64 j ∧ Below w2.heap.size w2 wi ∧ ∀ t, t < j → (h' : t < x.xs.length) → isMail x.xs[t].m = true) (fun i _ => nn - (intOf i).toNat)
              case atStart => exact ⟨0, Nat.zero_le _, rfl, Below.refl _ _, fun j h => by omega⟩
              case round =>
                obtain ⟨j, hj, rfl, hbi, hmls⟩ := hrel
                have HMLS := Lib.hid hmls
                have hb3 := nx hb02 hbi
                obtain ⟨v0, v1⟩ := HCELL.out _ (nx hb2 hbi)
                clear hmls y0 y1
                by_cases hjn : j < nn
                · have j1 : j < x.xs.length := by rw [HNN.out]; exact hjn
                  obtain ⟨b3, o3, ha3, hl3, r0, r1, r2, r3⟩ := ((HXR.out.below (nx hb2 hbi)).1).at j1
                  rw [ha3] at v1
                  have hj0 : (0 : Int) ≤ (j : Int) := by omega
                  have hjn' : (j : Int) < (nn : Int) := by omega
                  have HMV : Hid (Calls Tryd.prog 53 #[.agg #[.string (str x.xs[j].m.frm), .slice x.xs[j].a1 x.xs[j].m.to.length x.xs[j].c1, .slice x.xs[j].a2 x.xs[j].m.lines.length x.xs[j].c2]] wr fun e w' => e = .returned (.bool (isMail x.xs[j].m)) ∧ Below wr.heap.size wr w') := mailValidS_any M x.xs[j] wr r3 hM
                  have HBM := Lib.hid (isBx_mail (x := x) j1)
                  have HQ : Hid (isMail x.xs[j].m = true → ∀ t (h' : t < x.xs.length), t = j → isMail x.xs[t].m = true) := fun hq t h' e => by subst e; exact hq
                  clear r3 ha3
                  obtain ⟨gm, hgm⟩ : ∃ g, g = isMail x.xs[j].m := ⟨_, rfl⟩
                  rw [← hgm] at HMV HBM HQ
                  clear hgm
                  generalize x.xs[j] = z at *
                  cases gm
                  · have HN : Hid (ANS = false) := HBK.out (HBM.out (by first | rfl | trivial))
                    go_wp2_with fail
                    refine HMV.out.mono ?_
                    rintro e w4 ⟨rfl, hb4⟩
                    go_wp2
                    go_ret
                    exact ⟨ret_bool HN.out.symm, nx hb3 hb4⟩
                  · go_wp2_with fail
                    refine HMV.out.mono ?_
                    rintro e w4 ⟨rfl, hb4⟩
                    clear v0 v1 r0 r1 r2
                    go_wp2
                    go_roundw
                    case rel => exact ⟨j + 1, by omega, by go_num, nx hbi hb4, fun t ht h' => by
                      by_cases e : t = j
                      · exact HQ.out (by first | rfl | trivial) t h' e
                      · exact HMLS.out t (by omega) h'⟩
                    case measure => simp [intOf]; omega
                · have HBX : Hid (isBx x.b = true) := isBx_yes HP.out (by have := HL4.out; have := HNN.out; omega) (fun t h => HMLS.out t (by have := HNN.out; omega) h)
                  generalize x.a = aa at *
                  generalize x.c = cc at *
                  go_wp2
                  go_roundw
                  case rel => exact ⟨k + 1, by omega, by omega, by go_num, hb3, (fun t ht h' => by
                    by_cases e : t = k
                    · subst e; rw [HX.out]; exact HBX.out
                    · exact HALL.out t (by omega) h'), HUPN.out⟩
                  case measure => simp [intOf]; omega
            · have hk1' : k - 1 < xs.length := by omega
              have zc2 : ∀ y : BelowT wr, y.val.cell? ⟨b1, o1 + (k - 1) * 2, none⟩ = some (.string (str xs[k - 1].path)) := fun y => HPREV.out _ y.below hkp hk1'
              have z1 : decide ((k : Int) > 0) = true := decide_eq_true (by omega)
              have hkz : (0 : Int) < (k : Int) := by omega
              have hi0 : (0 : Int) ≤ (k : Int) - 1 := by omega
              have hi1 : (k : Int) - 1 < (n : Int) := by omega
              have hi2 : ((k : Int) - 1).toNat = k - 1 := by omega
              have HN : Hid (ANS = false) := (hord hk1').2
              have hq' : Op.bytesLess (str xs[k - 1].path).toList (str xs[k].path).toList = false := (hord hk1').1
              clear hord
              generalize xs[k].xs.length = nn at *
              have dl : decide ((nn : Int) > 4) = false := decide_eq_false hlong
              have dl2 : (nn : Int) ≤ 4 := by omega
              generalize xs[k].a = aa at *
              generalize xs[k].c = cc at *
              generalize str xs[k].path = s2 at *
              generalize str xs[k - 1].path = s1 at *
              go_wp2_with fail
              refine wp_region_quietB (W := wr) (by kernel_rfl) (by kernel_rfl) (Below.refl _ _) ?_
              repeat (go_big_quiet_step (first
                | (go_at_call 52; exact calls_belowT (HC.out _))))
              refine wpQuiet_nil ?_
              intro wz hwz
              obtain ⟨x9, rfl⟩ := hwz
              have hb2 := x9.below
              clear zc0 zc1 zc2
              generalize x9.val = w2 at *
              have hb02 := nx hb hb2
              go_wp2
              go_ret
              exact ⟨ret_bool HN.out.symm, hb02⟩
      · have HN : Hid (ANS = false) := HLONG.out (by omega)
        have hkn : (k : Int) < (n : Int) := by omega
        have dn : decide ((n : Int) ≤ 8) = false := decide_eq_false (by omega)
        go_wp2
        go_ret
        exact ⟨ret_bool (by rw [HN.out]), hb⟩
    · by_cases hn8 : n ≤ 8
      · have HN : Hid (ANS = true) := HYES.out hn8 (fun j h h' => HALL.out j (by omega) h') (fun j h h' => HUPS.out j (by omega) h')
        have dn : decide ((n : Int) ≤ 8) = true := decide_eq_true (by omega)
        go_wp2
        go_ret
        exact ⟨ret_bool (by rw [HN.out]), hb⟩
      · have HN : Hid (ANS = false) := HLONG.out (by omega)
        have dn : decide ((n : Int) ≤ 8) = false := decide_eq_false (by omega)
        go_wp2
        go_ret
        exact ⟨ret_bool (by rw [HN.out]), hb⟩
set_option maxRecDepth 100000 in
set_option maxHeartbeats 4000000 in
theorem countHeldS_any (M : Nat) (a : Option Addr) (n c : Nat) (xs : List BxA) (w : World) (hx : xs.length = n) (h1 : RdBs M w a xs) (hM : M ≤ 1073741000) (hn : n ≤ 1073741000) :
    Calls Tryd.prog 28 #[.slice a n c] w fun e w' => e = .returned (.int .i64 (heldB (xs.map BxA.b))) ∧ Below w.heap.size w w' := by
  have HV : Hid (∀ u, Below w.heap.size w u → Calls Tryd.prog 24 #[.slice a n c] u fun e w' => e = .returned (.bool (isBxs (xs.map BxA.b))) ∧ Below u.heap.size u w') := fun u hb => boxesValidS_any M a n c xs u hx (h1.below hb) hM hn
  have X1 := Lib.hid h1
  have L1 := Lib.hid hx
  cases hq : isBxs (xs.map BxA.b)
  · have HN : Hid ((heldB (xs.map BxA.b) : Int) = 0) := by show _ = _; unfold heldB; rw [hq]; rfl
    rw [hq] at HV
    clear h1 hx hq
    go_enter Tryd.func28, Tryd.ntmps28
    go_wp2_with fail
    go_loopw [3, 4] (fun v i wr => i = .int .i64 0 ∧ v = .int .i64 0 ∧ Below w.heap.size w wr) (fun _ i _ => n - (intOf i).toNat)
    case atStart => exact ⟨rfl, rfl, Below.refl _ _⟩
    case round =>
      obtain ⟨rfl, rfl, hb⟩ := hrel
      rcases Nat.eq_zero_or_pos n with rfl | kn
      · go_wp2
        go_ret
        exact ⟨ret_int HN.out.symm, hb⟩
      · have hkn : (0 : Int) < (n : Int) := by omega
        go_wp2_with fail
        refine (HV.out _ hb).mono ?_
        rintro e w1 ⟨rfl, hb1⟩
        go_wp2
        go_ret
        exact ⟨ret_int HN.out.symm, nx hb hb1⟩
  · have HN : Hid (heldB (xs.map BxA.b) = heldL (xs.map BxA.b)) := by show _ = _; unfold heldB; rw [hq]; rfl
    obtain ⟨z8, z4⟩ := bxs_mails hq
    rw [List.length_map] at z8
    have Z4 : Hid (∀ k (h : k < xs.length), xs[k].xs.length ≤ 4) := fun k h => by
      have := z4 xs[k].b (List.mem_map_of_mem (List.getElem_mem h))
      unfold BxA.b at this; simpa using this
    have ZT : Hid (∀ k, heldL ((xs.take k).map BxA.b) ≤ 32) := fun k => by
      have := heldL_le (bs := (xs.take k).map BxA.b) (fun b hb => z4 b (by
        obtain ⟨y, hy, rfl⟩ := List.mem_map.1 hb
        exact List.mem_map_of_mem (List.mem_of_mem_take hy)))
      rw [List.length_map, List.length_take] at this
      show _ ≤ _; omega
    rw [hq] at HV
    clear h1 hx hq z4 z8
    go_enter Tryd.func28, Tryd.ntmps28
    go_wp2_with fail
    go_loopw [3, 4] (fun v i wr => ∃ k : Nat, k ≤ n ∧ i = .int .i64 k ∧ v = .int .i64 (heldL ((xs.take k).map BxA.b)) ∧ Below w.heap.size w wr) (fun _ i _ => n - (intOf i).toNat)
    case atStart => exact ⟨0, Nat.zero_le _, rfl, rfl, Below.refl _ _⟩
    case round =>
      obtain ⟨k, hk, rfl, rfl, hb⟩ := hrel
      by_cases hlt : k < n
      · have k1 : k < xs.length := by rw [L1.out]; exact hlt
        have hkn : (k : Int) < (n : Int) := by omega
        have hk0 : (0 : Int) ≤ (k : Int) := by omega
        have HT := Lib.hid (held_take k1)
        have hz := Z4.out k k1
        have hy := ZT.out k
        generalize heldL ((xs.take k).map BxA.b) = H at *
        go_wp2_with fail
        refine (HV.out _ hb).mono ?_
        rintro e w1 ⟨rfl, hb1⟩
        obtain ⟨b1, o1, rfl, hl1, p0, p1, p3⟩ := ((X1.out.below hb).below hb1).at k1
        clear p3
        generalize xs[k].xs.length = nn at *
        generalize xs[k].a = aa at *
        generalize xs[k].c = cc at *
        generalize str xs[k].path = ss at *
        go_wp2
        go_roundw
        case rel => exact ⟨k + 1, by omega, by go_num, by rw [HT.out]; go_num, nx hb hb1⟩
        case measure => simp [intOf]; omega
      · have HE : Hid (heldL ((xs.take k).map BxA.b) = heldB (xs.map BxA.b)) := by show _ = _; rw [HN.out, List.take_of_length_le (by have := L1.out; omega)]
        rw [HE.out]
        go_wp2
        go_ret
        exact ⟨rfl, hb⟩
end Go.Proofs.YtbfjbabpeigloabDoor
end

section
namespace Go.Proofs.YtbfjbabpeigloabDoor
open Go.RowKit

theorem cntP_before {p : List UInt8} : ∀ {ps : List (List UInt8)} {j : Nat} (_ : j < cntP p ps) (h : j < ps.length), ltP ps[j] p = true
  | [], j, _, h => by simp at h
  | q :: ps, j, hj, h => by
    unfold cntP at hj
    cases hq : ltP q p with
    | false => rw [List.takeWhile_cons_of_neg (p := fun q => ltP q p) (by rw [hq]; decide)] at hj; simp at hj
    | true =>
      rw [List.takeWhile_cons_of_pos (p := fun q => ltP q p) hq, List.length_cons] at hj
      cases j with
      | zero => exact hq
      | succ j =>
        have := cntP_before (p := p) (ps := ps) (j := j) (by unfold cntP; omega) (by simpa using h)
        simpa using this
theorem cntP_at {p : List UInt8} : ∀ {ps : List (List UInt8)} (h : cntP p ps < ps.length), ltP ps[cntP p ps] p = false
  | [], h => by simp at h
  | q :: ps, h => by
    cases hq : ltP q p with
    | false =>
      have e : cntP p (q :: ps) = 0 := by unfold cntP; rw [List.takeWhile_cons_of_neg (p := fun q => ltP q p) (by rw [hq]; decide)]; rfl
      simp only [e, List.getElem_cons_zero]; exact hq
    | true =>
      have e : cntP p (q :: ps) = cntP p ps + 1 := by unfold cntP; rw [List.takeWhile_cons_of_pos (p := fun q => ltP q p) hq, List.length_cons]
      have := cntP_at (p := p) (ps := ps) (by rw [e] at h; simpa using h)
      simp only [e, List.getElem_cons_succ]; exact this
theorem own_rdBx {B M : Nat} {x : BxA} {w : World} (h : OwnMs B (.slice x.a x.xs.length x.c) x.xs w) (hs : SmallBx M x.b) : RdBx M w x := by
  refine ⟨(h.rd (fun y hy => hs.2.2 y.m (List.mem_map_of_mem hy))).1, hs.1, ?_, ?_, ?_⟩
  · have := hs.2.1; unfold BxA.b at this; rw [List.length_map] at this; exact this
  · rcases h.1.2 with ⟨_, h0⟩ | ⟨g, cap, cur, hv, _, _, hnc, _⟩
    · omega
    · injection hv with _ _ e3; omega
  · intro e
    rcases h.1.2 with ⟨h0, _⟩ | ⟨g, cap, cur, hv, _⟩
    · injection h0
    · injection hv with e1 _ _; rw [e] at e1; cases e1
theorem OwnBs.rd {B M : Nat} {a : Option Addr} {n c : Nat} {xs : List BxA} {w : World} (h : OwnBs B (.slice a n c) xs w) (hs : ∀ x ∈ xs, SmallBx M x.b) : RdBs M w a xs ∧ xs.length = n := by
  obtain ⟨a', c', e, h1, _⟩ := h.1.read bxC_len
  injection e with e1 e2 e3
  subst e1
  refine ⟨⟨h1, fun x hx => ?_⟩, e2.symm⟩
  exact own_rdBx (h.2.1 x hx) (hs x hx)
set_option maxRecDepth 100000 in
set_option maxHeartbeats 400000 in
/-- One box behind a row of the call's own, whose boxes may share rows. -/
theorem wpList_append_BR {ops : Array Oper} {rest : List Oper} {o : Oper} {Q : Exit → Act → World → Prop} {a : Act} {w : World} (hg : Region.wanted o (yielded ops a.tmps) = true) (s x : Operand)
    (ho : o.op = .call { callee := .builtin .append, args := #[s, x], argTypes := #[23, 23] })
    (B : Nat) (v : Value) (xs : List BxA) (y : BxA) (b : Nat) (hs : a.eval s = v) (hx : a.eval x = .slice (some ⟨b, 0, none⟩) 1 1) (hown1 : OwnR 35 2 bxC B v xs w) (hc : MK2 w b (.string (str y.path)) (.slice y.a y.xs.length y.c)) (hB : B ≤ w.heap.size) (hl : xs.length ≤ 1000000)
    (h : ∀ v' w', OwnR 35 2 bxC B v' (xs ++ [y]) w' → Only v.ownBlock w w' → (v'.ownBlock = v.ownBlock ∨ v'.ownBlock = some w.heap.size) → wpList Tryd.prog ops Q rest (a.put o.dst v') w') : wpList Tryd.prog ops Q (o :: rest) a w := by
  obtain ⟨i0, hi, hz0, hz1, hz2⟩ := info_parts bxInfoC
  refine wpList_unguardL hg ?_
  unfold OwnR at hown1
  refine wpList_append_own_at w rfl s x 23 ho B 35 i0 (.agg #[.string ⟨#[]⟩, .slice none 0 0]) 2 40 Tryd.underlying23 hi hz0 hz1 hz2 rfl (by decide) v xs.length (xs.flatMap bxC) hs hown1 ⟨b, 0, none⟩ 1 1 (bxC y) hx (bxC_len y) ?_ ?_ ?_ ?_ hB ?_
  · intro j z hj
    rw [addr_add]
    match j, hj with
    | 0, hj => injection hj with hj; subst hj; exact hc.1
    | 1, hj => injection hj with hj; subst hj; exact hc.2
    | j + 2, hj => cases hj
  · exact bxC_one y
  · unfold maxLen; omega
  · omega
  · intro v' w' ho' hgr _ hat
    exact h v' w' (OwnR.snoc ho') (Only.of_grown hgr) hat
/-- A new box. -/
def newA (p : List UInt8) : BxA := ⟨p, [], none, 0⟩
/-- The row that is being made: k boxes of zs, the new one among them at its place. -/
def insA (p : List UInt8) (c0 : Nat) (zs : List BxA) (k : Nat) : List BxA := if k ≤ c0 then zs.take k else zs.take c0 ++ newA p :: (zs.take k).drop c0
theorem insA_len {p : List UInt8} {c0 k : Nat} {zs : List BxA} (hk : k ≤ zs.length) : (insA p c0 zs k).length ≤ k + 1 := by
  unfold insA
  split
  · rw [List.length_take]; omega
  · rw [List.length_append, List.length_cons, List.length_drop, List.length_take, List.length_take]; omega
theorem insA_mem {p : List UInt8} {c0 k : Nat} {zs : List BxA} : ∀ y ∈ insA p c0 zs k, y = newA p ∨ y ∈ zs := fun y hy => by
  unfold insA at hy
  split at hy
  · exact .inr (List.mem_of_mem_take hy)
  · rcases List.mem_append.1 hy with hy | hy
    · exact .inr (List.mem_of_mem_take hy)
    · rcases List.mem_cons.1 hy with hy | hy
      · exact .inl hy
      · exact .inr (List.mem_of_mem_take (List.mem_of_mem_drop hy))
theorem insA_step {p : List UInt8} {c0 k : Nat} {zs : List BxA} (hk : k < zs.length) (hne : k ≠ c0) : insA p c0 zs (k + 1) = insA p c0 zs k ++ [zs[k]] := by
  unfold insA
  by_cases h : k < c0
  · rw [if_pos (by omega), if_pos (by omega), List.take_succ_eq_append_getElem hk]
  · rw [if_neg (by omega), if_neg (by omega), List.take_succ_eq_append_getElem hk, List.drop_append_of_le_length (by rw [List.length_take]; omega), List.append_assoc, List.cons_append]
theorem insA_at {p : List UInt8} {c0 : Nat} {zs : List BxA} (hk : c0 < zs.length) : insA p c0 zs (c0 + 1) = (insA p c0 zs c0 ++ [newA p]) ++ [zs[c0]] := by
  unfold insA
  rw [if_neg (by omega), if_pos (Nat.le_refl _), List.take_succ_eq_append_getElem hk, List.drop_append_of_le_length (by rw [List.length_take]; omega), List.drop_of_length_le (l := zs.take c0) (by rw [List.length_take]; omega), List.nil_append, List.append_assoc]
  rfl
theorem insA_end {p : List UInt8} {c0 k : Nat} {zs : List BxA} (hk : zs.length ≤ k) (hc : c0 < k) : insA p c0 zs k = zs.take c0 ++ newA p :: zs.drop c0 := by
  unfold insA
  rw [if_neg (by omega), List.take_of_length_le hk]
theorem insA_last {p : List UInt8} {c0 k : Nat} {zs : List BxA} (hk : zs.length ≤ k) (hc : c0 = zs.length) (hc2 : k ≤ c0) : insA p c0 zs k ++ [newA p] = zs.take c0 ++ newA p :: zs.drop c0 := by
  unfold insA
  rw [if_pos hc2, List.take_of_length_le hk, List.take_of_length_le (by omega), List.drop_of_length_le (by omega)]
/-- A row of boxes to be copied once more. -/
def AddRaw (bs : List Bx) (ok : Bool) (w : World) (e : Ending) (w' : World) : Prop := ∃ (a : Option Addr) (n c : Nat) (ys : List BxA), e = .returned (.tuple #[.slice a n c, .bool ok]) ∧ ys.map BxA.b = bs ∧ ys.length = n ∧ n ≤ 1000000 ∧ RdBs 1000000 w' a ys ∧ Below w.heap.size w w'
/-- A row that is being made of the boxes of another row, which stays. -/
structure AddSt (L E : Nat) (w3 : World) (v5 : Value) (zs ys : List BxA) (v6 : Value) (wr : World) : Prop where
  row : OwnR 35 2 bxC L v6 ys wr
  at' : ∀ g, v6.ownBlock = some g → g = L ∨ E ≤ g
  src : OwnBs (L + 1) v5 zs wr
  low : Below L w3 wr
  size : E ≤ wr.heap.size
  ord : L ≤ E
  sp : ∀ g, blkB v5 zs g → L + 1 ≤ g ∧ g < E
theorem AddSt.keep {L E : Nat} {w3 wr u : World} {v5 v6 : Value} {zs ys : List BxA} (h : AddSt L E w3 v5 zs ys v6 wr) (hb : Below wr.heap.size wr u) : AddSt L E w3 v5 zs ys v6 u :=
  ⟨h.row.keep hb, h.at', h.src.keep hb, h.low.trans (hb.mono (Nat.le_trans h.ord h.size)), Nat.le_trans h.size hb.size, h.ord, h.sp⟩
theorem AddSt.app {L E : Nat} {w3 wr u : World} {v5 v6 v' : Value} {zs ys : List BxA} {y : BxA} (h : AddSt L E w3 v5 zs ys v6 wr) (hr : OwnR 35 2 bxC L v' (ys ++ [y]) u) (ho : Only v6.ownBlock wr u) (hat : v'.ownBlock = v6.ownBlock ∨ v'.ownBlock = some wr.heap.size) : AddSt L E w3 v5 zs (ys ++ [y]) v' u := by
  have hsz := ho.size
  have h1 := h.size
  have h2 := h.ord
  refine ⟨hr, fun g hg => ?_, h.src.turned (Turn.only (P := fun g => v6.ownBlock = some g) ho (fun _ e => e)) (fun g hg e => ?_), h.low.trans (ho.below (fun g hg => ?_) (by omega)), by omega, h2, h.sp⟩
  · rcases hat with e | e
    · rw [e] at hg; exact h.at' g hg
    · rw [e] at hg; injection hg with hg; omega
  · have := h.sp g hg
    rcases h.at' g e with e1 | e1 <;> omega
  · rcases h.at' g hg with e1 | e1 <;> omega
theorem AddSt.len {L E : Nat} {w3 wr : World} {v5 v6 : Value} {zs ys : List BxA} (h : AddSt L E w3 v5 zs ys v6 wr) {M : Nat} (hs : ∀ y ∈ ys, SmallBx M y.b) (hm : ∀ y ∈ ys, y.xs = [] ∧ y.a = none ∧ y.c = 0 ∨ y ∈ zs) : ∃ a c, v6 = .slice a ys.length c ∧ RdBs M wr a ys := by
  obtain ⟨a, c, e, h1, _⟩ := h.row.read bxC_len
  refine ⟨a, c, e, h1, fun y hy => ?_⟩
  rcases hm y hy with ⟨e1, e2, e3⟩ | hz
  · refine own_rdBx (B := 0) ?_ (hs y hy)
    rw [e1, e2, e3]; exact OwnMs.nil _ _
  · exact own_rdBx (h.src.2.1 y hz) (hs y hy)
theorem fndI_no {o : Option Nat} (h : o ≠ none) : decide ((0:Int) ≤ fndI o) = true := by
  cases o with
  | none => exact absurd rfl h
  | some k => exact decide_eq_true (by show (0:Int) ≤ (k : Int); omega)
theorem rawAddRet_no {p : List UInt8} {bs : List Bx} {w w1 : World} (h : addOk p bs = false) (hb : Below w.heap.size w w1) : AddRaw (addO p bs) (addOk p bs) w (.returned (.tuple #[.slice (some ⟨w1.heap.size, 0, none⟩) 0 0, .bool false])) (w1.alloc (.cells #[] 35)) :=
  ⟨some ⟨w1.heap.size, 0, none⟩, 0, 0, [], by rw [h], by rw [addO_no h]; rfl, rfl, by omega, ⟨⟨rfl, .inl rfl⟩, fun x hx => by cases hx⟩, hb.alloc hb.size _⟩
set_option maxRecDepth 100000 in
set_option maxHeartbeats 4000000 in
theorem rawAddBox_any (M : Nat) (a : Option Addr) (n c : Nat) (xs : List BxA) (p : List UInt8) (w : World) (hx : xs.length = n) (h1 : RdBs M w a xs) (hM : M ≤ 1073741000) (hn : n ≤ 1073741000) (hp : p.length ≤ 1073741000) :
    Calls Tryd.prog 46 #[.slice a n c, .string (str p)] w (AddRaw (addO p (xs.map BxA.b)) (addOk p (xs.map BxA.b)) w) := by
  have HV : Hid (Calls Tryd.prog 24 #[.slice a n c] w fun e w' => e = .returned (.bool (isBxs (xs.map BxA.b))) ∧ Below w.heap.size w w') := boxesValidS_any M a n c xs w hx h1 hM hn
  have HP : Hid (∀ u, Below w.heap.size w u → Calls Tryd.prog 52 #[.string (str p)] u fun e w' => e = .returned (.bool (isPath p)) ∧ Below u.heap.size u w') := fun u hb => by
    have := l10Box_any (str p) u (by rw [str_size]; omega)
    rw [str_list] at this; exact this
  have HF : Hid (∀ u, Below w.heap.size w u → Calls Tryd.prog 62 #[.slice a n c, .string (str p)] u fun e w' => e = .returned (.int .i64 (fndI (fndP p ((xs.map BxA.b).map (·.path))))) ∧ Below u.heap.size u w') := fun u hb => by
    have := l11Find_any M a n c xs p u hx (h1.below hb) hn
    rw [show (xs.map BxA.b).map (·.path) = xs.map (·.path) by rw [List.map_map]; rfl]; exact this
  have HC : Hid (isBxs (xs.map BxA.b) = true → ∀ u, Below w.heap.size w u → Calls Tryd.prog 56 #[.slice a n c] u (BxsRet (xs.map BxA.b) u)) := fun hq u hb => by
    have h8 := (isBxs_upBx hq).2.1
    rw [List.length_map] at h8
    exact l11Copy_any a n c xs u hx ((h1.below hb).up (fun x hx => (isBxs_small hq x.b (List.mem_map_of_mem hx)).up (by omega))) (by omega)
  have HL : Hid ((xs.map BxA.b).length = n) := by show _ = _; rw [List.length_map]; exact hx
  clear h1 hM hx
  obtain ⟨bs, hbs⟩ : ∃ bs, bs = xs.map BxA.b := ⟨_, rfl⟩
  rw [← hbs] at HV HF HC HL ⊢
  clear hbs
  have HNO := Lib.hid (fun (h : addOk p bs = false) (w1 : World) (hb : Below w.heap.size w w1) => rawAddRet_no h hb)
  have N1 := Lib.hid (@addOk_no1 p bs)
  have N2 := Lib.hid (@addOk_no2 p bs)
  have N3 := Lib.hid (@addOk_no3 p bs)
  have N4 := Lib.hid (@addOk_no4 p bs)
  obtain ⟨S, hS⟩ : ∃ S, S = str p := ⟨_, rfl⟩
  have HS := Lib.hid hS
  rw [← hS] at HP HF ⊢
  clear hS
  cases hq : isBxs bs with
  | false =>
    have HN := Lib.hid (HNO.out (N1.out hq))
    rw [hq] at HV
    clear hq HNO N1 N2 N3 N4 HF HC
    generalize addO p bs = AO at *
    generalize addOk p bs = ok at *
    go_enter Tryd.func46, Tryd.ntmps46
    go_wp2_with fail
    refine HV.out.mono ?_
    rintro e w1 ⟨rfl, hb1⟩
    have HE := Lib.hid (HN.out w1 hb1)
    go_wp2
    go_ret2
    exact HE.out
  | true =>
    have HC1 := Lib.hid (HC.out hq)
    rw [hq] at HV
    cases hp' : isPath p with
    | false =>
      have HN := Lib.hid (HNO.out (N2.out hp'))
      rw [hp'] at HP
      clear hq HNO N1 N2 N3 N4 HF HC HC1 hp'
      generalize addO p bs = AO at *
      generalize addOk p bs = ok at *
      go_enter Tryd.func46, Tryd.ntmps46
      go_wp2_with fail
      refine HV.out.mono ?_
      rintro e w1 ⟨rfl, hb1⟩
      go_wp2_with fail
      refine (HP.out _ hb1).mono ?_
      rintro e w2 ⟨rfl, hb2⟩
      have HE := Lib.hid (HN.out w2 (nx hb1 hb2))
      go_wp2
      go_ret2
      exact HE.out
    | true =>
      rw [hp'] at HP
      by_cases hf : fndP p (bs.map (·.path)) = none
      · have hI : fndI (fndP p (bs.map (·.path))) = -1 := by rw [hf]; rfl
        rw [hI] at HF
        by_cases h8 : n = 8
        · have HN := Lib.hid (HNO.out (N3.out (HL.out.trans h8)))
          have e8 : ((n : Int) == 8) = true := by rw [h8]; rfl
          clear hq HNO N1 N2 N3 N4 HC HC1 hp' h8 hf hI
          generalize addO p bs = AO at *
          generalize addOk p bs = ok at *
          go_enter Tryd.func46, Tryd.ntmps46
          go_wp2_with fail
          refine HV.out.mono ?_
          rintro e w1 ⟨rfl, hb1⟩
          go_wp2_with fail
          refine (HP.out _ hb1).mono ?_
          rintro e w2 ⟨rfl, hb2⟩
          have hb02 := nx hb1 hb2
          go_wp2_with fail
          refine (HF.out _ hb02).mono ?_
          rintro e w3 ⟨rfl, hb3⟩
          have HE := Lib.hid (HN.out w3 (nx hb02 hb3))
          go_wp2
          go_ret2
          exact HE.out
        · have e8 : ((n : Int) == 8) = false := by rw [beq_eq_false_iff_ne]; omega
          have hok : addOk p bs = true := addOk_yes hq hp' (by rw [HL.out]; exact h8) hf
          have hn8 : n ≤ 8 := by have := (isBxs_upBx hq).2.1; have := HL.out; omega
          obtain ⟨c0, hc0⟩ : ∃ c0, c0 = cntP p (bs.map (·.path)) := ⟨_, rfl⟩
          have hc0n : c0 ≤ n := by rw [hc0]; have := cntP_le p (bs.map (·.path)); rw [List.length_map, HL.out] at this; exact this
          have HLT : Hid (∀ k (h : k < bs.length), k < c0 → ltP p bs[k].path = false) := fun k h hk => by
            have := cntP_before (p := p) (ps := bs.map (·.path)) (j := k) (by omega) (by simpa using h)
            rw [List.getElem_map] at this
            exact ltP_asym this
          have HAT : Hid (∀ k (h : k < bs.length), k = c0 → ltP p bs[k].path = true) := fun k h hk => by
            subst hk
            have e : cntP p (bs.map (·.path)) < (bs.map (·.path)).length := by rw [← hc0]; simpa using h
            have h2 := cntP_at e
            simp only [← hc0, List.getElem_map] at h2
            exact ltP_tri h2 (fndP_none hf _ (List.mem_map.2 ⟨_, List.getElem_mem h, rfl⟩))
          have HE : Hid (∀ (a6 : Option Addr) (c6 : Nat) (ys zs : List BxA) (w' : World) (m : Nat), zs.map BxA.b = bs → ys = zs.take c0 ++ newA p :: zs.drop c0 → ys.length = m → m ≤ 1000000 → RdBs 1000000 w' a6 ys → Below w.heap.size w w' → AddRaw (addO p bs) (addOk p bs) w (.returned (.tuple #[.slice a6 m c6, .bool true])) w') := fun a6 c6 ys zs w' m k1 k2 k3 k4 k5 k6 => ⟨a6, m, c6, ys, by rw [hok], by
            rw [addO_yes hok, k2, List.map_append, List.map_cons, List.map_take, List.map_drop, k1, hc0]; rfl, k3, k4, k5, k6⟩
          have HSB : Hid (∀ zs : List BxA, zs.map BxA.b = bs → ∀ y, y = newA p ∨ y ∈ zs → SmallBx 1000000 y.b) := fun zs hz y hy => by
            rcases hy with rfl | hy
            · refine ⟨?_, by simp [newA, BxA.b], fun m hm => by simp [newA, BxA.b] at hm⟩
              have := isSend_len (l := p) (by unfold isSend; rw [hp']; simp)
              show p.length ≤ _
              omega
            · exact (isBxs_small hq y.b (hz ▸ List.mem_map_of_mem hy)).up (by omega)
          clear hq HNO N1 N2 N3 N4 HC hp' h8 hf hI hc0 hok
          generalize addO p bs = AO at *
          generalize addOk p bs = ok at *
          go_enter Tryd.func46, Tryd.ntmps46
          go_wp2_with fail
          refine HV.out.mono ?_
          rintro e w1 ⟨rfl, hb1⟩
          go_wp2_with fail
          refine (HP.out _ hb1).mono ?_
          rintro e w2 ⟨rfl, hb2⟩
          have hb02 := nx hb1 hb2
          go_wp2_with fail
          refine (HF.out _ hb02).mono ?_
          rintro e w3 ⟨rfl, hb3⟩
          have hb03 := nx hb02 hb3
          go_wp2_with fail
          have hA4 : Below w3.heap.size w3 (w3.alloc (.cells #[] 35)) := (Below.refl _ _).alloc (Nat.le_refl _) _
          have HO4 := Lib.hid (OwnR.empty 35 2 bxC w3)
          have hz4 : (w3.alloc (.cells #[] 35)).heap.size = w3.heap.size + 1 := by simp
          have hb04 := nx hb03 hA4
          generalize w3.alloc (.cells #[] 35) = w4 at *
          refine (HC1.out _ hb04).mono ?_
          rintro e w5 ⟨v5, zs, rfl, hzs, hO, hb5⟩
          obtain ⟨a5, c5, hv5, _⟩ := hO.1.read bxC_len
          have hzl : zs.length = n := by rw [← HL.out, ← hzs, List.length_map]
          rw [hzl] at hv5
          subst hv5
          have HZL := Lib.hid hzl
          have HZ5 := Lib.hid hO
          have HZG : Hid (∀ g, blkB (.slice a5 n c5) zs g → w3.heap.size + 1 ≤ g ∧ g < w5.heap.size) := fun g hg => by
            have := hO.lt hg
            omega
          have HO5 := Lib.hid (HO4.out.keep hb5)
          have hb05 := nx hb04 hb5
          have hs45 := hb5.size
          have hb35 : Below w3.heap.size w3 w5 := nx hA4 hb5
          have HLT1 : Hid (∀ k (h : k < zs.length), k < c0 → ltP p zs[k].path = false) := fun k h hk => by
            have := HLT.out k (by rw [HL.out]; omega) hk
            simp only [← hzs, List.getElem_map] at this; exact this
          have HAT1 : Hid (∀ k (h : k < zs.length), k = c0 → ltP p zs[k].path = true) := fun k h hk => by
            have := HAT.out k (by rw [HL.out]; omega) hk
            simp only [← hzs, List.getElem_map] at this; exact this
          have HE1 : Hid (∀ (a6 : Option Addr) (c6 : Nat) (ys : List BxA) (w' : World) (m : Nat), ys = zs.take c0 ++ newA p :: zs.drop c0 → ys.length = m → m ≤ 1000000 → RdBs 1000000 w' a6 ys → Below w.heap.size w w' → AddRaw AO ok w (.returned (.tuple #[.slice a6 m c6, .bool true])) w') := fun a6 c6 ys w' m k2 k3 k4 k5 k6 => HE.out a6 c6 ys zs w' m hzs k2 k3 k4 k5 k6
          have HSB1 := Lib.hid (HSB.out zs hzs)
          clear hO hzs hzl HLT HAT HE HSB HC1 HF HP HV HL HO4 hA4 hb5
          go_wp2_with fail
          go_loopw [6, 7, 9] (fun s6 s7 s9 wr => ∃ (k : Nat), k ≤ n ∧ s9 = .int .i64 k ∧ s7 = .bool (decide (c0 < k)) ∧ AddSt w3.heap.size w5.heap.size w3 (.slice a5 n c5) zs (insA p c0 zs k) s6 wr) (fun _ _ s9 _ => n - (intOf s9).toNat)
          case atStart => exact ⟨0, Nat.zero_le _, rfl, by rw [decide_eq_false (Nat.not_lt_zero _)], ⟨by rw [show insA p c0 zs 0 = [] by unfold insA; rw [if_pos (Nat.zero_le _)]; rfl]; exact HO5.out, fun g hg => by injection hg with hg; exact .inl hg.symm, hz4 ▸ HZ5.out, hb35, Nat.le_refl _, by omega, HZG.out⟩⟩
          case round =>
            obtain ⟨k, hkn, rfl, rfl, hst⟩ := hrel
            have HST := Lib.hid hst
            clear hst
            by_cases hlt : k < n
            · have hkz : k < zs.length := by rw [HZL.out]; exact hlt
              have hkn' : (k : Int) < (n : Int) := by omega
              have hk0 : (0 : Int) ≤ (k : Int) := by omega
              obtain ⟨g5, rfl⟩ : ∃ g, a5 = some ⟨g, 0, none⟩ := by
                rcases HST.out.src.1.2 with ⟨_, h0⟩ | ⟨g, cap, cur, hv, _⟩
                · exfalso; have := HZL.out; omega
                · injection hv with e1 _ _; exact ⟨g, e1⟩
              obtain ⟨z, hz⟩ : ∃ z, zs[k] = z := ⟨_, rfl⟩
              have HCELL : Hid (∀ u, AddSt w3.heap.size w5.heap.size w3 (.slice (some ⟨g5, 0, none⟩) n c5) zs (insA p c0 zs k) (.slice none 0 0) u ∨ OwnBs (w3.heap.size + 1) (.slice (some ⟨g5, 0, none⟩) n c5) zs u → u.cell? ⟨g5, k * 2, none⟩ = some (.string (str z.path)) ∧ u.cell? ⟨g5, k * 2 + 1, none⟩ = some (.slice z.a z.xs.length z.c)) := fun u hu => by
                have h : OwnBs (w3.heap.size + 1) (.slice (some ⟨g5, 0, none⟩) n c5) zs u := hu.elim (·.src) id
                exact (h.cellsK hkz hz).1
              obtain ⟨p0, p1⟩ := HCELL.out wr (.inr HST.out.src)
              have hl5 := lt_of_cell p0
              have HC5 : Hid (∀ u, OwnBs (w3.heap.size + 1) (.slice (some ⟨g5, 0, none⟩) n c5) zs u → u.cell? ⟨g5, k * 2, none⟩ = some (.string (str z.path)) ∧ u.cell? ⟨g5, k * 2 + 1, none⟩ = some (.slice z.a z.xs.length z.c)) := fun u hu => HCELL.out u (.inr hu)
              have HI8 : Hid ((insA p c0 zs k).length ≤ 1000000) := by
                have := insA_len (p := p) (c0 := c0) (k := k) (zs := zs) (by omega)
                show _ ≤ _
                omega
              have hLw : w3.heap.size ≤ wr.heap.size := Nat.le_trans HST.out.ord HST.out.size
              clear HCELL
              by_cases hke : k = c0
              · have hd : decide (c0 < k) = false := decide_eq_false (by omega)
                have HD1 : Hid (decide (c0 < k + 1) = true) := decide_eq_true (by omega)
                have hbl : Op.bytesLess S.toList (str z.path).toList = true := by
                  have h := HAT1.out k hkz hke
                  rw [hz] at h
                  rw [HS.out]; exact h
                have HIN : Hid (insA p c0 zs (k + 1) = (insA p c0 zs k ++ [newA p]) ++ [z]) := by
                  show _ = _
                  subst hke
                  rw [insA_at hkz, hz]
                rw [hd]
                have HKN : Hid (∀ u : World, MK2 (u.alloc (.cells #[.string S, .slice none 0 0] 35)) u.heap.size (.string (str (newA p).path)) (.slice (newA p).a (newA p).xs.length (newA p).c)) := fun u => by
                  have := MK2.new u (.string S) (.slice none 0 0) 35
                  rw [HS.out] at this ⊢; exact this
                have hAa : Below wr.heap.size wr (wr.alloc (.cells #[.string S, .slice none 0 0] 35)) := (Below.refl _ _).alloc (Nat.le_refl _) _
                have HSTa := Lib.hid (HST.out.keep hAa)
                have HLa := hLw
                have hLa2 := hAa.size
                have HIL : Hid ((insA p c0 zs k).length ≤ 100) := by
                  have := insA_len (p := p) (c0 := c0) (k := k) (zs := zs) (by omega)
                  show _ ≤ _
                  omega
                clear hz hd hke
                generalize insA p c0 zs k = IK at *
                go_wp2_with (at_builtin; refine wpList_append_BR rfl _ _ rfl w3.heap.size _ IK (newA p) wr.heap.size rfl rfl HSTa.out.row (HKN.out wr) (by omega) HI8.out ?_)
                intro v6 wA hOa hoa hata
                have HSTb := Lib.hid (HSTa.out.app hOa hoa (by simpa using hata))
                have HI9 : Hid ((IK ++ [newA p]).length ≤ 1000000) := by show _ ≤ _; rw [List.length_append]; have := HI8.out; have := HIL.out; show _ + 1 ≤ _; omega
                clear hOa hoa hata p0 p1 HSTa hLa2 hAa
                obtain ⟨IN, hINe⟩ : ∃ IN, IN = IK ++ [newA p] := ⟨_, rfl⟩
                rw [← hINe] at HSTb HI9 HIN
                clear hINe
                obtain ⟨p0, p1⟩ := HC5.out wA HSTb.out.src
                have hAb : Below wA.heap.size wA (wA.alloc (.cells #[.string (str z.path), .slice z.a z.xs.length z.c] 35)) := (Below.refl _ _).alloc (Nat.le_refl _) _
                have HSTc := Lib.hid (HSTb.out.keep hAb)
                have HKZ := Lib.hid (MK2.new wA (.string (str z.path)) (.slice z.a z.xs.length z.c) 35)
                have hLb : w3.heap.size ≤ wA.heap.size := Nat.le_trans HSTb.out.ord HSTb.out.size
                have hLb2 := hAb.size
                go_wp2_with (at_builtin; refine wpList_append_BR rfl _ _ rfl w3.heap.size _ IN z wA.heap.size rfl rfl HSTc.out.row HKZ.out (by omega) HI9.out ?_)
                intro v7 w7 hO7 ho7 hat7
                have HST7 := Lib.hid (HSTc.out.app hO7 ho7 (by simpa using hat7))
                rw [← HIN.out] at HST7
                clear hO7 ho7 hat7 p0 p1
                go_wp2
                go_roundw
                case rel => exact ⟨k + 1, by omega, by go_num, by rw [HD1.out], HST7.out⟩
                case measure => simp [intOf]; omega
              · have HIN : Hid (insA p c0 zs (k + 1) = insA p c0 zs k ++ [z]) := by show _ = _; rw [insA_step hkz hke, hz]
                by_cases hkc : c0 < k
                · have hd : decide (c0 < k) = true := decide_eq_true hkc
                  have HD1 : Hid (decide (c0 < k + 1) = true) := decide_eq_true (by omega)
                  rw [hd]
                  clear hz hd hke hkc p0 p1
                  generalize insA p c0 zs k = IK at *
                  obtain ⟨p0, p1⟩ := HC5.out wr HST.out.src
                  have hAb : Below wr.heap.size wr (wr.alloc (.cells #[.string (str z.path), .slice z.a z.xs.length z.c] 35)) := (Below.refl _ _).alloc (Nat.le_refl _) _
                  have HSTc := Lib.hid (HST.out.keep hAb)
                  have HKZ := Lib.hid (MK2.new wr (.string (str z.path)) (.slice z.a z.xs.length z.c) 35)
                  have hLb : w3.heap.size ≤ wr.heap.size := Nat.le_trans HST.out.ord HST.out.size
                  have hLb2 := hAb.size
                  go_wp2_with (at_builtin; refine wpList_append_BR rfl _ _ rfl w3.heap.size _ IK z wr.heap.size rfl rfl HSTc.out.row HKZ.out (by omega) HI8.out ?_)
                  intro v7 w7 hO7 ho7 hat7
                  have HST7 := Lib.hid (HSTc.out.app hO7 ho7 (by simpa using hat7))
                  rw [← HIN.out] at HST7
                  clear hO7 ho7 hat7 p0 p1
                  go_wp2
                  go_roundw
                  case rel => exact ⟨k + 1, by omega, by go_num, by rw [HD1.out], HST7.out⟩
                  case measure => simp [intOf]; omega
                · have hd : decide (c0 < k) = false := decide_eq_false hkc
                  have HD1 : Hid (decide (c0 < k + 1) = false) := decide_eq_false (by omega)
                  have hbl : Op.bytesLess S.toList (str z.path).toList = false := by
                    have h := HLT1.out k hkz (by omega)
                    rw [hz] at h
                    rw [HS.out]; exact h
                  rw [hd]
                  clear hz hd hke hkc p0 p1
                  generalize insA p c0 zs k = IK at *
                  obtain ⟨p0, p1⟩ := HC5.out wr HST.out.src
                  have hAb : Below wr.heap.size wr (wr.alloc (.cells #[.string (str z.path), .slice z.a z.xs.length z.c] 35)) := (Below.refl _ _).alloc (Nat.le_refl _) _
                  have HSTc := Lib.hid (HST.out.keep hAb)
                  have HKZ := Lib.hid (MK2.new wr (.string (str z.path)) (.slice z.a z.xs.length z.c) 35)
                  have hLb : w3.heap.size ≤ wr.heap.size := Nat.le_trans HST.out.ord HST.out.size
                  have hLb2 := hAb.size
                  go_wp2_with (at_builtin; refine wpList_append_BR rfl _ _ rfl w3.heap.size _ IK z wr.heap.size rfl rfl HSTc.out.row HKZ.out (by omega) HI8.out ?_)
                  intro v7 w7 hO7 ho7 hat7
                  have HST7 := Lib.hid (HSTc.out.app hO7 ho7 (by simpa using hat7))
                  rw [← HIN.out] at HST7
                  clear hO7 ho7 hat7 p0 p1
                  go_wp2
                  go_roundw
                  case rel => exact ⟨k + 1, by omega, by go_num, by rw [HD1.out], HST7.out⟩
                  case measure => simp [intOf]; omega
            · have hkn1 : k = n := by omega
              subst hkn1
              have HSM : Hid (∀ y ∈ insA p c0 zs k, SmallBx 1000000 y.b) := fun y hy => HSB1.out y (insA_mem y hy)
              have HMM : Hid (∀ y ∈ insA p c0 zs k, y.xs = [] ∧ y.a = none ∧ y.c = 0 ∨ y ∈ zs) := fun y hy => (insA_mem y hy).elim (fun e => .inl (by subst e; exact ⟨rfl, rfl, rfl⟩)) .inr
              have hI8 : (insA p c0 zs k).length ≤ 1000000 := by
                have := insA_len (p := p) (c0 := c0) (k := k) (zs := zs) (by have := HZL.out; omega)
                omega
              by_cases hkc : c0 < k
              · have hd : decide (c0 < k) = true := decide_eq_true hkc
                rw [hd]
                obtain ⟨a6, c6, hv6, hrd⟩ := HST.out.len HSM.out HMM.out
                have HF := Lib.hid (HE1.out a6 c6 _ wr _ (insA_end (by have := HZL.out; omega) hkc) rfl hI8 hrd (hb03.trans (HST.out.low.mono hb03.size)))
                rw [← hv6] at HF
                clear hd hrd hv6
                go_wp2
                go_ret2
                exact HF.out
              · have hd : decide (c0 < k) = false := decide_eq_false hkc
                rw [hd]
                have HIN : Hid (insA p c0 zs k ++ [newA p] = zs.take c0 ++ newA p :: zs.drop c0) := insA_last (by have := HZL.out; omega) (by have := HZL.out; omega) (by omega)
                have hI9 : (insA p c0 zs k ++ [newA p]).length ≤ 1000000 := by
                  have := insA_len (p := p) (c0 := c0) (k := k) (zs := zs) (by have := HZL.out; omega)
                  rw [List.length_append]; show _ + 1 ≤ _; omega
                have HKN : Hid (MK2 (wr.alloc (.cells #[.string S, .slice none 0 0] 35)) wr.heap.size (.string (str (newA p).path)) (.slice (newA p).a (newA p).xs.length (newA p).c)) := by
                  have := MK2.new wr (.string S) (.slice none 0 0) 35
                  show MK2 _ _ _ _
                  rw [HS.out] at this ⊢; exact this
                have hAa : Below wr.heap.size wr (wr.alloc (.cells #[.string S, .slice none 0 0] 35)) := (Below.refl _ _).alloc (Nat.le_refl _) _
                have HSTa := Lib.hid (HST.out.keep hAa)
                have hLw : w3.heap.size ≤ wr.heap.size := Nat.le_trans HST.out.ord HST.out.size
                have hLa2 := hAa.size
                have HI8 : Hid ((insA p c0 zs k).length ≤ 1000000) := hI8
                have HI9 : Hid ((insA p c0 zs k ++ [newA p]).length ≤ 1000000) := hI9
                clear hd hI8 hI9
                generalize insA p c0 zs k = IK at *
                go_wp2_with (at_builtin; refine wpList_append_BR rfl _ _ rfl w3.heap.size _ IK (newA p) wr.heap.size rfl rfl HSTa.out.row HKN.out (by omega) HI8.out ?_)
                intro v6 wA hOa hoa hata
                have HSTb := HSTa.out.app hOa hoa (by simpa using hata)
                obtain ⟨a6, c6, hv6, hrd⟩ := HSTb.len (M := 1000000) (fun y hy => (List.mem_append.1 hy).elim (HSM.out y) (fun h => HSB1.out y (.inl (List.mem_singleton.1 h)))) (fun y hy => (List.mem_append.1 hy).elim (HMM.out y) (fun h => .inl (by rw [List.mem_singleton.1 h]; exact ⟨rfl, rfl, rfl⟩)))
                have HF := Lib.hid (HE1.out a6 c6 _ wA _ HIN.out rfl HI9.out hrd (hb03.trans (HSTb.low.mono hb03.size)))
                rw [← hv6] at HF
                clear hOa hoa hata HSTb hrd hv6
                go_wp2
                go_ret2
                exact HF.out
      · have hI := fndI_no hf
        have HN := Lib.hid (HNO.out (N4.out hf))
        clear hq HNO N1 N2 N3 N4 HC HC1 hp' hf
        generalize fndI (fndP p (bs.map (·.path))) = K at *
        generalize addO p bs = AO at *
        generalize addOk p bs = ok at *
        go_enter Tryd.func46, Tryd.ntmps46
        go_wp2_with fail
        refine HV.out.mono ?_
        rintro e w1 ⟨rfl, hb1⟩
        go_wp2_with fail
        refine (HP.out _ hb1).mono ?_
        rintro e w2 ⟨rfl, hb2⟩
        have hb02 := nx hb1 hb2
        go_wp2_with fail
        refine (HF.out _ hb02).mono ?_
        rintro e w3 ⟨rfl, hb3⟩
        have HE := Lib.hid (HN.out w3 (nx hb02 hb3))
        go_wp2
        go_ret2
        exact HE.out
set_option maxRecDepth 100000 in
set_option maxHeartbeats 1000000 in
theorem addBoxS_any (M : Nat) (a : Option Addr) (n c : Nat) (xs : List BxA) (p : List UInt8) (w : World) (hx : xs.length = n) (h1 : RdBs M w a xs) (hM : M ≤ 1073741000) (hn : n ≤ 1073741000) (hp : p.length ≤ 1073741000) :
    Calls Tryd.prog 18 #[.slice a n c, .string (str p)] w (AddRet (addO p (xs.map BxA.b)) (addOk p (xs.map BxA.b)) w) := by
  have HR := Lib.hid (rawAddBox_any M a n c xs p w hx h1 hM hn hp)
  clear h1 hx
  generalize addO p (xs.map BxA.b) = AO at *
  generalize addOk p (xs.map BxA.b) = ok at *
  go_enter Tryd.func18, Tryd.ntmps18
  go_wp2_with fail
  refine HR.out.mono ?_
  rintro e w1 ⟨a1, n1, c1, ys, rfl, hys, hyl, hn1, hrd, hb1⟩
  have HC := Lib.hid (ownListBox_any a1 n1 c1 ys w1 hyl hrd hn1)
  clear hrd
  go_wp2_with fail
  refine HC.out.mono ?_
  rintro e w2 ⟨v2, zs, rfl, hzs, hO, hb2⟩
  have HE : Hid (AddRet AO ok w (.returned (.tuple #[v2, .bool ok])) w2) := ⟨v2, zs, rfl, hzs.trans hys, hO.base hb1.size, nx hb1 hb2⟩
  clear hO hzs
  go_wp2
  go_ret2
  exact HE.out
end Go.Proofs.YtbfjbabpeigloabDoor
end

section
namespace Go.Proofs.YtbfjbabpeigloabDoor
open Go.RowKit

def bx0 : Bx := ⟨[], []⟩
/-- The place of the mailbox out of which a mail can be taken. -/
def takeAt (p : List UInt8) (bs : List Bx) : Option Nat := if isBxs bs then (match fndP p (bs.map (·.path)) with | some k => if (bs.getD k bx0).mails = [] then none else some k | none => none) else none
def takeBs (p : List UInt8) (bs : List Bx) : List Bx := match takeAt p bs with | some k => bs.set k ⟨(bs.getD k bx0).path, (bs.getD k bx0).mails.tail⟩ | none => []
def takeMl (p : List UInt8) (bs : List Bx) : Ml := match takeAt p bs with | some k => (bs.getD k bx0).mails.headD ml0 | none => ml0
theorem takeAt_no1 {p : List UInt8} {bs : List Bx} (h : isBxs bs = false) : takeAt p bs = none := by unfold takeAt; rw [h]; rfl
theorem takeAt_no2 {p : List UInt8} {bs : List Bx} (h : fndP p (bs.map (·.path)) = none) : takeAt p bs = none := by
  unfold takeAt; rw [h]; split <;> rfl
theorem takeAt_no3 {p : List UInt8} {bs : List Bx} {k : Nat} (h : fndP p (bs.map (·.path)) = some k) (hm : (bs.getD k bx0).mails = []) : takeAt p bs = none := by
  unfold takeAt; rw [h]; simp only []; rw [if_pos hm]; split <;> rfl
theorem takeAt_yes {p : List UInt8} {bs : List Bx} {k : Nat} (hv : isBxs bs = true) (h : fndP p (bs.map (·.path)) = some k) (hm : (bs.getD k bx0).mails ≠ []) : takeAt p bs = some k := by
  unfold takeAt; rw [hv, h, if_pos rfl]; simp only []; rw [if_neg hm]
theorem takeBs_no {p : List UInt8} {bs : List Bx} (h : takeAt p bs = none) : takeBs p bs = [] := by unfold takeBs; rw [h]
theorem takeMl_no {p : List UInt8} {bs : List Bx} (h : takeAt p bs = none) : takeMl p bs = ml0 := by unfold takeMl; rw [h]
/-- Boxes and a mail of the call's own are returned, and whether there is one. -/
def TakeRet (bs : List Bx) (m : Ml) (ok : Bool) (w : World) (e : Ending) (w' : World) : Prop := ∃ (v : Value) (ys : List BxA) (x : MlA), e = .returned (.tuple #[v, .agg #[.string (str x.m.frm), .slice x.a1 x.m.to.length x.c1, .slice x.a2 x.m.lines.length x.c2], .bool ok]) ∧ ys.map BxA.b = bs ∧ x.m = m ∧ OwnBs w.heap.size v ys w' ∧ OwnM w.heap.size w' x ∧ (∀ g, blkB v ys g → ¬ blk1 x g) ∧ Below w.heap.size w w'
theorem ownM_nil (B : Nat) (w : World) : OwnM B w ⟨ml0, none, 0, none, 0⟩ := ⟨OwnL.nil B w, OwnL.nil B w, fun g h => by cases h⟩
theorem takeRet_no {p : List UInt8} {bs : List Bx} {w w' : World} (h : takeAt p bs = none) (hb : Below w.heap.size w w') : TakeRet (takeBs p bs) (takeMl p bs) (takeAt p bs).isSome w (.returned (.tuple #[.slice none 0 0, .agg #[.string ⟨#[]⟩, .slice none 0 0, .slice none 0 0], .bool false])) w' := by
  rw [h, takeBs_no h, takeMl_no h]
  exact ⟨_, [], ⟨ml0, none, 0, none, 0⟩, rfl, rfl, rfl, OwnBs.nil _ _, ownM_nil _ _, fun g hg => (by
    rcases hg with hg | ⟨x, hx, _⟩
    · cases hg
    · cases hx), hb⟩
/-- A box's row of mails is another one, of its own. -/
def BxA.row' (y : BxA) (ys : List MlA) (a : Option Addr) (c : Nat) : BxA := ⟨y.path, ys, a, c⟩
theorem OwnMs.off' {B g i : Nat} {w : World} {v : Value} {xs : List MlA} (h : OwnMs B v xs w) (hne : ∀ q, blkM v xs q → q ≠ g) (u : Value) : OwnMs B v xs (w.setCell ⟨g, i, none⟩ u) :=
  h.turned ((Turn.refl (fun q => q = g) w).setCell (show g = g from rfl) u) (fun q hq e => hne q hq e)
/-- In a row of boxes one box gets another row of mails, which shares nothing with the other boxes. -/
theorem OwnBs.setRow {B g c n k : Nat} {xs : List BxA} {w : World} {y : BxA} {ys : List MlA} {a' : Option Addr} {c' : Nat} (h : OwnR 35 2 bxC B (.slice (some ⟨g, 0, none⟩) n c) xs w) (hk : k < xs.length) (hy : xs[k] = y)
    (ho : ∀ j (hj : j < xs.length), j ≠ k → OwnMs B (.slice xs[j].a xs[j].xs.length xs[j].c) xs[j].xs w) (hn : OwnMs B (.slice a' ys.length c') ys w) (hp : xs.Pairwise ApB) (hap : ∀ j (hj : j < xs.length), j ≠ k → ApB (y.row' ys a' c') xs[j]) :
    OwnBs B (.slice (some ⟨g, 0, none⟩) n c) (xs.set k (y.row' ys a' c')) (w.setCell ⟨g, k * 2 + 1, none⟩ (.slice a' ys.length c')) := by
  subst hy
  have hr := h
  unfold OwnR at hr
  have hn' : xs.length = n := by
    rcases hr.2 with ⟨e, h0⟩ | ⟨g1, cap1, cur1, e1, _⟩
    · cases e
    · injection e1 with _ e1 _; exact e1.symm
  subst hn'
  have key : ∀ {us : List MlA} {u : Value}, OwnMs B u us w → OwnMs B u us (w.setCell ⟨g, k * 2 + 1, none⟩ (.slice a' ys.length c')) := fun {us u} hu => hu.off' (fun q hq e => by
    subst e
    rcases hq with hq | ⟨m, hm, hq⟩
    · exact mails_boxes h hu.1 q hq rfl
    · rcases hq with hq | hq
      · exact strs_boxes h (hu.2.1 m hm).1 q hq rfl
      · exact strs_boxes h (hu.2.1 m hm).2.1 q hq rfl) _
  refine ⟨?_, fun z hz => ?_, ?_⟩
  · unfold OwnR
    have h3 := (hr.stored (k * 2 + 1) (.slice a' ys.length c')).1
    obtain ⟨c0, _⟩ := flat_cellsB hk
    have e : (xs.set k (xs[k].row' ys a' c')).flatMap bxC = (xs.flatMap bxC).set (k * 2 + 1) (.slice a' ys.length c') := by
      rw [flat_setB hk]
      show ((xs.flatMap bxC).set (k * 2) (.string (str xs[k].path))).set (k * 2 + 1) (.slice a' ys.length c') = _
      rw [set_self2 c0]
    rw [e, List.length_set]; exact h3
  · obtain ⟨i, hi, rfl⟩ := List.getElem_of_mem hz
    have hi' : i < xs.length := by simpa using hi
    by_cases e : k = i
    · subst e
      rw [List.getElem_set_self]; exact key hn
    · rw [List.getElem_set_ne e]; exact key (ho i hi' (fun e' => e e'.symm))
  · rw [List.pairwise_iff_getElem] at hp ⊢
    intro i j hi hj hij
    have hi' : i < xs.length := by simpa using hi
    have hj' : j < xs.length := by simpa using hj
    by_cases e1 : k = i
    · subst e1
      rw [List.getElem_set_self, List.getElem_set_ne (by omega)]
      exact hap j hj' (by omega)
    · by_cases e2 : k = j
      · subst e2
        rw [List.getElem_set_self, List.getElem_set_ne e1]
        exact (hap i hi' (by omega)).symm
      · rw [List.getElem_set_ne e1, List.getElem_set_ne e2]
        exact hp i j hi' hj' hij
/-- The first mail of a box taken out of its row. -/
theorem OwnBs.took {B g c n k : Nat} {xs : List BxA} {w w' : World} {y : BxA} {x : MlA} {rest : List MlA} (h : OwnBs B (.slice (some ⟨g, 0, none⟩) n c) xs w) (hk : k < xs.length) (hy : xs[k] = y) (hx : y.xs = x :: rest)
    (hr : OwnMs B (.slice y.a rest.length y.c) rest w') (hm : OwnM B w' x) (ho : Only (Value.slice y.a y.xs.length y.c).ownBlock w w') :
    OwnBs B (.slice (some ⟨g, 0, none⟩) n c) (xs.set k (y.row' rest y.a y.c)) (w'.setCell ⟨g, k * 2 + 1, none⟩ (.slice y.a rest.length y.c)) ∧ OwnM B (w'.setCell ⟨g, k * 2 + 1, none⟩ (.slice y.a rest.length y.c)) x ∧ (∀ q, blkB (.slice (some ⟨g, 0, none⟩) n c) (xs.set k (y.row' rest y.a y.c)) q → ¬ blk1 x q) := by
  have hky := List.getElem_mem hk
  rw [hy] at hky
  have hyo := h.2.1 y hky
  have t : Turn (fun q => (Value.slice y.a y.xs.length y.c).ownBlock = some q) w w' := Turn.only ho (fun _ e => e)
  have hap : ∀ j (hj : j < xs.length), j ≠ k → ApB y xs[j] := fun j hj hne => by
    have hp := List.pairwise_iff_getElem.1 h.2.2
    rw [← hy]
    rcases Nat.lt_or_ge k j with h1 | h1
    · exact hp k j hk hj h1
    · exact (hp j k hj hk (by omega)).symm
  have hxy : x ∈ y.xs := by rw [hx]; exact List.mem_cons_self
  have hrx : ∀ z ∈ rest, z ∈ y.xs := fun z hz => by rw [hx]; exact List.mem_cons_of_mem _ hz
  have hrow : OwnR 35 2 bxC B (.slice (some ⟨g, 0, none⟩) n c) xs w' := h.1.turned t (fun q hq e => own_row_mails h hky (g := q) hq (.inl e))
  have hb1 : ∀ q, blk1 x q → q ≠ g := fun q hq e => by
    subst e
    exact own_row_mails h hky (g := q) rfl (.inr ⟨x, hxy, hq⟩)
  refine ⟨OwnBs.setRow hrow hk hy (fun j hj hne => (h.2.1 _ (List.getElem_mem hj)).turned t (fun q hq e => apB_blk (hap j hj hne) hyo (h.2.1 _ (List.getElem_mem hj)) (.inl e) hq)) hr h.2.2 (fun j hj hne => ⟨fun q hq => (hap j hj hne).1 q (by
      have e : (Value.slice y.a y.xs.length y.c).ownBlock = (Value.slice y.a rest.length y.c).ownBlock := by cases y.a <;> rfl
      rw [e]; exact hq), fun m hm m' hm' => (hap j hj hne).2 m (hrx m hm) m' hm'⟩), ?_, fun q hq hx1 => ?_⟩
  · exact hm.turned ((Turn.refl (fun q => q = g) w').setCell (show g = g from rfl) _) (fun q hq e => hb1 q hq e)
  · rcases hq with hq | ⟨z, hz, hq⟩
    · injection hq with hq; exact hb1 q hx1 hq.symm
    · obtain ⟨i, hi, rfl⟩ := List.getElem_of_mem hz
      have hi' : i < xs.length := by simpa using hi
      by_cases e : k = i
      · subst e
        rw [List.getElem_set_self] at hq
        rcases hq with hq | ⟨m, hm', hq⟩
        · have e : (Value.slice y.a y.xs.length y.c).ownBlock = (Value.slice y.a rest.length y.c).ownBlock := by cases y.a <;> rfl
          have hq' : (Value.slice y.a y.xs.length y.c).ownBlock = some q := by rw [e]; exact hq
          rcases hx1 with h1 | h1
          · exact strs_mails hyo.1 (hyo.2.1 x hxy).1 q h1 hq'
          · exact strs_mails hyo.1 (hyo.2.1 x hxy).2.1 q h1 hq'
        · have hp := hyo.2.2
          rw [hx] at hp
          exact (List.pairwise_cons.1 hp).1 m hm' q hx1 hq
      · rw [List.getElem_set_ne e] at hq
        exact apB_blk (hap i hi' (fun e' => e e'.symm)) hyo (h.2.1 _ (List.getElem_mem hi')) (.inr ⟨x, hxy, hx1⟩) hq
theorem rowB_cells {B g n c k : Nat} {L : List BxA} {w : World} {y : BxA} (h : OwnR 35 2 bxC B (.slice (some ⟨g, 0, none⟩) n c) L w) (hk : k < L.length) (hy : L[k] = y) :
    (w.cell? ⟨g, k * 2, none⟩ = some (.string (str y.path)) ∧ w.cell? ⟨g, k * 2 + 1, none⟩ = some (.slice y.a y.xs.length y.c)) ∧ w.frozen? ⟨g, k * 2 + 1, none⟩ = false := by
  subst hy
  have hr := h
  unfold OwnR at hr
  have hn : L.length = n := by
    rcases hr.2 with ⟨e, h0⟩ | ⟨g1, cap1, cur1, e1, _⟩
    · cases e
    · injection e1 with _ e1 _; exact e1.symm
  subst hn
  obtain ⟨c0, c1⟩ := flat_cellsB hk
  have C : ∀ j z, (L.flatMap bxC)[j]? = some z → w.cell? ⟨g, j, none⟩ = some z := fun j z hz => by
    have := hr.cells (g := g) rfl j z hz
    rw [add0] at this; exact this
  exact ⟨⟨C _ _ c0, C _ _ c1⟩, hr.frozenAt _⟩
theorem cell_only {o : Option Nat} {w w' : World} {g i : Nat} {v : Value} (h : w.cell? ⟨g, i, none⟩ = some v) (t : Only o w w') (hne : o ≠ some g) : w'.cell? ⟨g, i, none⟩ = some v := by
  have e := t.block g (lt_of_cell h) (fun e => hne e.symm)
  unfold World.cell? at h ⊢
  rw [e]; exact h
theorem MF3.only {o : Option Nat} {w w' : World} {g : Nat} {v0 v1 v2 : Value} (h : MF3 w g v0 v1 v2) (t : Only o w w') (hne : o ≠ some g) : MF3 w' g v0 v1 v2 := by
  refine ⟨⟨cell_only h.1.1 t hne, cell_only h.1.2.1 t hne, cell_only h.1.2.2 t hne⟩, fun i => ?_⟩
  have e := t.block g (lt_of_cell h.1.1) (fun e => hne e.symm)
  have := h.2 i
  unfold World.frozen? at this ⊢
  rw [e]; exact this
theorem OwnBs.low {B g i : Nat} {v : Value} {xs : List BxA} {w : World} (h : OwnBs B v xs w) (hg : g < B) (u : Value) : OwnBs B v xs (w.setCell ⟨g, i, none⟩ u) :=
  h.turned ((Turn.refl (fun q => q = g) w).setCell (show g = g from rfl) u) (fun q hq e => by have := (h.lt hq).1; omega)
theorem OwnM.low' {B g i : Nat} {x : MlA} {w : World} (h : OwnM B w x) (hg : g < B) (u : Value) : OwnM B (w.setCell ⟨g, i, none⟩ u) x :=
  h.turned ((Turn.refl (fun q => q = g) w).setCell (show g = g from rfl) u) (fun q hq e => by have := (h.lt hq).1; omega)
set_option maxRecDepth 100000 in
set_option maxHeartbeats 4000000 in
theorem takeMail_any (M : Nat) (a : Option Addr) (n c : Nat) (xs : List BxA) (p : List UInt8) (w : World) (en : Env w) (hx : xs.length = n) (h1 : RdBs M w a xs) (hM : M ≤ 1073741000) (hn : n ≤ 1073741000) :
    Calls Tryd.prog 10 #[.slice a n c, .string (str p)] w (TakeRet (takeBs p (xs.map BxA.b)) (takeMl p (xs.map BxA.b)) (takeAt p (xs.map BxA.b)).isSome w) := by
  have hA0 : Below w.heap.size w (w.alloc (.cells #[.string ⟨#[]⟩, .slice none 0 0, .slice none 0 0] 28)) := (Below.refl _ _).alloc (Nat.le_refl _) _
  have HR0 := Lib.hid (MF3.new w (.string ⟨#[]⟩) (.slice none 0 0) (.slice none 0 0) 28)
  have hz0 : (w.alloc (.cells #[.string ⟨#[]⟩, .slice none 0 0, .slice none 0 0] 28)).heap.size = w.heap.size + 1 := by simp
  have HV : Hid (∀ u, Below w.heap.size w u → Calls Tryd.prog 14 #[.slice a n c] u fun e w' => e = .returned (.bool (isBxs (xs.map BxA.b))) ∧ Below u.heap.size u w') := fun u hb => boxesValid_any M a n c xs u (en.below hb) hx (h1.below hb) hM hn
  have HF : Hid (isBxs (xs.map BxA.b) = true → ∀ u, Below w.heap.size w u → Calls Tryd.prog 33 #[.slice a n c, .string (str p)] u fun e w' => e = .returned (.tuple #[.int .i64 (cntP p ((xs.map BxA.b).map (·.path)) : Nat), .bool (decide (fndP p ((xs.map BxA.b).map (·.path)) ≠ none))]) ∧ Below u.heap.size u w') := fun hq u hb => findBox_any M a n c xs p u hx (h1.below hb) hn (isBxs_upBx hq).1
  have HC : Hid (isBxs (xs.map BxA.b) = true → ∀ u, Below w.heap.size w u → Calls Tryd.prog 34 #[.slice a n c] u (BxsRet (xs.map BxA.b) u)) := fun hq u hb => by
    have h8 := (isBxs_upBx hq).2.1
    rw [List.length_map] at h8
    exact copyBoxes_any a n c xs u hx ((h1.below hb).up (fun x hx => (isBxs_small hq x.b (List.mem_map_of_mem hx)).up (by omega))) (by omega)
  have HL : Hid ((xs.map BxA.b).length = n) := by show _ = _; rw [List.length_map]; exact hx
  have HRD : Hid (∀ k (hk : k < (xs.map BxA.b).length) u, Below w.heap.size w u → ∃ b1 o1 a1 c1, a = some ⟨b1, o1, none⟩ ∧ u.cell? ⟨b1, o1 + k * 2 + 1, none⟩ = some (.slice a1 ((xs.map BxA.b).getD k bx0).mails.length c1)) := fun k hk u hu => by
    have hkx : k < xs.length := by simpa using hk
    obtain ⟨b1, o1, ha, _, _, p1, _⟩ := (h1.below hu).at hkx
    refine ⟨b1, o1, xs[k].a, xs[k].c, ha, ?_⟩
    rw [p1]
    have : (xs.map BxA.b).getD k bx0 = xs[k].b := by rw [List.getD_eq_getElem?_getD, List.getElem?_map, List.getElem?_eq_getElem hkx]; rfl
    rw [this]; unfold BxA.b; simp
  clear h1 hM hx en
  obtain ⟨bs, hbs⟩ : ∃ bs, bs = xs.map BxA.b := ⟨_, rfl⟩
  rw [← hbs] at HV HF HC HL HRD ⊢
  clear hbs
  have HNO := Lib.hid (fun (h : takeAt p bs = none) (w' : World) (hb : Below w.heap.size w w') => takeRet_no h hb)
  obtain ⟨S, hS⟩ : ∃ S, S = str p := ⟨_, rfl⟩
  rw [← hS] at HF ⊢
  clear hS
  cases hq : isBxs bs with
  | false =>
    have HN := Lib.hid (HNO.out (takeAt_no1 hq))
    have HV0 := Lib.hid (HV.out _ hA0)
    rw [hq] at HV0
    clear hq HNO HF HC HRD HV
    generalize takeBs p bs = TB at *
    generalize takeMl p bs = TM at *
    generalize (takeAt p bs).isSome = ok at *
    go_enter Tryd.func10, Tryd.ntmps10
    go_wp2_with fail
    refine HV0.out.mono ?_
    rintro e w1 ⟨rfl, hb1⟩
    obtain ⟨⟨q0, q1, q2⟩, qf⟩ := HR0.out.below hb1
    have hb01 := nx hA0 hb1
    go_wp2
    refine bodyPost_ret (v := .tuple #[.slice none 0 0, .agg #[.string ⟨#[]⟩, .slice none 0 0, .slice none 0 0], .bool false]) (by simp [results, Tryd.results10, go_sem, q0, q1, q2]) rfl ?_
    exact HN.out _ (((hb01.setCell (Nat.le_refl _) _).setCell (Nat.le_refl _) _).setCell (Nat.le_refl _) _)
  | true =>
    have HC1 := Lib.hid (HC.out hq)
    have HF1 := Lib.hid (HF.out hq)
    have HV0 := Lib.hid (HV.out _ hA0)
    rw [hq] at HV0
    cases hf : fndP p (bs.map (·.path)) with
    | none =>
      have HN := Lib.hid (HNO.out (takeAt_no2 hf))
      rw [hf] at HF1
      have hd : decide ((none : Option Nat) ≠ none) = false := by simp
      rw [hd] at HF1
      clear hq hf HNO HF HC HC1 HRD HV hd
      generalize takeBs p bs = TB at *
      generalize takeMl p bs = TM at *
      generalize (takeAt p bs).isSome = ok at *
      go_enter Tryd.func10, Tryd.ntmps10
      go_wp2_with fail
      refine HV0.out.mono ?_
      rintro e w1 ⟨rfl, hb1⟩
      have hb01 := nx hA0 hb1
      go_wp2_with fail
      refine (HF1.out _ hb01).mono ?_
      rintro e w2 ⟨rfl, hb2⟩
      obtain ⟨⟨q0, q1, q2⟩, qf⟩ := HR0.out.below (nx hb1 hb2)
      have hb02 := nx hb01 hb2
      go_wp2
      refine bodyPost_ret (v := .tuple #[.slice none 0 0, .agg #[.string ⟨#[]⟩, .slice none 0 0, .slice none 0 0], .bool false]) (by simp [results, Tryd.results10, go_sem, q0, q1, q2]) rfl ?_
      exact HN.out _ (((hb02.setCell (Nat.le_refl _) _).setCell (Nat.le_refl _) _).setCell (Nat.le_refl _) _)
    | some k =>
      have hup := (isBxs_upBx hq).1
      have hck := fnd_cnt hup hf
      rw [hck] at HF1
      have hd : decide (fndP p (bs.map (·.path)) ≠ none) = true := by rw [hf]; simp
      rw [hd] at HF1
      have hkb : k < bs.length := by obtain ⟨h, _⟩ := fndP_some hf; simpa using h
      have hkn : k < n := by have := HL.out; omega
      have HR1 := Lib.hid (HRD.out k hkb)
      have hkn' : (k : Int) < (n : Int) := by omega
      have hk0 : (0 : Int) ≤ (k : Int) := by omega
      by_cases hm : (bs.getD k bx0).mails = []
      · have HN := Lib.hid (HNO.out (takeAt_no3 hf hm))
        rw [hm] at HR1
        clear hq hf HNO HF HC HC1 HRD HV hd hck hup hm
        generalize takeBs p bs = TB at *
        generalize takeMl p bs = TM at *
        generalize (takeAt p bs).isSome = ok at *
        go_enter Tryd.func10, Tryd.ntmps10
        go_wp2_with fail
        refine HV0.out.mono ?_
        rintro e w1 ⟨rfl, hb1⟩
        have hb01 := nx hA0 hb1
        go_wp2_with fail
        refine (HF1.out _ hb01).mono ?_
        rintro e w2 ⟨rfl, hb2⟩
        obtain ⟨⟨q0, q1, q2⟩, qf⟩ := HR0.out.below (nx hb1 hb2)
        have hb02 := nx hb01 hb2
        obtain ⟨b1, o1, a1, c1, rfl, p1⟩ := HR1.out w2 hb02
        replace p1 : w2.cell? ⟨b1, o1 + k * 2 + 1, none⟩ = some (.slice a1 0 c1) := p1
        go_wp2
        refine bodyPost_ret (v := .tuple #[.slice none 0 0, .agg #[.string ⟨#[]⟩, .slice none 0 0, .slice none 0 0], .bool false]) (by simp [results, Tryd.results10, go_sem, q0, q1, q2]) rfl ?_
        exact HN.out _ (((hb02.setCell (Nat.le_refl _) _).setCell (Nat.le_refl _) _).setCell (Nat.le_refl _) _)
      · have hta := takeAt_yes hq hf hm
        have HE : Hid (∀ (v : Value) (ys : List BxA) (x : MlA) (w' : World), ys.map BxA.b = bs.set k ⟨(bs.getD k bx0).path, (bs.getD k bx0).mails.tail⟩ → x.m = (bs.getD k bx0).mails.headD ml0 → OwnBs w.heap.size v ys w' → OwnM w.heap.size w' x → (∀ g, blkB v ys g → ¬ blk1 x g) → Below w.heap.size w w' → TakeRet (takeBs p bs) (takeMl p bs) (takeAt p bs).isSome w (.returned (.tuple #[v, .agg #[.string (str x.m.frm), .slice x.a1 x.m.to.length x.c1, .slice x.a2 x.m.lines.length x.c2], .bool true])) w') := fun v ys x w' k1 k2 k3 k4 k5 k6 => ⟨v, ys, x, by rw [hta]; rfl, by unfold takeBs; rw [hta]; exact k1, by unfold takeMl; rw [hta]; exact k2, k3, k4, k5, k6⟩
        have hml : 0 < (bs.getD k bx0).mails.length := List.length_pos_iff.2 hm
        have hml2 : (bs.getD k bx0).mails.length ≤ 1000000 := by
          have : bs.getD k bx0 ∈ bs := by rw [List.getD_eq_getElem?_getD, List.getElem?_eq_getElem hkb]; exact List.getElem_mem hkb
          have := (isBxs_small hq _ this).2.1
          omega
        clear hq hf HNO HF HC HRD HV hd hck hup hta
        generalize takeBs p bs = TB at *
        generalize takeMl p bs = TM at *
        generalize (takeAt p bs).isSome = ok at *
        have e0 : (((bs.getD k bx0).mails.length : Int) == 0) = false := by rw [beq_eq_false_iff_ne]; omega
        have HML : Hid (0 < (bs.getD k bx0).mails.length) := hml
        have HG : Hid (∀ (ys : List BxA) (h : k < ys.length), ys.map BxA.b = bs → ys[k].b = bs.getD k bx0) := fun ys h e => by
          rw [← e, List.getD_eq_getElem?_getD, List.getElem?_map, List.getElem?_eq_getElem h]; rfl
        have HHE : Hid (∀ x : MlA, ∀ rest : List MlA, (bs.getD k bx0).mails = x.m :: rest.map (·.m) → x.m = (bs.getD k bx0).mails.headD ml0 ∧ (bs.getD k bx0).mails.tail = rest.map (·.m)) := fun x rest h => by rw [h]; exact ⟨rfl, rfl⟩
        generalize hmle : (bs.getD k bx0).mails.length = ml at *
        have HMLE := Lib.hid hmle
        clear hmle
        go_enter Tryd.func10, Tryd.ntmps10
        go_wp2_with fail
        refine HV0.out.mono ?_
        rintro e w1 ⟨rfl, hb1⟩
        have hb01 := nx hA0 hb1
        go_wp2_with fail
        refine (HF1.out _ hb01).mono ?_
        rintro e w2 ⟨rfl, hb2⟩
        have hb02 := nx hb01 hb2
        have hb12 := nx hb1 hb2
        obtain ⟨b1, o1, a1, c1, rfl, p1⟩ := HR1.out w2 hb02
        go_wp2_with fail
        refine (HC1.out _ hb02).mono ?_
        rintro e w4 ⟨v4, ys, rfl, hys, hO, hb4⟩
        obtain ⟨a4, c4, hv4, _⟩ := hO.1.read bxC_len
        have hyl : ys.length = n := by rw [← HL.out, ← hys, List.length_map]
        rw [hyl] at hv4
        subst hv4
        have hky : k < ys.length := by rw [hyl]; exact hkn
        have hyb := HG.out ys hky hys
        obtain ⟨y, hy⟩ : ∃ y, ys[k] = y := ⟨_, rfl⟩
        rw [hy] at hyb
        have hyx : y.xs.length = ml := by rw [← HMLE.out, ← hyb]; unfold BxA.b; simp
        obtain ⟨x, rest, hxr⟩ : ∃ x rest, y.xs = x :: rest := by
          cases hc : y.xs with
          | nil => rw [hc] at hyx; simp at hyx; omega
          | cons x rest => exact ⟨x, rest, rfl⟩
        have hmm : (bs.getD k bx0).mails = x.m :: rest.map (·.m) := by rw [← hyb]; unfold BxA.b; rw [hxr]; rfl
        obtain ⟨hh1, hh2⟩ := HHE.out x rest hmm
        obtain ⟨g4, rfl⟩ : ∃ g, a4 = some ⟨g, 0, none⟩ := by
          rcases hO.1.2 with ⟨_, h0⟩ | ⟨g, cap, cur, hv, _⟩
          · exfalso; omega
          · injection hv with e1 _ _; exact ⟨g, e1⟩
        have hymo : OwnMs w2.heap.size (.slice y.a y.xs.length y.c) y.xs w4 := hO.2.1 y (hy ▸ List.getElem_mem hky)
        obtain ⟨gm, hgm⟩ : ∃ g, y.a = some ⟨g, 0, none⟩ := by
          rcases hymo.1.2 with ⟨_, h0⟩ | ⟨g, cap, cur, hv, _⟩
          · exfalso; rw [hxr] at h0; simp at h0
          · injection hv with e1 _ _; exact ⟨g, e1⟩
        have hgl : gm < w4.heap.size := (hymo.1.lt gm (by rw [hgm]; rfl)).2
        have HY4 : Hid (OwnMs w2.heap.size (.slice (some ⟨gm, 0, none⟩) ml y.c) (x :: rest) w4) := by
          have h := hymo
          show OwnMs _ _ _ _
          rw [hgm, hyx, hxr] at h; exact h
        obtain ⟨⟨r0, r1, r2⟩, _, _⟩ := HY4.out.cellsK (k := 0) (by simp) rfl
        obtain ⟨⟨p0, p2⟩, _, _⟩ := hO.cellsK hky hy
        rw [hgm, hyx] at p2
        have HO4 := Lib.hid hO
        have HYS := Lib.hid hys
        have HH1 := Lib.hid hh1
        have HH2 := Lib.hid hh2
        have HKY := Lib.hid hky
        have HY := Lib.hid hy
        have HXR := Lib.hid hxr
        have HYX := Lib.hid hyx
        have HGM := Lib.hid hgm
        have HYB := Lib.hid hyb
        have hb04 := nx hb02 hb4
        have hs24 := hb4.size
        have hmi : (0 : Int) < (ml : Int) := by omega
        clear hO hys hyb hh1 hh2 hmm hymo hyl hy hxr hyx hgm p1 hm
        go_upto_region 8 with fail
        have hA5 : Below w4.heap.size w4 (w4.alloc (.cells #[.string (str x.m.frm), .slice x.a1 x.m.to.length x.c1, .slice x.a2 x.m.lines.length x.c2] 28)) := (Below.refl _ _).alloc (Nat.le_refl _) _
        have HT5 := Lib.hid (MF3.new w4 (.string (str x.m.frm)) (.slice x.a1 x.m.to.length x.c1) (.slice x.a2 x.m.lines.length x.c2) 28)
        clear r0 r1 r2 p0 p2
        have HO5 := Lib.hid (HO4.out.keep hA5)
        have HY5 := Lib.hid (HY4.out.keep hA5)
        have hb05 := nx hb04 hA5
        have hb15 := nx (nx hb12 hb4) hA5
        have hgs : w4.heap.size < (w4.alloc (.cells #[.string (str x.m.frm), .slice x.a1 x.m.to.length x.c1, .slice x.a2 x.m.lines.length x.c2] 28)).heap.size := by simp
        clear hA5 hb4
        generalize w4.alloc (.cells #[.string (str x.m.frm), .slice x.a1 x.m.to.length x.c1, .slice x.a2 x.m.lines.length x.c2] 28) = W5 at *
        obtain ⟨⟨p0, p2⟩, _⟩ := rowB_cells HO5.out.1 HKY.out HY.out
        rw [HGM.out, HYX.out] at p2
        have HD5 : Hid (Calls Tryd.prog 35 #[.slice (some ⟨gm, 0, none⟩) ml y.c, .int .i64 0, .int .i64 1] W5 fun e w' => e = .returned (.slice (some ⟨gm, 0, none⟩) rest.length y.c) ∧ OwnMs w2.heap.size (.slice (some ⟨gm, 0, none⟩) rest.length y.c) rest w' ∧ OwnM w2.heap.size w' x ∧ Only (some gm) W5 w') := delM_any w2.heap.size (some ⟨gm, 0, none⟩) ml y.c x rest W5 HY5.out
        go_wp2_with fail
        refine HD5.out.mono ?_
        rintro e w6 ⟨rfl, hr6, hm6, ho6⟩
        have hg4gm : some gm ≠ some g4 := fun e => by
          injection e with e
          exact own_row_mails HO5.out (List.getElem_mem HKY.out) (g := gm) (by rw [e]; rfl) (.inl (by rw [HY.out, HGM.out]; rfl))
        have HROW : Hid (OwnR 35 2 bxC w2.heap.size (.slice (some ⟨g4, 0, none⟩) n c4) ys w6) := HO5.out.1.turned (P := fun q => q = gm) (Turn.only ho6 (fun q hq => by injection hq with hq; exact hq.symm)) (fun q hq e => by
          injection hq with hq
          have hq' : g4 = q := hq
          exact hg4gm (by rw [hq', e]))
        have HTK : Hid (OwnBs w2.heap.size (.slice (some ⟨g4, 0, none⟩) n c4) (ys.set k (y.row' rest y.a y.c)) (w6.setCell ⟨g4, k * 2 + 1, none⟩ (.slice (some ⟨gm, 0, none⟩) rest.length y.c)) ∧ OwnM w2.heap.size (w6.setCell ⟨g4, k * 2 + 1, none⟩ (.slice (some ⟨gm, 0, none⟩) rest.length y.c)) x ∧ (∀ q, blkB (.slice (some ⟨g4, 0, none⟩) n c4) (ys.set k (y.row' rest y.a y.c)) q → ¬ blk1 x q)) := by
          have h := OwnBs.took (rest := rest) (x := x) (w' := w6) HO5.out HKY.out HY.out HXR.out (by rw [HGM.out]; exact hr6) hm6 (by rw [HGM.out]; exact ho6)
          rw [HGM.out] at h ⊢
          exact h
        have HT6 := Lib.hid (HT5.out.only ho6 (fun e => by injection e with e; omega))
        have hgB : w2.heap.size ≤ g4 ∧ g4 < w4.heap.size := HO4.out.1.lt g4 rfl
        have hgmB : w2.heap.size ≤ gm := (HY4.out.1.lt gm rfl).1
        have HR6 : Hid (MF3 w6 w.heap.size (.string ⟨#[]⟩) (.slice none 0 0) (.slice none 0 0)) := (HR0.out.below hb15).only ho6 (fun e => by
          injection e with e
          have := hb02.size
          have := hb12.size
          omega)
        have hb06 : Below w.heap.size w w6 := hb05.trans (ho6.below (fun q hq => by injection hq with hq; have := hb02.size; omega) hb05.size)
        have HMAP : Hid ((ys.set k (y.row' rest y.a y.c)).map BxA.b = bs.set k ⟨(bs.getD k bx0).path, (bs.getD k bx0).mails.tail⟩) := by
          show _ = _
          rw [List.map_set, HYS.out, HH2.out, ← HYB.out]; rfl
        clear p0 p2 hr6 hm6 ho6 hg4gm HD5
        obtain ⟨⟨p0, p2⟩, pf⟩ := rowB_cells HROW.out HKY.out HY.out
        rw [HGM.out, HYX.out] at p2
        go_upto_region 9 with fail
        clear p0 p2 pf
        have HT7 := Lib.hid (HT6.out.off (h := g4) (i := k * 2 + 1) (by omega) (.slice (some ⟨gm, 0, none⟩) rest.length y.c))
        have hRw : w.heap.size < w2.heap.size := by have := hb12.size; rw [hz0] at this; omega
        have HR7 := Lib.hid (HR6.out.off (h := g4) (i := k * 2 + 1) (by omega) (.slice (some ⟨gm, 0, none⟩) rest.length y.c))
        have hb07 : Below w.heap.size w (w6.setCell ⟨g4, k * 2 + 1, none⟩ (.slice (some ⟨gm, 0, none⟩) rest.length y.c)) := hb06.setCell (by show w.heap.size ≤ g4; omega) _
        have hTR : w4.heap.size ≠ w.heap.size := by omega
        clear HT6 HR6 hb06 HROW
        generalize w6.setCell ⟨g4, k * 2 + 1, none⟩ (.slice (some ⟨gm, 0, none⟩) rest.length y.c) = w7 at *
        have HFIN : Hid (∀ w', OwnBs w2.heap.size (.slice (some ⟨g4, 0, none⟩) n c4) (ys.set k (y.row' rest y.a y.c)) w' → OwnM w2.heap.size w' x → Below w.heap.size w w' → TakeRet TB TM ok w (.returned (.tuple #[.slice (some ⟨g4, 0, none⟩) n c4, .agg #[.string (str x.m.frm), .slice x.a1 x.m.to.length x.c1, .slice x.a2 x.m.lines.length x.c2], .bool true])) w') := fun w' k1 k2 k3 => HE.out _ _ x w' HMAP.out HH1.out (k1.base (by omega)) (k2.base (by omega)) HTK.out.2.2 k3
        have HX7 := Lib.hid HTK.out.1
        have HM7 := Lib.hid HTK.out.2.1
        clear HTK HE HMAP HH1 HH2 HYB HYS HG HHE HO4 HO5 HY4 HY5 HT5
        generalize str x.m.frm = xs0 at *
        generalize x.m.to.length = xn at *
        generalize x.m.lines.length = xk at *
        obtain ⟨⟨q0, q1, q2⟩, qf⟩ := HR7.out
        obtain ⟨⟨t0, t1, t2⟩, tf⟩ := HT7.out
        generalize w4.heap.size = TT at *
        go_region
        all_goals
          go_wp2
          refine bodyPost_ret (v := .tuple #[.slice (some ⟨g4, 0, none⟩) n c4, .agg #[.string xs0, .slice x.a1 xn x.c1, .slice x.a2 xk x.c2], .bool true]) (by simp [results, Tryd.results10, go_sem, q0, q1, q2]) rfl ?_
          exact HFIN.out _ (((HX7.out.low hRw _).low hRw _).low hRw _) (((HM7.out.low' hRw _).low' hRw _).low' hRw _) ((((hb07.setCell (Nat.le_refl _) _).setCell (Nat.le_refl _) _).setCell (Nat.le_refl _) _).drew)
end Go.Proofs.YtbfjbabpeigloabDoor
end

section
namespace Go.Proofs.YtbfjbabpeigloabDoor
open Go.RowKit

/-- One path of a mail: the boxes behind it, and its number. -/
def dlvStep (m : Ml) (bs : List Bx) (p : List UInt8) : List Bx × Int :=
  match fndP p (bs.map (·.path)) with
  | none => (bs, 550)
  | some k => if (bs.getD k bx0).mails.length = 4 then (bs, 452) else (bs.set k ⟨(bs.getD k bx0).path, (bs.getD k bx0).mails ++ [⟨m.frm, [p], m.lines⟩]⟩, 250)
def dlvF (m : Ml) (acc : List Bx × List Int) (p : List UInt8) : List Bx × List Int := ((dlvStep m acc.1 p).1, acc.2 ++ [(dlvStep m acc.1 p).2])
def dlv (m : Ml) (bs : List Bx) (ps : List (List UInt8)) : List Bx × List Int := ps.foldl (dlvF m) (bs, [])
theorem dlv_step {m : Ml} {bs : List Bx} {ps : List (List UInt8)} {k : Nat} (h : k < ps.length) : dlv m bs (ps.take (k + 1)) = dlvF m (dlv m bs (ps.take k)) ps[k] := by
  unfold dlv
  rw [List.take_succ_eq_append_getElem h, List.foldl_append]; rfl
theorem dlvStep_none {m : Ml} {bs : List Bx} {p : List UInt8} (h : fndP p (bs.map (·.path)) = none) : dlvStep m bs p = (bs, 550) := by unfold dlvStep; rw [h]
theorem dlvStep_full {m : Ml} {bs : List Bx} {p : List UInt8} {k : Nat} (h : fndP p (bs.map (·.path)) = some k) (h4 : (bs.getD k bx0).mails.length = 4) : dlvStep m bs p = (bs, 452) := by unfold dlvStep; rw [h]; simp only []; rw [if_pos h4]
theorem dlvStep_put {m : Ml} {bs : List Bx} {p : List UInt8} {k : Nat} (h : fndP p (bs.map (·.path)) = some k) (h4 : (bs.getD k bx0).mails.length ≠ 4) : dlvStep m bs p = (bs.set k ⟨(bs.getD k bx0).path, (bs.getD k bx0).mails ++ [⟨m.frm, [p], m.lines⟩]⟩, 250) := by unfold dlvStep; rw [h]; simp only []; rw [if_neg h4]
/-- What all boxes have: few mails, all of them small. -/
def BxsOk (M : Nat) (n : Nat) (bs : List Bx) : Prop := bs.length = n ∧ ∀ b ∈ bs, b.mails.length ≤ 4 ∧ SmallBx M b
theorem set_paths {bs : List Bx} {k : Nat} {b : Bx} (hk : k < bs.length) (hb : b.path = (bs.getD k bx0).path) : (bs.set k b).map (·.path) = bs.map (·.path) := by
  rw [List.map_set, hb]
  have e : (bs.getD k bx0).path = (bs.map (·.path))[k]'(by simpa using hk) := by
    rw [List.getElem_map, List.getD_eq_getElem?_getD, List.getElem?_eq_getElem hk]; rfl
  rw [e]; exact List.set_getElem_self _
theorem fnd_lt {p : List UInt8} {bs : List Bx} {k : Nat} (h : fndP p (bs.map (·.path)) = some k) : k < bs.length := by
  obtain ⟨h1, _⟩ := fndP_some h
  simpa using h1
theorem dlvStep_ok {M n : Nat} {m : Ml} {bs : List Bx} {p : List UInt8} (h : BxsOk M n bs) (hM : 4 ≤ M) (hm : SmallM M m) (hp : p.length ≤ M) : BxsOk M n (dlvStep m bs p).1 ∧ (dlvStep m bs p).1.map (·.path) = bs.map (·.path) := by
  unfold dlvStep
  cases hf : fndP p (bs.map (·.path)) with
  | none => exact ⟨h, rfl⟩
  | some k =>
    have hk := fnd_lt hf
    simp only []
    split
    · exact ⟨h, rfl⟩
    · rename_i h4
      have hbm : bs.getD k bx0 ∈ bs := by rw [List.getD_eq_getElem?_getD, List.getElem?_eq_getElem hk]; exact List.getElem_mem hk
      obtain ⟨g1, g2, g3, g4⟩ := h.2 _ hbm
      refine ⟨⟨by show (bs.set _ _).length = n; rw [List.length_set]; exact h.1, fun b hb => ?_⟩, set_paths hk rfl⟩
      rcases List.mem_or_eq_of_mem_set hb with hb | rfl
      · exact h.2 b hb
      · refine ⟨by show (_ ++ [_]).length ≤ 4; rw [List.length_append]; show _ + 1 ≤ 4; omega, g2, by show (_ ++ [_]).length ≤ M; rw [List.length_append]; show _ + 1 ≤ M; omega, fun x hx => ?_⟩
        rcases List.mem_append.1 hx with hx | hx
        · exact g4 x hx
        · rw [List.mem_singleton.1 hx]
          exact ⟨hm.1, by show 1 ≤ M; omega, fun q hq => by rw [List.mem_singleton.1 hq]; exact hp, hm.2.2.2⟩
theorem dlv_ok {M n : Nat} {m : Ml} {bs : List Bx} {ps : List (List UInt8)} (h : BxsOk M n bs) (hM : 4 ≤ M) (hm : SmallM M m) (hp : ∀ p ∈ ps, p.length ≤ M) : ∀ k, k ≤ ps.length → BxsOk M n (dlv m bs (ps.take k)).1 ∧ (dlv m bs (ps.take k)).1.map (·.path) = bs.map (·.path) ∧ (dlv m bs (ps.take k)).2.length = k
  | 0, _ => ⟨h, rfl, rfl⟩
  | k + 1, hk => by
    obtain ⟨h1, h2, h3⟩ := dlv_ok h hM hm hp k (by omega)
    have hk' : k < ps.length := by omega
    rw [dlv_step hk']
    obtain ⟨g1, g2⟩ := dlvStep_ok (p := ps[k]) h1 hM hm (hp _ (List.getElem_mem hk'))
    exact ⟨g1, g2.trans h2, by show (_ ++ [_]).length = k + 1; rw [List.length_append, h3]; rfl⟩
/-- What all of it gives. -/
def dlvOk (m : Ml) (bs : List Bx) : Bool := isBxs bs && isMail m
def dlvB (m : Ml) (bs : List Bx) : List Bx := if dlvOk m bs then (dlv m bs m.to).1 else []
def dlvC (m : Ml) (bs : List Bx) : List Int := if dlvOk m bs then (dlv m bs m.to).2 else []
theorem isBxs_ok {bs : List Bx} (h : isBxs bs = true) : BxsOk 200 bs.length bs := ⟨rfl, fun b hb => ⟨by
  have := List.all_eq_true.1 (isBxs_upBx h).2.2 b hb
  unfold isBx at this
  simp only [Bool.and_eq_true, decide_eq_true_eq] at this
  exact this.2.1, isBxs_small h b hb⟩⟩
set_option maxRecDepth 100000 in
set_option maxHeartbeats 400000 in
/-- One mail behind a row of the call's own, in any order; what turns is told. -/
theorem wp_append_Mg {o : Oper} {Q : Exit → Act → World → Prop} {K : Act → World → Prop} {a : Act} {w : World} (s x : Operand)
    (ho : o.op = .call { callee := .builtin .append, args := #[s, x], argTypes := #[33, 33] })
    (B : Nat) (v : Value) (xs : List MlA) (y : MlA) (b : Nat) (hs : a.eval s = v) (hx : a.eval x = .slice (some ⟨b, 0, none⟩) 1 1) (hown : OwnMs B v xs w) (hy : OwnM B w y) (hc : MK3 w b (.string (str y.m.frm)) (.slice y.a1 y.m.to.length y.c1) (.slice y.a2 y.m.lines.length y.c2)) (hB : B ≤ w.heap.size) (hl : xs.length ≤ 1000000) (hap : ∀ x ∈ xs, ApM x y)
    (h : ∀ v' w', OwnMs B v' (xs ++ [y]) w' → Only v.ownBlock w w' → (v'.ownBlock = v.ownBlock ∨ v'.ownBlock = some w.heap.size) → K (a.put o.dst v') w') : o.wp Tryd.prog a w K Q := by
  obtain ⟨i0, hi, hz0, hz1, hz2⟩ := info_parts mlInfoC
  have hown1 := hown.1
  unfold OwnR at hown1
  obtain ⟨v', w', hr, h2, hgr, _, hat⟩ := run_append_own_at (P := Tryd.prog) w B 33 o.type 28 i0 (.agg #[.string ⟨#[]⟩, .slice none 0 0, .slice none 0 0]) 3 64 Tryd.underlying33 hi hz0 hz1 hz2 rfl (by decide) v xs.length (xs.flatMap mlC) hown1 ⟨b, 0, none⟩ 1 1 (mlC y) (mlC_len y)
    (fun j u hu => by
      rw [addr_add]
      match j, hu with
      | 0, hu => injection hu with hu; subst hu; exact hc.1
      | 1, hu => injection hu with hu; subst hu; exact hc.2.1
      | 2, hu => injection hu with hu; subst hu; exact hc.2.2
      | j + 3, hu => cases hu)
    (mlC_one y) (by unfold maxLen; omega) (by omega) hB
  have key : ∀ z : MlA, OwnM B w z → OwnM B w' z := fun z hz => hz.grown hgr (fun g hq => strs_mails hown.1 hz.1 g hq) (fun g hq => strs_mails hown.1 hz.2.1 g hq)
  unfold Oper.wp execOp
  simp only [ho, resolve, invoke, builtin, Sem.run_bind, Sem.run_pure, Result.andThen_ok, List.map_toArray, List.map_cons, List.map_nil, hs, hx, hr]
  refine h v' w' ⟨OwnR.snoc h2, fun z hz => ?_, List.pairwise_append.2 ⟨hown.2.2, List.pairwise_singleton _ _, fun z hz u hu => by rw [List.mem_singleton.1 hu]; exact hap z hz⟩⟩ (Only.of_grown hgr) hat
  rcases List.mem_append.1 hz with hz | hz
  · exact key z (hown.2.1 z hz)
  · rw [List.mem_singleton.1 hz]; exact key y hy
/-- A mail of new rows put behind the mails of one box. -/
theorem OwnBs.added {B C g c n k : Nat} {xs : List BxA} {w w' : World} {y : BxA} {x : MlA} {a' : Option Addr} {c' : Nat} (h : OwnBs B (.slice (some ⟨g, 0, none⟩) n c) xs w) (hk : k < xs.length) (hy : xs[k] = y)
    (hx : ∀ q, blk1 x q → C ≤ q) (hC : ∀ q, blkB (.slice (some ⟨g, 0, none⟩) n c) xs q → q < C)
    (hr : OwnMs B (.slice a' (y.xs ++ [x]).length c') (y.xs ++ [x]) w') (ho : Only (Value.slice y.a y.xs.length y.c).ownBlock w w') (hat : (Value.slice a' (y.xs ++ [x]).length c').ownBlock = (Value.slice y.a y.xs.length y.c).ownBlock ∨ (Value.slice a' (y.xs ++ [x]).length c').ownBlock = some w.heap.size) :
    OwnBs B (.slice (some ⟨g, 0, none⟩) n c) (xs.set k (y.row' (y.xs ++ [x]) a' c')) (w'.setCell ⟨g, k * 2 + 1, none⟩ (.slice a' (y.xs ++ [x]).length c')) := by
  have hky := List.getElem_mem hk
  rw [hy] at hky
  have hyo := h.2.1 y hky
  have t : Turn (fun q => (Value.slice y.a y.xs.length y.c).ownBlock = some q) w w' := Turn.only ho (fun _ e => e)
  have hap : ∀ j (hj : j < xs.length), j ≠ k → ApB y xs[j] := fun j hj hne => by
    have hp := List.pairwise_iff_getElem.1 h.2.2
    rw [← hy]
    rcases Nat.lt_or_ge k j with h1 | h1
    · exact hp k j hk hj h1
    · exact (hp j k hj hk (by omega)).symm
  refine OwnBs.setRow (h.1.turned t (fun q hq e => own_row_mails h hky (g := q) hq (.inl e))) hk hy (fun j hj hne => (h.2.1 _ (List.getElem_mem hj)).turned t (fun q hq e => apB_blk (hap j hj hne) hyo (h.2.1 _ (List.getElem_mem hj)) (.inl e) hq)) hr h.2.2 (fun j hj hne => ⟨fun q hq hq' => ?_, fun m hm m' hm' q hq hq' => ?_⟩)
  · rcases hat with e | e
    · rw [show (y.row' (y.xs ++ [x]) a' c').a = a' from rfl, show (y.row' (y.xs ++ [x]) a' c').xs = y.xs ++ [x] from rfl, show (y.row' (y.xs ++ [x]) a' c').c = c' from rfl, e] at hq
      exact (hap j hj hne).1 q hq hq'
    · rw [show (y.row' (y.xs ++ [x]) a' c').a = a' from rfl, show (y.row' (y.xs ++ [x]) a' c').xs = y.xs ++ [x] from rfl, show (y.row' (y.xs ++ [x]) a' c').c = c' from rfl, e] at hq
      injection hq with hq
      have := ((h.2.1 _ (List.getElem_mem hj)).1.lt q hq').2
      omega
  · rcases List.mem_append.1 (show m ∈ y.xs ++ [x] from hm) with hm | hm
    · exact (hap j hj hne).2 m hm m' hm' q hq hq'
    · rw [List.mem_singleton.1 hm] at hq
      have h1 := hx q hq
      have h2 := hC q (.inr ⟨_, List.getElem_mem hj, .inr ⟨m', hm', hq'⟩⟩)
      omega
def inC (k : Int) : List Value := [.int .i64 k]
theorem inC_len (k : Int) : (inC k).length = 1 := rfl
theorem inInfo : (Tryd.prog.info? 3).map (fun i => (i.zero, i.size, i.bytes)) = some (some (.int .i64 0), 1, 8) := by kernel_rfl
set_option maxRecDepth 100000 in
set_option maxHeartbeats 400000 in
/-- One number behind a row of the call's own. -/
theorem wpList_append_I {ops : Array Oper} {rest : List Oper} {o : Oper} {Q : Exit → Act → World → Prop} {a : Act} {w : World} (hg : Region.wanted o (yielded ops a.tmps) = true) (s x : Operand)
    (ho : o.op = .call { callee := .builtin .append, args := #[s, x], argTypes := #[43, 43] })
    (B : Nat) (v : Value) (xs ys : List Int) (ad : Addr) (m c : Nat) (hs : a.eval s = v) (hx : a.eval x = .slice (some ad) m c) (hown1 : OwnR 3 1 inC B v xs w) (hm : ys.length = m) (hc : ∀ j u, (ys.flatMap inC)[j]? = some u → w.cell? (ad.add j) = some u) (hB : B ≤ w.heap.size) (hl : xs.length + m ≤ 1000000)
    (h : ∀ v' w', OwnR 3 1 inC B v' (xs ++ ys) w' → Only v.ownBlock w w' → (v'.ownBlock = v.ownBlock ∨ v'.ownBlock = some w.heap.size) → wpList Tryd.prog ops Q rest (a.put o.dst v') w') : wpList Tryd.prog ops Q (o :: rest) a w := by
  obtain ⟨i0, hi, hz0, hz1, hz2⟩ := info_parts inInfo
  refine wpList_unguardL hg ?_
  unfold OwnR at hown1
  refine wpList_append_own_at w rfl s x 43 ho B 3 i0 (.int .i64 0) 1 8 Tryd.underlying43 hi hz0 hz1 hz2 rfl (by decide) v xs.length (xs.flatMap inC) hs hown1 ad m c (ys.flatMap inC) hx (by rw [flat_len inC 1 inC_len, hm]) hc ?_ ?_ ?_ hB ?_
  · intro z hz
    obtain ⟨y, _, hy⟩ := List.mem_flatMap.1 hz
    rw [List.mem_singleton.1 hy]; rfl
  · unfold maxLen; omega
  · omega
  · intro v' w' ho' hgr _ hat
    refine h v' w' ?_ (Only.of_grown hgr) hat
    unfold OwnR
    rw [List.length_append, hm, List.flatMap_append]; exact ho'
end Go.Proofs.YtbfjbabpeigloabDoor
end

section
namespace Go.Proofs.YtbfjbabpeigloabDoor
open Go.RowKit

theorem MK3.lowD {B g : Nat} {w w' : World} {v0 v1 v2 : Value} (h : MK3 w g v0 v1 v2) (t : Below B w w') (hg : g < B) : MK3 w' g v0 v1 v2 :=
  ⟨(below_at t hg).trans h.1, (below_at t hg).trans h.2.1, (below_at t hg).trans h.2.2⟩
/-- Rows of different types lie in different blocks. -/
theorem rows_apart {T T' : TypeId} {k k' B B' n n' : Nat} {v v' : Value} {L L' : List Value} {w : World} (h : w.ownsRow B T k v n L) (h' : w.ownsRow B' T' k' v' n' L') (hT : T ≠ T') : ∀ g, v.ownBlock = some g → v'.ownBlock ≠ some g := fun g hu hv => by
  rcases h.2 with ⟨e, _⟩ | ⟨g1, cap1, cur1, e1, _, hg1, _⟩
  · rw [e] at hu; cases hu
  · rcases h'.2 with ⟨e, _⟩ | ⟨g2, cap2, cur2, e2, _, hg2, _⟩
    · rw [e] at hv; cases hv
    · subst e1 e2
      have a1 : some g1 = some g := hu
      have a2 : some g2 = some g := hv
      injection a1 with a1
      injection a2 with a2
      subst a1 a2
      rw [hg1] at hg2
      injection hg2 with hg2
      injection hg2 with _ ht
      exact hT ht
theorem ints_boxes {B C : Nat} {v v7 : Value} {ys : List BxA} {cs : List Int} {w : World} (h : OwnBs B v ys w) (h' : OwnR 3 1 inC C v7 cs w) : ∀ g, blkB v ys g → v7.ownBlock ≠ some g := fun g hg hv => by
  rcases hg with hg | ⟨x, hx, hg⟩
  · exact rows_apart h.1 h' (by decide) g hg hv
  · rcases hg with hg | ⟨m, hm, hg⟩
    · exact rows_apart (h.2.1 x hx).1 h' (by decide) g hg hv
    · rcases hg with hg | hg
      · exact rows_apart ((h.2.1 x hx).2.1 m hm).1 h' (by decide) g hg hv
      · exact rows_apart ((h.2.1 x hx).2.1 m hm).2.1 h' (by decide) g hg hv
/-- Boxes and numbers while a mail is put into boxes. -/
structure DSt (B L : Nat) (v : Value) (w1 : World) (ys : List BxA) (v7 : Value) (cs : List Int) (wr : World) : Prop where
  boxes : OwnBs B v ys wr
  codes : OwnR 3 1 inC L v7 cs wr
  low : Below L w1 wr
  ord : L ≤ B
  size : B ≤ wr.heap.size
theorem DSt.keep {B L : Nat} {v v7 : Value} {w1 wr u : World} {ys : List BxA} {cs : List Int} (h : DSt B L v w1 ys v7 cs wr) (hb : Below wr.heap.size wr u) : DSt B L v w1 ys v7 cs u :=
  ⟨h.boxes.keep hb, h.codes.keep hb, h.low.trans (hb.mono (Nat.le_trans h.ord h.size)), h.ord, Nat.le_trans h.size hb.size⟩
theorem DSt.code {B L : Nat} {v v7 v8 : Value} {w1 wr u : World} {ys : List BxA} {cs cs' : List Int} (h : DSt B L v w1 ys v7 cs wr) (hr : OwnR 3 1 inC L v8 cs' u) (ho : Only v7.ownBlock wr u) : DSt B L v w1 ys v8 cs' u :=
  ⟨h.boxes.turned (Turn.only (P := fun g => v7.ownBlock = some g) ho (fun _ e => e)) (fun g hg e => ints_boxes h.boxes h.codes g hg e), hr, h.low.trans (ho.below (fun g hg => (h.codes.lt g hg).1) (Nat.le_trans h.ord h.size)), h.ord, Nat.le_trans h.size ho.size⟩
theorem DSt.put {B L g n c k : Nat} {v7 : Value} {w1 wr u : World} {ys zs : List BxA} {cs : List Int} {y : BxA} {z : Value} (h : DSt B L (.slice (some ⟨g, 0, none⟩) n c) w1 ys v7 cs wr) (hy : y ∈ ys) (ho : Only (Value.slice y.a y.xs.length y.c).ownBlock wr u) (hz : OwnBs B (.slice (some ⟨g, 0, none⟩) n c) zs (u.setCell ⟨g, k, none⟩ z)) : DSt B L (.slice (some ⟨g, 0, none⟩) n c) w1 zs v7 cs (u.setCell ⟨g, k, none⟩ z) := by
  have hyo := h.boxes.2.1 y hy
  have t1 : Turn (fun q => (Value.slice y.a y.xs.length y.c).ownBlock = some q ∨ q = g) wr (u.setCell ⟨g, k, none⟩ z) := (Turn.only ho (fun q e => .inl e)).setCell (.inr rfl) z
  have hgB := (h.boxes.1.lt g rfl).1
  refine ⟨hz, h.codes.turned t1 (fun q hq e => ?_), h.low.trans (t1.below (fun q hq => ?_) (Nat.le_trans h.ord h.size)), h.ord, by have := h.size; have := t1.size; omega⟩
  · rcases e with e | e
    · exact ints_boxes h.boxes h.codes q (.inr ⟨y, hy, .inl e⟩) hq
    · subst e
      exact ints_boxes h.boxes h.codes q (.inl rfl) hq
  · have := h.ord
    rcases hq with hq | hq
    · have := (hyo.1.lt q hq).1; omega
    · omega
theorem ownL_new1 (w : World) (p : List UInt8) (g B : Nat) (hg : w.heap.size = g) (hB : B ≤ g) : OwnL B (.slice (some ⟨g, 0, none⟩) 1 1) [p] (w.alloc (.cells #[.string (str p)] 9)) := by
  subst hg
  exact ⟨rfl, .inr ⟨w.heap.size, 1, #[.string (str p)], rfl, hB, by show (w.heap.push _)[w.heap.size]? = _; simp, Nat.le_refl _, by unfold maxLen; omega, rfl, rfl⟩⟩
theorem fz_only {o : Option Nat} {w w' : World} {g i : Nat} (h : w.frozen? ⟨g, i, none⟩ = false) (t : Only o w w') (hl : g < w.heap.size) (hne : o ≠ some g) : w'.frozen? ⟨g, i, none⟩ = false := by
  have e := t.block g hl (fun e => hne e.symm)
  unfold World.frozen? at h ⊢
  rw [e]; exact h
/-- Boxes, numbers, and whether there are any. -/
def DlvRaw (bs : List Bx) (cs : List Int) (ok : Bool) (w : World) (e : Ending) (w' : World) : Prop := ∃ (a : Option Addr) (n c : Nat) (ys : List BxA) (v7 : Value), e = .returned (.tuple #[.slice a n c, v7, .bool ok]) ∧ ys.map BxA.b = bs ∧ ys.length = n ∧ n ≤ 1000000 ∧ RdBs 1000000 w' a ys ∧ OwnR 3 1 inC w.heap.size v7 cs w' ∧ (∃ g m k, v7 = .slice (some ⟨g, 0, none⟩) m k) ∧ Below w.heap.size w w'
theorem dlvRaw_no {m : Ml} {bs : List Bx} {w w1 : World} {v7 : Value} (h : dlvOk m bs = false) (hb : Below w.heap.size w w1) (hc : OwnR 3 1 inC w.heap.size v7 [] w1) (hv : ∃ g m k, v7 = .slice (some ⟨g, 0, none⟩) m k) : DlvRaw (dlvB m bs) (dlvC m bs) (dlvOk m bs) w (.returned (.tuple #[.slice (some ⟨w1.heap.size, 0, none⟩) 0 0, v7, .bool false])) (w1.alloc (.cells #[] 35)) := by
  have hA : Below w1.heap.size w1 (w1.alloc (.cells #[] 35)) := (Below.refl _ _).alloc (Nat.le_refl _) _
  refine ⟨some ⟨w1.heap.size, 0, none⟩, 0, 0, [], v7, by rw [h], by unfold dlvB; rw [h]; rfl, rfl, by omega, ⟨⟨rfl, .inl rfl⟩, fun x hx => by cases hx⟩, ?_, hv, nx hb hA⟩
  have : dlvC m bs = [] := by unfold dlvC; rw [h]; rfl
  rw [this]; exact hc.keep hA
set_option maxRecDepth 100000 in
set_option maxHeartbeats 8000000 in
theorem rawDeliver_any (M : Nat) (a : Option Addr) (n c : Nat) (xs : List BxA) (x : MlA) (w : World) (hx : xs.length = n) (h1 : RdBs M w a xs) (hM : M ≤ 1073741000) (hn : n ≤ 1073741000) (hm : RdM M w x) :
    Calls Tryd.prog 51 #[.slice a n c, .agg #[.string (str x.m.frm), .slice x.a1 x.m.to.length x.c1, .slice x.a2 x.m.lines.length x.c2]] w (DlvRaw (dlvB x.m (xs.map BxA.b)) (dlvC x.m (xs.map BxA.b)) (dlvOk x.m (xs.map BxA.b)) w) := by
  have HV : Hid (∀ u, Below w.heap.size w u → Calls Tryd.prog 24 #[.slice a n c] u fun e w' => e = .returned (.bool (isBxs (xs.map BxA.b))) ∧ Below u.heap.size u w') := fun u hb => boxesValidS_any M a n c xs u hx (h1.below hb) hM hn
  have HMV : Hid (∀ u, Below w.heap.size w u → Calls Tryd.prog 53 #[.agg #[.string (str x.m.frm), .slice x.a1 x.m.to.length x.c1, .slice x.a2 x.m.lines.length x.c2]] u fun e w' => e = .returned (.bool (isMail x.m)) ∧ Below u.heap.size u w') := fun u hb => mailValidS_any M x u (hm.below hb) hM
  have HC : Hid (isBxs (xs.map BxA.b) = true → ∀ u, Below w.heap.size w u → Calls Tryd.prog 56 #[.slice a n c] u (BxsRet (xs.map BxA.b) u)) := fun hq u hb => by
    have h8 := (isBxs_upBx hq).2.1
    rw [List.length_map] at h8
    exact l11Copy_any a n c xs u hx ((h1.below hb).up (fun x hx => (isBxs_small hq x.b (List.mem_map_of_mem hx)).up (by omega))) (by omega)
  have HL : Hid ((xs.map BxA.b).length = n) := by show _ = _; rw [List.length_map]; exact hx
  have HMR : Hid (∀ u, Below w.heap.size w u → RdL u x.a1 x.m.to.length x.m.to) := fun u hu => hm.1.1.below hu
  have HMM : Hid (isMail x.m = true → ∀ u, Below w.heap.size w u → Calls Tryd.prog 71 #[.agg #[.string (str x.m.frm), .slice x.a1 x.m.to.length x.c1, .slice x.a2 x.m.lines.length x.c2]] u (MalRet x.m u)) := fun hq u hu => l10Mail_any 200 x u ⟨(hm.below hu).1, (hm.below hu).2.1, smallM_draft (isMail_iff.1 hq).1⟩ (by omega)
  have HK0 := Lib.hid (MK3.new w (.string (str x.m.frm)) (.slice x.a1 x.m.to.length x.c1) (.slice x.a2 x.m.lines.length x.c2) 28)
  have hA0 : Below w.heap.size w (w.alloc (.cells #[.string (str x.m.frm), .slice x.a1 x.m.to.length x.c1, .slice x.a2 x.m.lines.length x.c2] 28)) := (Below.refl _ _).alloc (Nat.le_refl _) _
  have hz0 : (w.alloc (.cells #[.string (str x.m.frm), .slice x.a1 x.m.to.length x.c1, .slice x.a2 x.m.lines.length x.c2] 28)).heap.size = w.heap.size + 1 := by simp
  clear h1 hM hx hm
  obtain ⟨bs, hbs⟩ : ∃ bs, bs = xs.map BxA.b := ⟨_, rfl⟩
  rw [← hbs] at HV HC HL ⊢
  clear hbs
  have HNO := Lib.hid (fun (h : dlvOk x.m bs = false) (w1 : World) (v7 : Value) (hb : Below w.heap.size w w1) (hc : OwnR 3 1 inC w.heap.size v7 [] w1) (hv : ∃ g m k, v7 = .slice (some ⟨g, 0, none⟩) m k) => dlvRaw_no h hb hc hv)
  have N1 : Hid (isBxs bs = false → dlvOk x.m bs = false) := fun h => by unfold dlvOk; rw [h]; rfl
  have N2 : Hid (isMail x.m = false → dlvOk x.m bs = false) := fun h => by unfold dlvOk; rw [h]; simp
  have Y1 : Hid (isBxs bs = true → isMail x.m = true → dlvOk x.m bs = true) := fun h h' => by unfold dlvOk; rw [h, h']; rfl
  cases hq : isBxs bs with
  | false =>
    have HN := Lib.hid (HNO.out (N1.out hq))
    rw [hq] at HV
    clear hq HNO N1 N2 Y1 HC HMV HMM HMR
    generalize dlvB x.m bs = AB at *
    generalize dlvC x.m bs = AC at *
    generalize dlvOk x.m bs = ok at *
    go_enter Tryd.func51, Tryd.ntmps51
    go_upto_region 2 with fail
    generalize w.alloc (.cells #[.string (str x.m.frm), .slice x.a1 x.m.to.length x.c1, .slice x.a2 x.m.lines.length x.c2] 28) = W0 at *
    have hA1 : Below W0.heap.size W0 (W0.alloc (.cells #[] 3)) := (Below.refl _ _).alloc (Nat.le_refl _) _
    have HO1 := Lib.hid (OwnR.empty 3 1 inC W0)
    rw [hz0] at HO1
    have hb01 := nx hA0 hA1
    go_wp2_with fail
    refine (HV.out _ hb01).mono ?_
    rintro e w2 ⟨rfl, hb2⟩
    have HE := Lib.hid (HN.out w2 _ (nx hb01 hb2) ((HO1.out.keep hb2).base (by omega)) ⟨_, _, _, rfl⟩)
    clear HO1
    go_wp2
    go_ret3
    exact HE.out
  | true =>
    cases hv : isMail x.m with
    | false =>
      have HN := Lib.hid (HNO.out (N2.out hv))
      rw [hq] at HV
      rw [hv] at HMV
      clear hq hv HNO N1 N2 Y1 HC HMM HMR
      generalize dlvB x.m bs = AB at *
      generalize dlvC x.m bs = AC at *
      generalize dlvOk x.m bs = ok at *
      go_enter Tryd.func51, Tryd.ntmps51
      go_upto_region 2 with fail
      generalize w.alloc (.cells #[.string (str x.m.frm), .slice x.a1 x.m.to.length x.c1, .slice x.a2 x.m.lines.length x.c2] 28) = W0 at *
      have hA1 : Below W0.heap.size W0 (W0.alloc (.cells #[] 3)) := (Below.refl _ _).alloc (Nat.le_refl _) _
      have HO1 := Lib.hid (OwnR.empty 3 1 inC W0)
      rw [hz0] at HO1
      have HK1 := Lib.hid (HK0.out.below hA1)
      have hb01 := nx hA0 hA1
      go_wp2_with fail
      refine (HV.out _ hb01).mono ?_
      rintro e w2 ⟨rfl, hb2⟩
      have hb02 := nx hb01 hb2
      obtain ⟨y0, y1, y2⟩ := HK1.out.below hb2
      go_wp2_with fail
      refine (HMV.out _ hb02).mono ?_
      rintro e w3 ⟨rfl, hb3⟩
      have hb03 := nx hb02 hb3
      have HE := Lib.hid (HN.out w3 _ hb03 ((HO1.out.keep (nx hb2 hb3)).base (by omega)) ⟨_, _, _, rfl⟩)
      clear HO1 y0 y1 y2
      go_wp2
      go_ret3
      exact HE.out
    | true =>
      have hok := Y1.out hq hv
      have HC1 := Lib.hid (HC.out hq)
      have HMM1 := Lib.hid (HMM.out hv)
      have h200 := smallM_draft (isMail_iff.1 hv).1
      have hOK0 := isBxs_ok hq
      rw [HL.out] at hOK0
      have HDV : Hid (∀ k, k ≤ x.m.to.length → BxsOk 200 n (dlv x.m bs (x.m.to.take k)).1 ∧ (dlv x.m bs (x.m.to.take k)).1.map (·.path) = bs.map (·.path) ∧ (dlv x.m bs (x.m.to.take k)).2.length = k) := dlv_ok hOK0 (by omega) h200 h200.2.2.1
      have HSTP : Hid (∀ k (h : k < x.m.to.length), dlv x.m bs (x.m.to.take (k + 1)) = dlvF x.m (dlv x.m bs (x.m.to.take k)) x.m.to[k]) := fun k h => dlv_step h
      have hto0 : 0 < x.m.to.length := (isMail_iff.1 hv).2.1
      have h10 : x.m.to.length ≤ 10 := (isDraft_iff.1 (isMail_iff.1 hv).1).2.1
      have hn8 : n ≤ 8 := by have := (isBxs_upBx hq).2.1; have := HL.out; omega
      have HE : Hid (∀ (ys : List BxA) (a9 : Option Addr) (c9 : Nat) (v7 : Value) (w' : World) (B : Nat), ys.map BxA.b = (dlv x.m bs (x.m.to.take x.m.to.length)).1 → OwnBs B (.slice a9 n c9) ys w' → OwnR 3 1 inC w.heap.size v7 (dlv x.m bs (x.m.to.take x.m.to.length)).2 w' → Below w.heap.size w w' → DlvRaw (dlvB x.m bs) (dlvC x.m bs) (dlvOk x.m bs) w (.returned (.tuple #[.slice a9 n c9, v7, .bool true])) w') := fun ys a9 c9 v7 w' B k1 k2 k3 k4 => by
        have h1 := (HDV.out _ (Nat.le_refl _)).1
        have hyl : ys.length = n := by have := h1.1; rw [← k1, List.length_map] at this; exact this
        rw [List.take_length] at k1 k3
        rw [List.take_length] at h1
        refine ⟨a9, n, c9, ys, v7, by rw [hok], by unfold dlvB; rw [hok]; exact k1, hyl, by omega, (k2.rd (fun z hz => ((h1.2 z.b (k1 ▸ List.mem_map_of_mem hz)).2).up (by omega))).1, ?_, ?_, k4⟩
        · have e : dlvC x.m bs = (dlv x.m bs x.m.to).2 := by unfold dlvC; rw [hok]; rfl
          rw [e]; exact k3
        · have hl := (HDV.out _ (Nat.le_refl _)).2.2
          rw [List.take_length] at hl
          rcases k3.2 with ⟨_, h0⟩ | ⟨g, cap, cur, hv, _⟩
          · exfalso; omega
          · exact ⟨g, _, cap, hv⟩
      rw [hq] at HV
      rw [hv] at HMV
      clear hq hv HNO N1 N2 Y1 HC HMM hok hOK0
      generalize dlvB x.m bs = AB at *
      generalize dlvC x.m bs = AC at *
      generalize dlvOk x.m bs = ok at *
      go_enter Tryd.func51, Tryd.ntmps51
      go_upto_region 2 with fail
      generalize w.alloc (.cells #[.string (str x.m.frm), .slice x.a1 x.m.to.length x.c1, .slice x.a2 x.m.lines.length x.c2] 28) = W0 at *
      have hA1 : Below W0.heap.size W0 (W0.alloc (.cells #[] 3)) := (Below.refl _ _).alloc (Nat.le_refl _) _
      have HO1 := Lib.hid (OwnR.empty 3 1 inC W0)
      rw [hz0] at HO1
      have HK1 := Lib.hid (HK0.out.below hA1)
      have hb01 := nx hA0 hA1
      go_wp2_with fail
      refine (HV.out _ hb01).mono ?_
      rintro e w2 ⟨rfl, hb2⟩
      have hb02 := nx hb01 hb2
      obtain ⟨y0, y1, y2⟩ := HK1.out.below hb2
      go_wp2_with fail
      refine (HMV.out _ hb02).mono ?_
      rintro e w3 ⟨rfl, hb3⟩
      have hb03 := nx hb02 hb3
      clear y0 y1 y2
      go_wp2_with fail
      refine (HC1.out _ hb03).mono ?_
      rintro e w5 ⟨v5, zs, rfl, hzs, hO, hb5⟩
      obtain ⟨a5, c5, hv5, _⟩ := hO.1.read bxC_len
      have hzl : zs.length = n := by rw [← HL.out, ← hzs, List.length_map]
      rw [hzl] at hv5
      subst hv5
      have HK5 := Lib.hid (HK1.out.below (nx (nx hb2 hb3) hb5))
      have hb05 := nx hb03 hb5
      have hsz3 : w.heap.size + 1 ≤ w3.heap.size := by have := hb03.size; have := (nx (nx hA1 hb2) hb3).size; rw [hz0] at this; exact this
      have HST0 : Hid (DSt w3.heap.size (w.heap.size + 1) (.slice a5 n c5) w5 zs (.slice (some ⟨w.heap.size + 1, 0, none⟩) 0 0) [] w5) := ⟨hO, HO1.out.keep (nx (nx hb2 hb3) hb5), Below.refl _ _, hsz3, hb5.size⟩
      have HZS := Lib.hid hzs
      have hN8 : (x.m.to.length : Int) ≤ 10 := by omega
      have hmrw := HMR.out
      clear hO hzs hzl HO1 HV HMV HC1 hb2 hb3 hb5 hA1
      obtain ⟨y0, y1, y2⟩ := HK5.out
      go_wp2_with fail
      go_loopw [7, 9] (fun s7 s9 wr => ∃ (k : Nat) (ys : List BxA), k ≤ x.m.to.length ∧ s9 = .int .i64 k ∧ ys.map BxA.b = (dlv x.m bs (x.m.to.take k)).1 ∧ DSt w3.heap.size (w.heap.size + 1) (.slice a5 n c5) w5 ys s7 (dlv x.m bs (x.m.to.take k)).2 wr) (fun _ s9 _ => x.m.to.length - (intOf s9).toNat)
      case atStart => exact ⟨0, zs, Nat.zero_le _, rfl, HZS.out, HST0.out⟩
      case round =>
        obtain ⟨k, ys, hk, rfl, hym, hst⟩ := hrel
        have HST := Lib.hid hst
        have hbr := hb05.trans (hst.low.mono (Nat.le_succ _))
        have HKr := Lib.hid (HK5.out.lowD hst.low (Nat.lt_succ_self _))
        clear hst
        clear y0 y1 y2
        obtain ⟨y0, y1, y2⟩ := HKr.out
        by_cases hlt : k < x.m.to.length
        · obtain ⟨hok1, hok2, hok3⟩ := HDV.out k (Nat.le_of_lt hlt)
          have hstp := HSTP.out k hlt
          obtain ⟨b1, o1, ha1, hbl1, hcell⟩ := (HMR.out wr hbr).2.resolve_left (by omega)
          have c1' := hcell k hlt
          have hyl : ys.length = n := by have := hok1.1; rw [← hym, List.length_map] at this; exact this
          have hkn : (k : Int) < (x.m.to.length : Int) := by omega
          have hk0 : (0 : Int) ≤ (k : Int) := by omega
          have HF : Hid (Calls Tryd.prog 62 #[.slice a5 n c5, .string (str x.m.to[k])] wr fun e w' => e = .returned (.int .i64 (fndI (fndP x.m.to[k] ((dlv x.m bs (x.m.to.take k)).1.map (·.path))))) ∧ Below wr.heap.size wr w') := by
            have := l11Find_any 200 a5 n c5 ys x.m.to[k] wr hyl (HST.out.boxes.rd (fun z hz => (hok1.2 z.b (hym ▸ List.mem_map_of_mem hz)).2)).1 (by omega)
            rw [← hym, show (ys.map BxA.b).map (·.path) = ys.map (·.path) by rw [List.map_map]; rfl]; exact this
          have HNX : Hid (∀ (v8 : Value) (zs' : List BxA) (w' : World) (D' : List Bx × List Int), dlvF x.m (dlv x.m bs (x.m.to.take k)) x.m.to[k] = D' → zs'.map BxA.b = D'.1 → DSt w3.heap.size (w.heap.size + 1) (.slice a5 n c5) w5 zs' v8 D'.2 w' → zs'.map BxA.b = (dlv x.m bs (x.m.to.take (k + 1))).1 ∧ DSt w3.heap.size (w.heap.size + 1) (.slice a5 n c5) w5 zs' v8 (dlv x.m bs (x.m.to.take (k + 1))).2 w') := fun v8 zs' w' D' e1 e2 e3 => by
            rw [hstp, e1]; exact ⟨e2, e3⟩
          have hCL : ((dlv x.m bs (x.m.to.take k)).2.length : Nat) + 1 ≤ 1000000 := by omega
          clear hstp hok2 hok3 hcell
          rw [ha1] at y1
          clear ha1
          generalize dlv x.m bs (x.m.to.take k) = D at *
          generalize hp : x.m.to[k] = p at *
          have HPM : Hid (x.m.to[k] = p) := hp
          have HYM := Lib.hid hym
          have HOK := Lib.hid hok1
          have HYL := Lib.hid hyl
          have HCL : Hid (D.2.length + 1 ≤ 1000000) := hCL
          clear hp hym hok1 hyl hCL
          have hLw : w.heap.size + 1 ≤ wr.heap.size := Nat.le_trans HST.out.ord HST.out.size
          cases hf : fndP p (D.1.map (·.path)) with
          | none =>
            have HS := Lib.hid (dlvStep_none (m := x.m) hf)
            rw [hf] at HF
            have hI : fndI none = -1 := rfl
            rw [hI] at HF
            clear hf hI
            go_wp2_with fail
            refine HF.out.mono ?_
            rintro e w6 ⟨rfl, hb6⟩
            have hA6 : Below w6.heap.size w6 (w6.alloc (.cells #[.int .i64 550] 3)) := (Below.refl _ _).alloc (Nat.le_refl _) _
            have HST6 := Lib.hid ((HST.out.keep hb6).keep hA6)
            have hle6 : w.heap.size + 1 ≤ (w6.alloc (.cells #[.int .i64 550] 3)).heap.size := by have := hb6.size; have := hA6.size; omega
            have hcc : ∀ j u, (([550] : List Int).flatMap inC)[j]? = some u → (w6.alloc (.cells #[.int .i64 550] 3)).cell? ((⟨w6.heap.size, 0, none⟩ : Addr).add j) = some u := fun j u hj => by
              match j, hj with
              | 0, hj => injection hj with hj; subst hj; rw [addr_add, World.cell?_alloc_at _ _ _ _ rfl]; rfl
              | j + 1, hj => simp [inC] at hj
            have HCC := Lib.hid hcc
            clear hcc y0 y1 y2 c1'
            go_wp2_with (at_builtin; refine wpList_append_I rfl _ _ rfl (w.heap.size + 1) _ D.2 [550] ⟨w6.heap.size, 0, none⟩ 1 1 rfl rfl HST6.out.codes rfl HCC.out hle6 HCL.out ?_)
            intro v8 w8 hO8 ho8 _
            obtain ⟨hr1, hr2⟩ := HNX.out v8 ys w8 (D.1, D.2 ++ [550]) (by unfold dlvF; rw [HS.out]) HYM.out (HST6.out.code hO8 ho8)
            have HR1 := Lib.hid hr1
            have HR2 := Lib.hid hr2
            clear hO8 ho8 hr1 hr2
            go_wp2
            go_roundw
            case rel => exact ⟨k + 1, ys, by omega, by go_num, HR1.out, HR2.out⟩
            case measure => simp [intOf]; omega
          | some j =>
            have hjb := fnd_lt hf
            have hjn : j < n := by rw [← HOK.out.1]; exact hjb
            have hI : fndI (some j) = (j : Int) := rfl
            rw [hf, hI] at HF
            have hjy : j < ys.length := by rw [HYL.out]; exact hjn
            obtain ⟨g5, rfl⟩ : ∃ g, a5 = some ⟨g, 0, none⟩ := by
              rcases HST.out.boxes.1.2 with ⟨_, h0⟩ | ⟨g, cap, cur, hv, _⟩
              · exfalso; omega
              · injection hv with e1 _ _; exact ⟨g, e1⟩
            obtain ⟨y, hy⟩ : ∃ y, ys[j] = y := ⟨_, rfl⟩
            have hyb : y.b = D.1.getD j bx0 := by
              rw [← HYM.out, List.getD_eq_getElem?_getD, List.getElem?_map, List.getElem?_eq_getElem hjy, ← hy]; rfl
            have hyml : (D.1.getD j bx0).mails.length = y.xs.length := by rw [← hyb]; unfold BxA.b; simp
            have hy4 : y.xs.length ≤ 4 := by
              have : D.1.getD j bx0 ∈ D.1 := by rw [List.getD_eq_getElem?_getD, List.getElem?_eq_getElem hjb]; exact List.getElem_mem hjb
              rw [← hyml]; exact (HOK.out.2 _ this).1
            have HJY := Lib.hid hjy
            have HY := Lib.hid hy
            have HYB := Lib.hid hyb
            have hj0 : (0 : Int) ≤ (j : Int) := by omega
            have hj1 : ¬ ((j : Int) < 0) := by omega
            have hjn' : (j : Int) < (n : Int) := by omega
            by_cases h4 : y.xs.length = 4
            · have HS := Lib.hid (dlvStep_full (m := x.m) hf (hyml.trans h4))
              have e4 : ((y.xs.length : Int) == 4) = true := by rw [h4]; rfl
              clear hf hI hjb hyb hyml hy4 hy h4
              generalize hyl4 : y.xs.length = yl at *
              have HYL4 := Lib.hid hyl4
              clear hyl4
              go_wp2_with fail
              refine HF.out.mono ?_
              rintro e w6 ⟨rfl, hb6⟩
              obtain ⟨⟨_, p2⟩, _⟩ := rowB_cells (HST.out.keep hb6).boxes.1 HJY.out HY.out
              rw [HYL4.out] at p2
              have hA6 : Below w6.heap.size w6 (w6.alloc (.cells #[.int .i64 452] 3)) := (Below.refl _ _).alloc (Nat.le_refl _) _
              have HST6 := Lib.hid ((HST.out.keep hb6).keep hA6)
              have hle6 : w.heap.size + 1 ≤ (w6.alloc (.cells #[.int .i64 452] 3)).heap.size := by have := hb6.size; have := hA6.size; omega
              have hcc : ∀ j u, (([452] : List Int).flatMap inC)[j]? = some u → (w6.alloc (.cells #[.int .i64 452] 3)).cell? ((⟨w6.heap.size, 0, none⟩ : Addr).add j) = some u := fun j u hj => by
                match j, hj with
                | 0, hj => injection hj with hj; subst hj; rw [addr_add, World.cell?_alloc_at _ _ _ _ rfl]; rfl
                | j + 1, hj => simp [inC] at hj
              have HCC := Lib.hid hcc
              clear hcc y0 y1 y2 c1'
              go_wp2_with (at_builtin; refine wpList_append_I rfl _ _ rfl (w.heap.size + 1) _ D.2 [452] ⟨w6.heap.size, 0, none⟩ 1 1 rfl rfl HST6.out.codes rfl HCC.out hle6 HCL.out ?_)
              intro v8 w8 hO8 ho8 _
              obtain ⟨hr1, hr2⟩ := HNX.out v8 ys w8 (D.1, D.2 ++ [452]) (by unfold dlvF; rw [HS.out]) HYM.out (HST6.out.code hO8 ho8)
              have HR1 := Lib.hid hr1
              have HR2 := Lib.hid hr2
              clear hO8 ho8 hr1 hr2 p2
              go_wp2
              go_roundw
              case rel => exact ⟨k + 1, ys, by omega, by go_num, HR1.out, HR2.out⟩
              case measure => simp [intOf]; omega
            · have HS := Lib.hid (dlvStep_put (m := x.m) hf (fun e => h4 (hyml.symm.trans e)))
              have e4 : ((y.xs.length : Int) == 4) = false := by rw [beq_eq_false_iff_ne]; omega
              have HY4 : Hid (y.xs.length ≤ 4) := hy4
              clear hf hI hjb hyb hyml hy4 hy h4
              generalize hyl4 : y.xs.length = yl at *
              have HYL4 := Lib.hid hyl4
              clear hyl4
              go_wp2_with fail
              refine HF.out.mono ?_
              rintro e w6 ⟨rfl, hb6⟩
              have HST6 := Lib.hid (HST.out.keep hb6)
              have hbr6 := nx hbr hb6
              obtain ⟨⟨_, p2⟩, _⟩ := rowB_cells HST6.out.boxes.1 HJY.out HY.out
              rw [HYL4.out] at p2
              clear y0 y1 y2 c1'
              obtain ⟨y0, y1, y2⟩ := HKr.out.below hb6
              go_wp2_with fail
              refine (HMM1.out w6 hbr6).mono ?_
              rintro e w7 ⟨z, hzm, rfl, hoz, hb7⟩
              have hmV : mlV z = .agg #[.string (str z.m.frm), .slice z.a1 z.m.to.length z.c1, .slice z.a2 z.m.lines.length z.c2] := rfl
              rw [hmV]
              have HZM := Lib.hid hzm
              have HOZ := Lib.hid hoz
              clear hmV hzm hoz y0 y1 y2
              go_upto_region 10 with fail
              have hA7 : Below w7.heap.size w7 (w7.alloc (.cells #[.string (str z.m.frm), .slice z.a1 z.m.to.length z.c1, .slice z.a2 z.m.lines.length z.c2] 28)) := (Below.refl _ _).alloc (Nat.le_refl _) _
              have HT7 := Lib.hid (MF3.new w7 (.string (str z.m.frm)) (.slice z.a1 z.m.to.length z.c1) (.slice z.a2 z.m.lines.length z.c2) 28)
              have hz7 : (w7.alloc (.cells #[.string (str z.m.frm), .slice z.a1 z.m.to.length z.c1, .slice z.a2 z.m.lines.length z.c2] 28)).heap.size = w7.heap.size + 1 := by simp
              have HOZ7 := Lib.hid (HOZ.out.keep hA7)
              have hb67 := nx hb7 hA7
              have hbr7 := nx hbr6 hb67
              have hs67 := hb7.size
              generalize w7.alloc (.cells #[.string (str z.m.frm), .slice z.a1 z.m.to.length z.c1, .slice z.a2 z.m.lines.length z.c2] 28) = U7 at *
              obtain ⟨y0, y1, y2⟩ := HKr.out.below (nx hb6 hb67)
              obtain ⟨b2, o2, ha2, hbl2, hcell2⟩ := (HMR.out U7 hbr7).2.resolve_left (by omega)
              have c2' := hcell2 k hlt
              rw [HPM.out] at c2'
              rw [ha2] at y1
              clear ha2 hcell2
              obtain ⟨⟨t0, t1, t2⟩, tf⟩ := HT7.out
              generalize hT : w7.heap.size = T at *
              have HTE := Lib.hid hT
              clear hT hA7
              go_upto_region 11 with fail
              have HX : Hid (∃ X : MlA, X.m = ⟨x.m.frm, [p], x.m.lines⟩ ∧ MK3 ((U7.setCell ⟨T, 1, none⟩ (.slice (some ⟨T + 1, 0, none⟩) 1 1)).alloc (.cells #[.string (str p)] 9)) T (.string (str X.m.frm)) (.slice X.a1 X.m.to.length X.c1) (.slice X.a2 X.m.lines.length X.c2) ∧ OwnM w6.heap.size ((U7.setCell ⟨T, 1, none⟩ (.slice (some ⟨T + 1, 0, none⟩) 1 1)).alloc (.cells #[.string (str p)] 9)) X) := by
                have hsz : (U7.setCell ⟨T, 1, none⟩ (.slice (some ⟨T + 1, 0, none⟩) 1 1)).heap.size = T + 1 := by simpa [World.setCell] using hz7
                have hAz : Below (U7.setCell ⟨T, 1, none⟩ (.slice (some ⟨T + 1, 0, none⟩) 1 1)).heap.size (U7.setCell ⟨T, 1, none⟩ (.slice (some ⟨T + 1, 0, none⟩) 1 1)) ((U7.setCell ⟨T, 1, none⟩ (.slice (some ⟨T + 1, 0, none⟩) 1 1)).alloc (.cells #[.string (str p)] 9)) := (Below.refl _ _).alloc (Nat.le_refl _) _
                have hl2 : ∀ q, (Value.slice z.a2 z.m.lines.length z.c2).ownBlock = some q → q < T := fun q hq => by have := (HOZ.out.2.1.lt q hq).2; rw [HTE.out] at this; exact this
                have hT6 : w6.heap.size ≤ T := by have := HTE.out; omega
                refine ⟨⟨⟨z.m.frm, [p], z.m.lines⟩, some ⟨T + 1, 0, none⟩, 1, z.a2, z.c2⟩, by show Ml.mk _ _ _ = _; rw [HZM.out], ((HT7.out.set1 (.slice (some ⟨T + 1, 0, none⟩) 1 1)).1).below hAz, ownL_new1 _ p (T + 1) _ hsz (by omega), ?_, fun q hq hq2 => ?_⟩
                · exact ((HOZ7.out.2.1).turned ((Turn.refl (fun q => q = T) U7).setCell (show T = T from rfl) _) (fun q hq e => by have := hl2 q hq; omega)).keep hAz
                · injection hq with hq
                  have h1 : T + 1 = q := hq
                  have := hl2 q hq2
                  omega
              have hb6V : Below w6.heap.size w6 ((U7.setCell ⟨T, 1, none⟩ (.slice (some ⟨T + 1, 0, none⟩) 1 1)).alloc (.cells #[.string (str p)] 9)) := (hb67.setCell (by show w6.heap.size ≤ T; have := HTE.out; omega) _).alloc (by have := hb67.size; simpa [World.setCell] using this) _
              have HSTV := Lib.hid (HST6.out.keep hb6V)
              clear t0 t1 t2 tf y0 y1 y2 c2' p2 HT7 HOZ7 hz7 hb67 hbr7
              generalize (U7.setCell ⟨T, 1, none⟩ (.slice (some ⟨T + 1, 0, none⟩) 1 1)).alloc (.cells #[.string (str p)] 9) = V at *
              obtain ⟨X, hXm, hXk, hXo⟩ := HX.out
              have HXM := Lib.hid hXm
              have HXK := Lib.hid hXk
              have HXO := Lib.hid hXo
              have HXB : Hid (∀ q, blk1 X q → w6.heap.size ≤ q) := fun q hq => (hXo.lt hq).1
              have HBB : Hid (∀ q, blkB (.slice (some ⟨g5, 0, none⟩) n c5) ys q → q < w6.heap.size) := fun q hq => (HST6.out.boxes.lt hq).2
              have HYC : Hid (∀ u, Below V.heap.size V u → u.cell? ⟨g5, j * 2 + 1, none⟩ = some (.slice y.a yl y.c) ∧ u.frozen? ⟨g5, j * 2 + 1, none⟩ = false) := fun u hu => by
                obtain ⟨⟨_, h2⟩, h3⟩ := rowB_cells (HSTV.out.keep hu).boxes.1 HJY.out HY.out
                rw [HYL4.out] at h2
                exact ⟨h2, h3⟩
              have hV6 : w6.heap.size ≤ V.heap.size := hb6V.size
              clear hXm hXk hXo HX HST6 HOZ hb7 hb6V
              have hxs1 : X.m.to.length = 1 := by rw [HXM.out]; rfl
              refine wp_region_tail (by kernel_rfl) ?_
              refine _root_.Go.wpAny_take (i := 0) (v := .slice (some ⟨g5, 0, none⟩) n c5) rfl (by kernel_rfl) (by kernel_rfl) (by kernel_rfl) (fun _ _ _ h => h) (Or.inl ⟨by rfl, ?_⟩) ?_
              · intro w9
                go_simp
              simp only [List.getElem_toArray, List.getElem_cons_zero, Act.put, List.setIfInBounds_toArray, List.set_cons_zero, List.set_cons_succ]
              refine _root_.Go.wpAny_take (i := 1) (v := .int .i64 j) rfl (by kernel_rfl) (by kernel_rfl) (by kernel_rfl) (fun _ _ _ h => h) (Or.inl ⟨by rfl, ?_⟩) ?_
              · intro w9
                go_simp
              simp only [List.getElem_toArray, List.getElem_cons_zero, List.getElem_cons_succ, Act.put, List.setIfInBounds_toArray, List.set_cons_zero, List.set_cons_succ]
              refine wpAny_tail (fuel := 7) (tf := 4) [9, 10, 11, 12] (by kernel_rfl) ?_
              refine wpAnyZ_take (fuel := 1) [false, false, true, true, true, true, true, true] (by kernel_rfl) (by kernel_rfl) (by rfl) (by kernel_rfl) (by kernel_rfl) (by kernel_rfl) ?_
              apply Exists.intro
              refine ⟨fun x => ?_, ?_⟩
              · have y0 := fun (y : BelowT x.val) => (HYC.out y.val (nx ((Below.refl _ _).drew) (nx x.below y.below))).1
                have y1 := fun (y : BelowT x.val) => (HXK.out.below (nx ((Below.refl _ _).drew) (nx x.below y.below))).1
                have y2 := fun (y : BelowT x.val) => (HXK.out.below (nx ((Below.refl _ _).drew) (nx x.below y.below))).2.1
                have y3 := fun (y : BelowT x.val) => (HXK.out.below (nx ((Below.refl _ _).drew) (nx x.below y.below))).2.2
                simp only [pickL]
                repeat (go_big_quiet_step (fail))
                exact wpQuiet_nil rfl
              refine wpAnyZ_one (m := 8) (by kernel_rfl) (fun ub g2 => ?_)
              refine wpOp_at (o := _) (by rfl) (by rfl) ?_
              go_simp
              refine ⟨(Below.refl _ _).alloc (Nat.le_refl _) _, ?_⟩
              try simp only [Act.put, List.setIfInBounds_toArray, List.set_cons_zero, List.set_cons_succ]
              have hga : Below V.heap.size V ub := nx ((Below.refl _ _).drew) g2
              have HK8 := MK3.new ub (.string (str X.m.frm)) (.slice X.a1 1 X.c1) (.slice X.a2 X.m.lines.length X.c2) 28
              have hg7 : Below V.heap.size V (ub.alloc (.cells #[.string (str X.m.frm), .slice X.a1 1 X.c1, .slice X.a2 X.m.lines.length X.c2] 28)) := nx hga ((Below.refl _ _).alloc (Nat.le_refl _) _)
              generalize ub.alloc (.cells #[.string (str X.m.frm), .slice X.a1 1 X.c1, .slice X.a2 X.m.lines.length X.c2] 28) = V8 at *
              generalize ub.heap.size = X8 at HK8 ⊢
              refine wpAnyZ_rest (by kernel_rfl) (fun uc g3 => ?_)
              have hg8 : Below V.heap.size V uc := nx hg7 g3
              have HSTU := Lib.hid (HSTV.out.keep hg8)
              have hYO : OwnMs w3.heap.size (.slice y.a yl y.c) y.xs uc := by
                have := HSTU.out.boxes.2.1 y (HY.out ▸ List.getElem_mem HJY.out)
                rw [HYL4.out] at this; exact this
              have hK8 : MK3 uc X8 (.string (str X.m.frm)) (.slice X.a1 X.m.to.length X.c1) (.slice X.a2 X.m.lines.length X.c2) := by
                have := HK8.below g3
                rw [hxs1]; exact this
              have hw36 : w3.heap.size ≤ w6.heap.size := Nat.le_trans HST.out.size hb6.size
              have hYM : y ∈ ys := HY.out ▸ List.getElem_mem HJY.out
              refine wpAny_one (m := 9) (by kernel_rfl) ?_
              refine wpOp_at (o := _) (by rfl) (by rfl) ?_
              refine wp_append_Mg _ _ rfl w3.heap.size (.slice y.a yl y.c) y.xs X X8 rfl (by simp [Act.eval]) hYO ((HXO.out.keep hg8).base hw36) hK8 (Nat.le_trans hw36 (Nat.le_trans hV6 hg8.size)) (by rw [HYL4.out]; have := HY4.out; omega) (fun m hm q hq hq2 => by
                have h1 := HXB.out q hq2
                have h2 := HBB.out q (.inr ⟨y, hYM, .inr ⟨m, hm, hq⟩⟩)
                omega) ?_
              intro v9 w9 hO9 ho9 hat9
              obtain ⟨a9, c9, hv9, _⟩ := hO9.1.read mlC_len
              subst hv9
              have hg5y : (Value.slice y.a yl y.c).ownBlock ≠ some g5 := fun e => own_row_mails HSTU.out.boxes hYM (g := g5) rfl (.inl (by rw [HYL4.out]; exact e))
              have hg5l : g5 < uc.heap.size := (HSTU.out.boxes.1.lt g5 rfl).2
              have q2 := cell_only (HYC.out uc hg8).1 ho9 hg5y
              have qf := fz_only (HYC.out uc hg8).2 ho9 hg5l hg5y
              have HADD : Hid (DSt w3.heap.size (w.heap.size + 1) (.slice (some ⟨g5, 0, none⟩) n c5) w5 (ys.set j (y.row' (y.xs ++ [X]) a9 c9)) u7 D.2 (w9.setCell ⟨g5, j * 2 + 1, none⟩ (.slice a9 (y.xs ++ [X]).length c9))) :=
                HSTU.out.put hYM (by rw [HYL4.out]; exact ho9) (OwnBs.added HSTU.out.boxes HJY.out HY.out HXB.out HBB.out hO9 (by rw [HYL4.out]; exact ho9) (by rw [HYL4.out]; exact hat9))
              have hyl9 : (y.xs ++ [X]).length = yl + 1 := by rw [List.length_append, HYL4.out]; rfl
              have HMAP : Hid ((ys.set j (y.row' (y.xs ++ [X]) a9 c9)).map BxA.b = D.1.set j ⟨(D.1.getD j bx0).path, (D.1.getD j bx0).mails ++ [⟨x.m.frm, [p], x.m.lines⟩]⟩) := by
                show _ = _
                rw [List.map_set, HYM.out, ← HYB.out]
                show D.1.set j ⟨y.path, (y.xs ++ [X]).map (·.m)⟩ = _
                rw [List.map_append, List.map_cons, List.map_nil, HXM.out]; rfl
              rw [hyl9] at HADD ⊢
              clear hO9 ho9 hat9 hyl9 hYO hK8 HK8 hga hg7 hg8 g2 g3 hg5y
              try simp only [Act.put, List.setIfInBounds_toArray]
              refine wpAny_one (m := 10) (by kernel_rfl) ?_
              refine wpOp_at (o := _) (by rfl) (by rfl) ?_
              go_simp
              try simp only [Act.put, List.setIfInBounds_toArray, List.set_cons_zero, List.set_cons_succ]
              refine wpAny_one (m := 11) (by kernel_rfl) ?_
              refine wpOp_at (o := _) (by rfl) (by rfl) ?_
              go_simp
              try simp only [Act.put, List.setIfInBounds_toArray, List.set_cons_zero, List.set_cons_succ]
              refine wpAny_one (m := 12) (by kernel_rfl) ?_
              refine wpOp_at (o := _) (by rfl) (by rfl) ?_
              go_simp
              try simp only [Act.put]
              refine wpAny_end (by kernel_rfl) ?_ _
              generalize w9.setCell ⟨g5, j * 2 + 1, none⟩ (.slice a9 (yl + 1) c9) = wA at *
              clear q2 qf
              have hAc : Below wA.heap.size wA (wA.alloc (.cells #[.int .i64 250] 3)) := (Below.refl _ _).alloc (Nat.le_refl _) _
              have HSTC := Lib.hid (HADD.out.keep hAc)
              have hlec : w.heap.size + 1 ≤ (wA.alloc (.cells #[.int .i64 250] 3)).heap.size := by have := HADD.out.ord; have := HADD.out.size; have := hAc.size; omega
              have hcc : ∀ j u, (([250] : List Int).flatMap inC)[j]? = some u → (wA.alloc (.cells #[.int .i64 250] 3)).cell? ((⟨wA.heap.size, 0, none⟩ : Addr).add j) = some u := fun j u hj => by
                match j, hj with
                | 0, hj => injection hj with hj; subst hj; rw [addr_add, World.cell?_alloc_at _ _ _ _ rfl]; rfl
                | j + 1, hj => simp [inC] at hj
              have HCC := Lib.hid hcc
              clear hcc
              go_wp2_with (at_builtin; refine wpList_append_I rfl _ _ rfl (w.heap.size + 1) _ D.2 [250] ⟨wA.heap.size, 0, none⟩ 1 1 rfl rfl HSTC.out.codes rfl HCC.out hlec HCL.out ?_)
              intro v8 w8 hO8 ho8 _
              obtain ⟨hr1, hr2⟩ := HNX.out v8 _ w8 (D.1.set j ⟨(D.1.getD j bx0).path, (D.1.getD j bx0).mails ++ [⟨x.m.frm, [p], x.m.lines⟩]⟩, D.2 ++ [250]) (by unfold dlvF; rw [HS.out]) HMAP.out (HSTC.out.code hO8 ho8)
              have HR1 := Lib.hid hr1
              have HR2 := Lib.hid hr2
              clear hO8 ho8 hr1 hr2
              go_wp2
              go_roundw
              case rel => exact ⟨k + 1, _, by omega, by go_num, HR1.out, HR2.out⟩
              case measure => simp [intOf]; omega
        · have hke : k = x.m.to.length := by omega
          subst hke
          have HE1 := Lib.hid (HE.out ys a5 c5 _ wr w3.heap.size hym HST.out.boxes (HST.out.codes.base (Nat.le_succ _)) hbr)
          go_wp2
          go_ret3
          exact HE1.out
/-- Boxes and numbers of the call's own. -/
def DlvRet (bs : List Bx) (cs : List Int) (ok : Bool) (w : World) (e : Ending) (w' : World) : Prop := ∃ (v : Value) (ys : List BxA) (v7 : Value), e = .returned (.tuple #[v, v7, .bool ok]) ∧ ys.map BxA.b = bs ∧ OwnBs w.heap.size v ys w' ∧ OwnR 3 1 inC w.heap.size v7 cs w' ∧ Below w.heap.size w w'
set_option maxRecDepth 100000 in
set_option maxHeartbeats 2000000 in
theorem deliverS_any (M : Nat) (a : Option Addr) (n c : Nat) (xs : List BxA) (x : MlA) (w : World) (hx : xs.length = n) (h1 : RdBs M w a xs) (hM : M ≤ 1073741000) (hn : n ≤ 1073741000) (hm : RdM M w x) :
    Calls Tryd.prog 21 #[.slice a n c, .agg #[.string (str x.m.frm), .slice x.a1 x.m.to.length x.c1, .slice x.a2 x.m.lines.length x.c2]] w (DlvRet (dlvB x.m (xs.map BxA.b)) (dlvC x.m (xs.map BxA.b)) (dlvOk x.m (xs.map BxA.b)) w) := by
  have hA0 : Below w.heap.size w (w.alloc (.cells #[.string (str x.m.frm), .slice x.a1 x.m.to.length x.c1, .slice x.a2 x.m.lines.length x.c2] 28)) := (Below.refl _ _).alloc (Nat.le_refl _) _
  have HR := Lib.hid (rawDeliver_any M a n c xs x _ hx (h1.below hA0) hM hn (hm.below hA0))
  have HCL : Hid ((dlvC x.m (xs.map BxA.b)).length ≤ 1000000) := by
    show _ ≤ _
    unfold dlvC
    split
    · rename_i hok
      unfold dlvOk at hok
      rw [Bool.and_eq_true] at hok
      have h200 := smallM_draft (isMail_iff.1 hok.2).1
      have := (dlv_ok (isBxs_ok hok.1) (by omega) h200 h200.2.2.1 _ (Nat.le_refl _)).2.2
      rw [List.take_length] at this
      have h10 := (isDraft_iff.1 (isMail_iff.1 hok.2).1).2.1
      omega
    · exact Nat.zero_le _
  clear h1 hx hm
  generalize dlvB x.m (xs.map BxA.b) = AB at *
  generalize dlvC x.m (xs.map BxA.b) = AC at *
  generalize dlvOk x.m (xs.map BxA.b) = ok at *
  generalize str x.m.frm = xs0 at *
  generalize x.m.to.length = xn at *
  generalize x.m.lines.length = xk at *
  generalize x.a1 = xa at *
  generalize x.a2 = xb at *
  generalize x.c1 = xc at *
  generalize x.c2 = xd at *
  go_enter Tryd.func21, Tryd.ntmps21
  go_wp2_with fail
  refine HR.out.mono ?_
  rintro e w1 ⟨a1, n1, c1, ys, v7, rfl, hys, hyl, hn1, hrd, hcs, ⟨g7, m7, k7, hv7⟩, hb1⟩
  have hb01 := nx hA0 hb1
  have HLB := Lib.hid (ownListBox_any a1 n1 c1 ys w1 hyl hrd hn1)
  have hm7 : AC.length = m7 := by
    obtain ⟨_, _, e, _⟩ := hcs.read inC_len
    rw [hv7] at e
    injection e with _ e _
    exact e.symm
  subst hv7
  have HCS := Lib.hid hcs
  have HYS := Lib.hid hys
  clear hcs hys hrd HR hyl
  go_wp2_with fail
  refine HLB.out.mono ?_
  rintro e w2 ⟨v2, zs, rfl, hzs, hO, hb2⟩
  have hb02 := nx hb01 hb2
  have hA2 : Below w2.heap.size w2 (w2.alloc (.cells #[] 3)) := (Below.refl _ _).alloc (Nat.le_refl _) _
  have HO2 := Lib.hid (OwnR.empty 3 1 inC w2)
  have HOB := Lib.hid (hO.keep hA2)
  have HCS2 := Lib.hid ((HCS.out.keep hb2).keep hA2)
  have hcc : ∀ j u, (AC.flatMap inC)[j]? = some u → (w2.alloc (.cells #[] 3)).cell? ((⟨g7, 0, none⟩ : Addr).add j) = some u := fun j u hj => by
    have hr := HCS2.out
    unfold OwnR at hr
    have := hr.cells (g := g7) rfl j u hj
    exact this
  have HCC := Lib.hid hcc
  have HM7 := Lib.hid hm7
  have hle2 : w2.heap.size ≤ (w2.alloc (.cells #[] 3)).heap.size := hA2.size
  have HLN : Hid (([] : List Int).length + m7 ≤ 1000000) := by show 0 + _ ≤ _; have := HCL.out; omega
  have HZS := Lib.hid (hzs.trans HYS.out)
  clear hcc hO hzs hm7
  go_wp2_with (at_builtin; refine wpList_append_I rfl _ _ rfl w2.heap.size _ [] AC ⟨g7, 0, none⟩ m7 k7 rfl rfl HO2.out HM7.out HCC.out hle2 HLN.out ?_)
  intro v8 w8 hO8 ho8 _
  have hb28 : Below w2.heap.size w2 w8 := hA2.trans (ho8.below (fun q hq => by injection hq with hq; have : w2.heap.size = q := hq; omega) hle2)
  have HE : Hid (DlvRet AB AC ok w (.returned (.tuple #[v2, v8, .bool ok])) w8) := ⟨v2, zs, v8, rfl, HZS.out, ((HOB.out.turned (Turn.only (P := fun g => (Value.slice (some ⟨w2.heap.size, 0, none⟩) 0 0).ownBlock = some g) ho8 (fun _ e => e)) (fun g hg e => ints_boxes HOB.out HO2.out g hg e)).base hb01.size), hO8.base hb02.size, nx hb02 hb28⟩
  clear hO8 ho8
  go_wp2
  go_ret3
  exact HE.out
end Go.Proofs.YtbfjbabpeigloabDoor
end

section
namespace Go.Proofs.YtbfjbabpeigloabDoor
open Go.RowKit

/-! Boundaries. -/
def isBnd (b : List UInt8) : Bool := b.all alnumB && (decide (1 ≤ b.length) && decide (b.length ≤ 20))
/-- The line that begins a part, and the one that ends all of them. -/
def begL (b : List UInt8) : List UInt8 := 45 :: 45 :: b
def endL (b : List UInt8) : List UInt8 := 45 :: 45 :: (b ++ [45, 45])
theorem beg_ne_end (b : List UInt8) : begL b ≠ endL b := by
  intro h
  have := congrArg List.length h
  simp [begL, endL] at this
def looksB (b l : List UInt8) : Bool := decide (l = begL b) || decide (l = endL b)
theorem looks_f {b l : List UInt8} : looksB b l = false ↔ l ≠ begL b ∧ l ≠ endL b := by unfold looksB; simp
/-- The parts from a line on behind the beginning of a part of which some lines are read. -/
def splG (b : List UInt8) : List (List UInt8) → List (List UInt8) → Option (List (List (List UInt8)))
  | _, [] => none
  | cur, l :: ls => if l = begL b then (splG b [] ls).map (cur :: ·) else if l = endL b then some [cur] else splG b (cur ++ [l]) ls
def splB (b : List UInt8) : List (List UInt8) → Option (List (List (List UInt8)))
  | [] => none
  | l :: ls => if l = begL b then splG b [] ls else splB b ls
def splitP (ls : List (List UInt8)) (b : List UInt8) : Option (List (List (List UInt8))) := if isBnd b then splB b ls else none
def joinsP (ps : List (List (List UInt8))) (b : List UInt8) : List (List UInt8) := ps.flatMap (begL b :: ·) ++ [endL b]
def okParts (ps : List (List (List UInt8))) (b : List UInt8) : Bool := ps.all fun p => p.all fun l => !looksB b l
def joinP (ps : List (List (List UInt8))) (b : List UInt8) : Option (List (List UInt8)) := if isBnd b = true ∧ ps ≠ [] ∧ okParts ps b = true then some (joinsP ps b) else none
theorem splG_lines (b : List UInt8) : ∀ (p cur ls : List (List UInt8)), (∀ l ∈ p, looksB b l = false) → splG b cur (p ++ ls) = splG b (cur ++ p) ls
  | [], cur, ls, _ => by simp
  | l :: p, cur, ls, h => by
    obtain ⟨h1, h2⟩ := looks_f.1 (h l (by simp))
    rw [List.cons_append, splG, if_neg h1, if_neg h2, splG_lines b p (cur ++ [l]) ls (fun x hx => h x (by simp [hx]))]
    simp
theorem splG_join (b : List UInt8) : ∀ (ps : List (List (List UInt8))) (cur : List (List UInt8)), okParts ps b = true → splG b cur (joinsP ps b) = some (cur :: ps)
  | [], cur, _ => by
    unfold joinsP
    rw [List.flatMap_nil, List.nil_append, splG, if_neg (fun h => beg_ne_end b h.symm), if_pos rfl]
  | p :: ps, cur, h => by
    unfold okParts at h
    rw [List.all_cons, Bool.and_eq_true] at h
    have hp : ∀ l ∈ p, looksB b l = false := fun l hl => by have := List.all_eq_true.1 h.1 l hl; simpa using this
    have ih := splG_join b ps p h.2
    have e : joinsP (p :: ps) b = begL b :: (p ++ joinsP ps b) := by unfold joinsP; simp
    rw [e, splG, if_pos rfl, splG_lines b p [] _ hp, List.nil_append, ih]; rfl
theorem joinP_some {ps : List (List (List UInt8))} {b : List UInt8} {ls : List (List UInt8)} (h : joinP ps b = some ls) : isBnd b = true ∧ ps ≠ [] ∧ okParts ps b = true ∧ ls = joinsP ps b := by
  unfold joinP at h
  split at h
  · rename_i c; injection h with h; exact ⟨c.1, c.2.1, c.2.2, h.symm⟩
  · cases h
/-- Parts are split again. -/
theorem split_joinP {ps : List (List (List UInt8))} {b : List UInt8} {ls : List (List UInt8)} (h : joinP ps b = some ls) : splitP ls b = some ps := by
  obtain ⟨hb, hne, hok, rfl⟩ := joinP_some h
  match ps, hne with
  | p :: ps, _ =>
    unfold okParts at hok
    rw [List.all_cons, Bool.and_eq_true] at hok
    have hp : ∀ l ∈ p, looksB b l = false := fun l hl => by have := List.all_eq_true.1 hok.1 l hl; simpa using this
    have e : joinsP (p :: ps) b = begL b :: (p ++ joinsP ps b) := by unfold joinsP; simp
    unfold splitP
    rw [if_pos hb, e, splB, if_pos rfl, splG_lines b p [] _ hp, List.nil_append]
    exact splG_join b ps p hok.2
theorem splG_ok (b : List UInt8) : ∀ (ls cur : List (List UInt8)) (ps : List (List (List UInt8))), (∀ l ∈ cur, looksB b l = false) → splG b cur ls = some ps → ps ≠ [] ∧ okParts ps b = true
  | [], cur, ps, _, h => by simp [splG] at h
  | l :: ls, cur, ps, hc, h => by
    rw [splG] at h
    by_cases h1 : l = begL b
    · rw [if_pos h1] at h
      obtain ⟨qs, hq, rfl⟩ := Option.map_eq_some_iff.1 h
      obtain ⟨_, h2⟩ := splG_ok b ls [] qs (fun x hx => by cases hx) hq
      refine ⟨by simp, ?_⟩
      unfold okParts at h2 ⊢
      rw [List.all_cons, Bool.and_eq_true]
      exact ⟨List.all_eq_true.2 fun x hx => by simp [hc x hx], h2⟩
    · rw [if_neg h1] at h
      by_cases h2 : l = endL b
      · rw [if_pos h2] at h
        injection h with h
        subst h
        refine ⟨by simp, ?_⟩
        unfold okParts
        rw [List.all_cons, List.all_nil, Bool.and_true]
        exact List.all_eq_true.2 fun x hx => by simp [hc x hx]
      · rw [if_neg h2] at h
        refine splG_ok b ls (cur ++ [l]) ps (fun x hx => ?_) h
        rcases List.mem_append.1 hx with hx | hx
        · exact hc x hx
        · rw [List.mem_singleton.1 hx]; exact looks_f.2 ⟨h1, h2⟩
theorem splB_ok (b : List UInt8) : ∀ (ls : List (List UInt8)) (ps : List (List (List UInt8))), splB b ls = some ps → ps ≠ [] ∧ okParts ps b = true
  | [], ps, h => by simp [splB] at h
  | l :: ls, ps, h => by
    rw [splB] at h
    by_cases h1 : l = begL b
    · rw [if_pos h1] at h; exact splG_ok b ls [] ps (fun x hx => by cases hx) h
    · rw [if_neg h1] at h; exact splB_ok b ls ps h
/-- Splitting is settled: what is split is joined, and split again. -/
theorem join_splitP {ps : List (List (List UInt8))} {b : List UInt8} {ls : List (List UInt8)} (h : splitP ls b = some ps) : joinP ps b = some (joinsP ps b) := by
  unfold splitP at h
  split at h
  · rename_i hb
    obtain ⟨h1, h2⟩ := splB_ok b ls ps h
    unfold joinP; rw [if_pos ⟨hb, h1, h2⟩]
  · cases h
/-- Lines ahead of the first beginning are left out. -/
theorem splB_skip (b : List UInt8) : ∀ (p ls : List (List UInt8)), (∀ l ∈ p, l ≠ begL b) → splB b (p ++ ls) = splB b ls
  | [], ls, _ => rfl
  | l :: p, ls, h => by rw [List.cons_append, splB, if_neg (h l (by simp)), splB_skip b p ls (fun x hx => h x (by simp [hx]))]
theorem joinsP_len (ps : List (List (List UInt8))) (b : List UInt8) : (joinsP ps b).length = (ps.map fun p => p.length + 1).sum + 1 := by
  unfold joinsP
  rw [List.length_append, List.length_singleton, List.length_flatMap]
  simp
end Go.Proofs.YtbfjbabpeigloabDoor
end
