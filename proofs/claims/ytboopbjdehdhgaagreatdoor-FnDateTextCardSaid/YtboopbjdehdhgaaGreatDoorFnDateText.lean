import Derived.Test.YtboopbjdehdhgaaGreatDoorDraw
import Derived.Deep.RegionWith
import Derived.IntWalk
import Derived.Test.YtboopbjdehdhgaaGreatDoorDateS4
import Derived.Test.YtboopbjdehdhgaaGreatDoorRead
import Derived.Test.YtboopbjdehdhgaaGreatDoorLaw0f
import Derived.Test.YtboopbjdehdhgaaGreatDoorRdP
import Derived.Deep.DeepWitnessRowRef
import Derived.Test.YtboopbjdehdhgaaGreatDoorFmtT
import Derived.Test.YtboopbjdehdhgaaGreatDoorDpP
section
namespace Go.Proofs.YtboopbjdehdhgaaGreatDoor
open Go.RowKit

set_option maxRecDepth 100000 in
set_option maxHeartbeats 1000000 in
theorem l1Bend_any (R p b off n c M : Nat) (s : ByteArray) (w : World) (hr : Rd w R p) (hp : p ≤ 999999000) (hb : b ≠ R) (hn : 0 < n) (hn2 : n ≤ 1000000) (hss : s.size ≤ 1000000) (hs : Strs w b off n M) (hM : M ≤ 1000000) :
    Calls Tryz.prog 33 #[.pointer (some ⟨R, 0, none⟩), .string s, .slice (some ⟨b, off, none⟩) n c] w (Drawn R p 4 (s.size + M) w) := by
  by_cases h0 : s.size = 0
  · have e0 : ((s.size : Int) == 0) = true := by simpa using h0
    have H0 := Lib.hid h0
    clear h0
    go_enter Tryz.func33, Tryz.ntmps33
    go_wp2
    go_ret
    exact ⟨s, p, rfl, by omega, by omega, by omega, hr, Touch.refl _ _⟩
  · have e0 : ((s.size : Int) == 0) = false := by simpa using h0
    go_enter Tryz.func33, Tryz.ntmps33
    go_wp2_with fail
    refine (pick_any R p 2 w hr (by omega) (by omega)).mono ?_
    rintro e w1 ⟨k, rfl, hk, hr1, ht1⟩
    by_cases hk0 : k = 0
    · subst hk0
      go_wp2
      go_ret
      exact ⟨s, p + 1, rfl, by omega, by omega, by omega, hr1, ht1⟩
    · have ek : ((k : Int) == 0) = false := by simpa using hk0
      go_wp2_with fail
      refine (pick_any R (p + 1) s.size w1 hr1 (by omega) (by omega)).mono ?_
      rintro e w2 ⟨j, rfl, hj, hr2, ht2⟩
      have hj' : j < s.size := by omega
      clear hj hk
      go_wp2_with fail
      have hs2 := (hs.touch ht1 hb).touch ht2 hb
      go_region_with (first | (go_at_call 32; refine (of_any R (p + 1 + 1) b off n c M _ ?_ ?_ hb hn hn2 ?_).mono ?_; exact hr2; omega; exact hs2; rintro e w3 ⟨t, p3, rfl, g2, g3, g4, g5, g6⟩) | (go_at_call 31; refine (pick_any R p3 2 _ ?_ ?_ ?_).mono ?_; exact g5; omega; omega; rintro e w4 ⟨k4, rfl, q1, q2, q3⟩; have q4 : (0 : Int) ≤ (j : Int) + k4 ∧ (j : Int) + k4 ≤ s.size := (by omega); have q5 : (0 : Int) ≤ (j : Int) + k4 := q4.1; have q6 : (j : Int) + k4 ≤ s.size := q4.2; clear q1 q4; have q7 : IntKind.i64.wrap ((j : Int) + k4) = (j : Int) + k4 := IntWalk.i64_in _ (by omega)))
      all_goals go_wp2
      all_goals go_ret
      all_goals exact ⟨_, p3 + 1, rfl, by simp [ByteArray.size_append, ByteArray.size_extract]; omega, by omega, by omega, q2, ht1.trans (ht2.trans ((Touch.refl R w2).drew.trans (g6.trans q3)))⟩
theorem bend_lit (R p n M : Nat) (C : Array Value) (t : TypeId) (s : ByteArray) (w : World) (hr : Rd w R p) (hp : p ≤ 999999000) (hn : 0 < n) (hn2 : n ≤ 1000000) (hss : s.size ≤ 1000000) (hM : M ≤ 1000000) (h : litOk C n M = true) :
    Calls Tryz.prog 33 #[.pointer (some ⟨R, 0, none⟩), .string s, .slice (some ⟨w.heap.size, 0, none⟩) n n] (w.alloc (.cells C t)) (Drawn R p 4 (s.size + M) w) := by
  have hb : Below w.heap.size w (w.alloc (.cells C t)) := (Below.refl _ _).alloc (Nat.le_refl _) _
  refine (l1Bend_any R p w.heap.size 0 n n M s _ (hr.below hb) hp (by have := hr.lt; omega) hn hn2 hss (strs_new w C t n M h) hM).mono ?_
  rintro e w' ⟨s', p', h1, h2, h3, h4, h5, h6⟩
  exact ⟨s', p', h1, h2, h3, h4, h5, (Touch.of_below hb).trans h6⟩
end Go.Proofs.YtboopbjdehdhgaaGreatDoor
end

section
namespace Go.Proofs.YtboopbjdehdhgaaGreatDoor
open Go.RowKit

/-- The numbers of a date are small. -/
def Sm (n : Int) : Prop := -1000000 ≤ n ∧ n ≤ 1000000
def SmallD (D : Dat) : Prop := Sm D.y ∧ Sm D.mo ∧ Sm D.d ∧ Sm D.h ∧ Sm D.mi ∧ Sm D.s ∧ Sm D.z
theorem small_ok {D : Dat} (h : OkDate D) : SmallD D := by
  obtain ⟨⟨⟨h1, h2, h3, h4, h5, h6⟩, a2, a3, a4, a5⟩, _⟩ := h
  have := dim_le D.y D.mo
  unfold SmallD Sm; omega
theorem small_dateR (o : Int × Int) : SmallD (dateR o.1 o.2) := by
  cases h : dateO o.1 o.2 with
  | none => rw [dateR_none h]; unfold SmallD Sm dat0; simp only; omega
  | some D => rw [dateR_some h]; exact small_ok (dateO_some.1 h).1
theorem touch_new {R b i : Nat} {w w' : World} (h : Touch R w w') (hb : w.heap.size ≤ b) (v : Value) : Touch R w (w'.setCell ⟨b, i, none⟩ v) :=
  ⟨h.os, h.tape, h.output, by have := h.size; simpa [World.setCell] using this, fun k hk hr => by rw [Below.heap_setCell _ _ _ _ (by show k ≠ b; omega)]; exact h.block k hk hr⟩
theorem below_of_open {w w1 w2 : World} {R : Nat} (hb : Below w.heap.size w w1) (hR : w.heap.size ≤ R) (t : Touch R w1 w2) : Below w.heap.size w w2 :=
  hb.trans (t.below hR hb.size)
theorem laid7_touch {B R : Nat} {D : Dat} {w w' : World} (h : Laid7 B D w) (t : Touch R w w') (hr : B ≠ R) : Laid7 B D w' := by
  have hl := lt_of_cell h.1
  unfold Laid7 at h ⊢
  simp only [t.cell hl hr]; exact h
/-- Two new blocks, behind whatever the reader has done. -/
theorem fresh2D {R : Nat} {w w' : World} {C D : Array Value} {T : TypeId} (hR : R < w.heap.size) (t : Touch R ((w.alloc (.cells C T)).alloc (.cells D T)) w') :
    (∀ i, w'.cell? ⟨w.heap.size, i, none⟩ = C[i]?) ∧ (∀ i, w'.cell? ⟨w.heap.size + 1, i, none⟩ = D[i]?) ∧ (∀ i, w'.frozen? ⟨w.heap.size, i, none⟩ = false) ∧ (∀ i, w'.frozen? ⟨w.heap.size + 1, i, none⟩ = false) := by
  refine ⟨fun i => ?_, fun i => ?_, fun i => ?_, fun i => ?_⟩
  · rw [t.cell (by simp; omega) (by omega), World.cell?_alloc_lt _ _ _ (by simp), World.cell?_alloc_at _ _ _ _ rfl]
  · rw [t.cell (by simp) (by omega), World.cell?_alloc_at _ _ _ _ (by simp)]
  · rw [t.fz (by simp; omega) (by omega), below_fz ((Below.refl _ _).alloc (Nat.le_refl _) _) (by simp), World.frozen?_alloc_at _ _ _ _ rfl]
  · rw [t.fz (by simp) (by omega), World.frozen?_alloc_at _ _ _ _ (by simp)]
theorem num_lit (R p n N : Nat) (xs : List Int) (t : TypeId) (w : World) (hN : w.heap.size = N) (hr : Rd w R p) (hp : p ≤ 1000000000) (hn : xs.length = n) (h0 : 0 < n) (h1 : n ≤ 1000000) :
    Calls Tryz.prog 67 #[.pointer (some ⟨R, 0, none⟩), .slice (some ⟨N, 0, none⟩) n n] (w.alloc (.cells (xs.map fun x => Value.int .i64 x).toArray t)) fun e w' => ∃ x, x ∈ xs ∧ e = .returned (.int .i64 x) ∧ Rd w' R (p + 1) ∧ Touch R w w' := by
  subst hN
  have hb : Below w.heap.size w (w.alloc (.cells (xs.map fun x => Value.int .i64 x).toArray t)) := (Below.refl _ _).alloc (Nat.le_refl _) _
  refine (num_any R p w.heap.size 0 n n xs _ (hr.below hb) hp (by have := hr.lt; omega) (by simp) h0 h1 hn (fun i hi => ?_)).mono ?_
  · rw [World.cell?_alloc_at _ _ _ _ rfl, Nat.zero_add]; simp [hi]
  · rintro e w' ⟨x, h2, h3, h4, h5⟩
    exact ⟨x, h2, h3, h4, (Touch.of_below hb).trans h5⟩
/-- A date drawn. -/
def DrawnD (R p c : Nat) (w : World) (e : Ending) (w' : World) : Prop := ∃ (D : Dat) (p' : Nat), e = .returned (datV D) ∧ SmallD D ∧ p ≤ p' ∧ p' ≤ p + c ∧ Rd w' R p' ∧ Touch R w w'
theorem drawnD_mk {R p c p' : Nat} {w w' : World} {y m d h mi s z : Int} (hs : SmallD ⟨y, m, d, h, mi, s, z⟩) (h1 : p ≤ p') (h2 : p' ≤ p + c) (hr : Rd w' R p') (ht : Touch R w w') : DrawnD R p c w (.returned (.agg #[.int .i64 y, .int .i64 m, .int .i64 d, .int .i64 h, .int .i64 mi, .int .i64 s, .int .i64 z])) w' :=
  ⟨⟨y, m, d, h, mi, s, z⟩, p', rfl, hs, h1, h2, hr, ht⟩
set_option maxRecDepth 100000 in
set_option maxHeartbeats 1000000 in
theorem l4Draw_any (R p : Nat) (w : World) (hr : Rd w R p) (hp : p ≤ 999999000) : Calls Tryz.prog 34 #[.pointer (some ⟨R, 0, none⟩)] w (DrawnD R p 3 w) := by
  have hRl := hr.lt
  have hb0 := laid7_below 0 0 0 0 0 0 0 24 w
  have hz0 := laid7_new 0 0 0 0 0 0 0 24 w
  have hf0 : ∀ i, (w.alloc (.cells #[.int .i64 0, .int .i64 0, .int .i64 0, .int .i64 0, .int .i64 0, .int .i64 0, .int .i64 0] 24)).frozen? ⟨w.heap.size, i, none⟩ = false := fun i => by rw [World.frozen?_alloc_at _ _ _ _ rfl]
  have hsz0 : w.heap.size < (w.alloc (.cells #[.int .i64 0, .int .i64 0, .int .i64 0, .int .i64 0, .int .i64 0, .int .i64 0, .int .i64 0] 24)).heap.size := by simp
  have hRB : w.heap.size ≠ R := by omega
  have HZ := Lib.hid hz0
  have HF := Lib.hid hf0
  have HB := Lib.hid hb0
  clear hz0 hf0
  go_enter Tryz.func34, Tryz.ntmps34
  go_wp2_with fail
  refine (num_lit R p 7 _ [1767596889, 951782400, 86400, 1000000000, 4102358400, 1709164800, 1709251199] _ _ (by simp) (hr.below hb0) (by omega) rfl (by omega) (by omega)).mono ?_
  rintro e w1 ⟨n1, m1, rfl, hr1, ht1⟩
  have hn1 : 0 ≤ n1 ∧ n1 ≤ 5000000000 := by simp at m1; omega
  clear m1
  go_wp2_with fail
  refine (pick_any R (p + 1) 100000 w1 hr1 (by omega) (by omega)).mono ?_
  rintro e w2 ⟨k, rfl, hk, hr2, ht2⟩
  have hk2 : (k : Int) < 100000 := by omega
  clear hk
  go_wp2_with fail
  refine (num_lit R (p + 1 + 1) 7 _ [0, 60, -480, 330, 0, 840, -720] _ _ rfl hr2 (by omega) rfl (by omega) (by omega)).mono ?_
  rintro e w3 ⟨n2, m2, rfl, hr3, ht3⟩
  go_wp2_with fail
  refine (dateOfS_any (n1 + k) n2 w3).mono ?_
  rintro e w4 ⟨rfl, hb4⟩
  have hsm := small_dateR (n1 + k, n2)
  unfold dateR at hsm
  simp only at hsm
  obtain ⟨e0, e1, e2, e3, e4, e5, e6, hE⟩ : ∃ e0 e1 e2 e3 e4 e5 e6, (dateO (n1 + k) n2).getD dat0 = ⟨e0, e1, e2, e3, e4, e5, e6⟩ := ⟨_, _, _, _, _, _, _, rfl⟩
  rw [hE] at hsm
  rw [hE]
  have HSM := Lib.hid hsm
  clear hE hsm m2
  unfold datV
  have ht14 := (ht1.trans (ht2.trans ht3)).trans (Touch.of_below hb4)
  have hr4 := hr3.below hb4
  have hzz := laid7_touch HZ.out ht14 hRB
  have hff : ∀ i, w4.frozen? ⟨w.heap.size, i, none⟩ = false := fun i => by rw [ht14.fz hsz0 hRB]; exact HF.out i
  have HTW := Lib.hid ((Touch.of_below (R := R) HB.out).trans ht14)
  have HR4 := Lib.hid hr4
  obtain ⟨z0, z1, z2, z3, z4, z5, z6⟩ := hzz
  simp only at z0 z1 z2 z3 z4 z5 z6
  have g0 := hff 0
  have g1 := hff 1
  have g2 := hff 2
  have g3 := hff 3
  have g4 := hff 4
  have g5 := hff 5
  have g6 := hff 6
  have hlt : w.heap.size < w4.heap.size := lt_of_cell z0
  have hne : w.heap.size ≠ w4.heap.size := by omega
  clear hff hb0 hr1 hr2 hr3 hr4 ht1 ht2 ht3 ht14 hb4 hsz0
  go_wp2
  have ha : ∀ (X : World) (o : Obj) (i : Nat), X.heap.size = w4.heap.size → (X.alloc o).cell? ⟨w.heap.size, i, none⟩ = X.cell? ⟨w.heap.size, i, none⟩ := fun X o i h => World.cell?_alloc_old _ _ _ (by rw [h]; exact hne)
  refine bodyPost_ret (v := .agg #[.int .i64 e0, .int .i64 e1, .int .i64 e2, .int .i64 e3, .int .i64 e4, .int .i64 e5, .int .i64 e6]) (by simp [results, Tryz.results34, go_sem, ha, z0, z1, z2, z3, z4, z5, z6]) rfl (drawnD_mk HSM.out (p' := p + 1 + 1 + 1) (by omega) (by omega) ?_ ?_)
  · refine HR4.out.belowB (B := w.heap.size) ?_ hRl
    refine Below.alloc ?_ (by simp; omega) _
    iterate 7 refine Below.setCell ?_ (by simp) _
    exact Below.refl _ _
  · refine Touch.alloc ?_ _
    iterate 7 refine touch_new ?_ (by simp) _
    exact HTW.out
set_option maxRecDepth 100000 in
set_option maxHeartbeats 4000000 in
theorem l4Wrong_any (R p : Nat) (y m d h mi s z : Int) (w : World) (hr : Rd w R p) (hp : p ≤ 999999000) (hs : SmallD ⟨y, m, d, h, mi, s, z⟩) :
    Calls Tryz.prog 43 #[.pointer (some ⟨R, 0, none⟩), .agg #[.int .i64 y, .int .i64 m, .int .i64 d, .int .i64 h, .int .i64 mi, .int .i64 s, .int .i64 z]] w (DrawnD R p 2 w) := by
  have hRl := hr.lt
  have HS : Hid (Sm y ∧ Sm m ∧ Sm d ∧ Sm h ∧ Sm mi ∧ Sm s ∧ Sm z) := hs
  have hb0 := nx (laid7_below y m d h mi s z 24 w) (laid7_below 0 0 0 0 0 0 0 24 (w.alloc (.cells #[.int .i64 y, .int .i64 m, .int .i64 d, .int .i64 h, .int .i64 mi, .int .i64 s, .int .i64 z] 24)))
  have HB := Lib.hid hb0
  clear hs
  go_enter Tryz.func43, Tryz.ntmps43
  go_wp2_with fail
  refine (pick_any R p 24 _ (hr.below hb0) (by omega) (by omega)).mono ?_
  rintro e w1 ⟨k, rfl, hk, hr1, ht1⟩
  have htw1 := (Touch.of_below (R := R) hb0).trans ht1
  have HT1 := Lib.hid htw1
  obtain ⟨c10, c11, f10, f11⟩ := fresh2D hRl ht1
  have hsz1 := ht1.size
  simp at hsz1
  have hRB : w.heap.size ≠ R := by omega
  have hRB2 : w.heap.size + 1 ≠ R := by omega
  have hlt0 : w.heap.size < w1.heap.size := by omega
  have hlt1 : w.heap.size + 1 < w1.heap.size := by omega
  clear hb0 htw1
  by_cases k0 : k = 0
  · have e0 : ((k : Int) == 0) = true := by rw [k0]; rfl
    clear k0 hk
    go_wp2_with fail
    refine (num_lit R (p + 1) 5 _ [0, 31, 32, 29, 30] _ w1 rfl hr1 (by omega) rfl (by omega) (by omega)).mono ?_
    rintro e w2 ⟨x, hx, rfl, hr2, ht2⟩
    have hsx : Sm x := by simp at hx; unfold Sm; omega
    have HSX := Lib.hid hsx
    clear hx hsx c10 c11 f10 f11
    obtain ⟨c20, c21, f20, f21⟩ := fresh2D hRl (ht1.trans ht2)
    have hsz2 := ht2.size
    have hlt02 : w.heap.size < w2.heap.size := by omega
    have hlt12 : w.heap.size + 1 < w2.heap.size := by omega
    have HT2 := Lib.hid (HT1.out.trans ht2)
    go_wp2
    refine bodyPost_ret (v := .agg #[.int .i64 y, .int .i64 m, .int .i64 x, .int .i64 h, .int .i64 mi, .int .i64 s, .int .i64 z]) (by simp [results, Tryz.results43, go_sem, c21]) rfl (drawnD_mk (p' := p + 1 + 1) (by obtain ⟨a0, a1, a2, a3, a4, a5, a6⟩ := HS.out; have := HSX.out; exact ⟨by assumption, by assumption, by assumption, by assumption, by assumption, by assumption, by assumption⟩) (by omega) (by omega) ?_ ?_)
    · refine hr2.belowB (B := w.heap.size) ?_ hRl
      iterate 8 refine Below.setCell ?_ (by simp) _
      exact Below.refl _ _
    · iterate 8 refine touch_new ?_ (by simp) _
      exact HT2.out
  have e0 : ((k : Int) == 0) = false := by rw [beq_eq_false_iff_ne]; omega
  by_cases k1 : k = 1
  · have e1 : ((k : Int) == 1) = true := by rw [k1]; rfl
    clear k0 k1 hk
    go_wp2_with fail
    refine (num_lit R (p + 1) 3 _ [0, 13, 2] _ w1 rfl hr1 (by omega) rfl (by omega) (by omega)).mono ?_
    rintro e w2 ⟨x, hx, rfl, hr2, ht2⟩
    have hsx : Sm x := by simp at hx; unfold Sm; omega
    have HSX := Lib.hid hsx
    clear hx hsx c10 c11 f10 f11
    obtain ⟨c20, c21, f20, f21⟩ := fresh2D hRl (ht1.trans ht2)
    have hsz2 := ht2.size
    have hlt02 : w.heap.size < w2.heap.size := by omega
    have hlt12 : w.heap.size + 1 < w2.heap.size := by omega
    have HT2 := Lib.hid (HT1.out.trans ht2)
    go_wp2
    refine bodyPost_ret (v := .agg #[.int .i64 y, .int .i64 x, .int .i64 d, .int .i64 h, .int .i64 mi, .int .i64 s, .int .i64 z]) (by simp [results, Tryz.results43, go_sem, c21]) rfl (drawnD_mk (p' := p + 1 + 1) (by obtain ⟨a0, a1, a2, a3, a4, a5, a6⟩ := HS.out; have := HSX.out; exact ⟨by assumption, by assumption, by assumption, by assumption, by assumption, by assumption, by assumption⟩) (by omega) (by omega) ?_ ?_)
    · refine hr2.belowB (B := w.heap.size) ?_ hRl
      iterate 8 refine Below.setCell ?_ (by simp) _
      exact Below.refl _ _
    · iterate 8 refine touch_new ?_ (by simp) _
      exact HT2.out
  have e1 : ((k : Int) == 1) = false := by rw [beq_eq_false_iff_ne]; omega
  by_cases k2 : k = 2
  · have e2 : ((k : Int) == 2) = true := by rw [k2]; rfl
    clear k0 k1 k2 hk
    go_wp2_with fail
    refine (num_lit R (p + 1) 4 _ [1969, 2100, 1970, 2099] _ w1 rfl hr1 (by omega) rfl (by omega) (by omega)).mono ?_
    rintro e w2 ⟨x, hx, rfl, hr2, ht2⟩
    have hsx : Sm x := by simp at hx; unfold Sm; omega
    have HSX := Lib.hid hsx
    clear hx hsx c10 c11 f10 f11
    obtain ⟨c20, c21, f20, f21⟩ := fresh2D hRl (ht1.trans ht2)
    have hsz2 := ht2.size
    have hlt02 : w.heap.size < w2.heap.size := by omega
    have hlt12 : w.heap.size + 1 < w2.heap.size := by omega
    have HT2 := Lib.hid (HT1.out.trans ht2)
    go_wp2
    refine bodyPost_ret (v := .agg #[.int .i64 x, .int .i64 m, .int .i64 d, .int .i64 h, .int .i64 mi, .int .i64 s, .int .i64 z]) (by simp [results, Tryz.results43, go_sem, c21]) rfl (drawnD_mk (p' := p + 1 + 1) (by obtain ⟨a0, a1, a2, a3, a4, a5, a6⟩ := HS.out; have := HSX.out; exact ⟨by assumption, by assumption, by assumption, by assumption, by assumption, by assumption, by assumption⟩) (by omega) (by omega) ?_ ?_)
    · refine hr2.belowB (B := w.heap.size) ?_ hRl
      iterate 8 refine Below.setCell ?_ (by simp) _
      exact Below.refl _ _
    · iterate 8 refine touch_new ?_ (by simp) _
      exact HT2.out
  have e2 : ((k : Int) == 2) = false := by rw [beq_eq_false_iff_ne]; omega
  by_cases k3 : k = 3
  · have e3 : ((k : Int) == 3) = true := by rw [k3]; rfl
    clear k0 k1 k2 k3 hk
    go_wp2_with fail
    refine (num_lit R (p + 1) 4 _ [24, -1, 0, 23] _ w1 rfl hr1 (by omega) rfl (by omega) (by omega)).mono ?_
    rintro e w2 ⟨x, hx, rfl, hr2, ht2⟩
    have hsx : Sm x := by simp at hx; unfold Sm; omega
    have HSX := Lib.hid hsx
    clear hx hsx c10 c11 f10 f11
    obtain ⟨c20, c21, f20, f21⟩ := fresh2D hRl (ht1.trans ht2)
    have hsz2 := ht2.size
    have hlt02 : w.heap.size < w2.heap.size := by omega
    have hlt12 : w.heap.size + 1 < w2.heap.size := by omega
    have HT2 := Lib.hid (HT1.out.trans ht2)
    go_wp2
    refine bodyPost_ret (v := .agg #[.int .i64 y, .int .i64 m, .int .i64 d, .int .i64 x, .int .i64 mi, .int .i64 s, .int .i64 z]) (by simp [results, Tryz.results43, go_sem, c21]) rfl (drawnD_mk (p' := p + 1 + 1) (by obtain ⟨a0, a1, a2, a3, a4, a5, a6⟩ := HS.out; have := HSX.out; exact ⟨by assumption, by assumption, by assumption, by assumption, by assumption, by assumption, by assumption⟩) (by omega) (by omega) ?_ ?_)
    · refine hr2.belowB (B := w.heap.size) ?_ hRl
      iterate 8 refine Below.setCell ?_ (by simp) _
      exact Below.refl _ _
    · iterate 8 refine touch_new ?_ (by simp) _
      exact HT2.out
  have e3 : ((k : Int) == 3) = false := by rw [beq_eq_false_iff_ne]; omega
  by_cases k4 : k = 4
  · have e4 : ((k : Int) == 4) = true := by rw [k4]; rfl
    clear k0 k1 k2 k3 k4 hk
    go_wp2_with fail
    refine (num_lit R (p + 1) 3 _ [-721, 841, 840] _ w1 rfl hr1 (by omega) rfl (by omega) (by omega)).mono ?_
    rintro e w2 ⟨x, hx, rfl, hr2, ht2⟩
    have hsx : Sm x := by simp at hx; unfold Sm; omega
    have HSX := Lib.hid hsx
    clear hx hsx c10 c11 f10 f11
    obtain ⟨c20, c21, f20, f21⟩ := fresh2D hRl (ht1.trans ht2)
    have hsz2 := ht2.size
    have hlt02 : w.heap.size < w2.heap.size := by omega
    have hlt12 : w.heap.size + 1 < w2.heap.size := by omega
    have HT2 := Lib.hid (HT1.out.trans ht2)
    go_wp2
    refine bodyPost_ret (v := .agg #[.int .i64 y, .int .i64 m, .int .i64 d, .int .i64 h, .int .i64 mi, .int .i64 s, .int .i64 x]) (by simp [results, Tryz.results43, go_sem, c21]) rfl (drawnD_mk (p' := p + 1 + 1) (by obtain ⟨a0, a1, a2, a3, a4, a5, a6⟩ := HS.out; have := HSX.out; exact ⟨by assumption, by assumption, by assumption, by assumption, by assumption, by assumption, by assumption⟩) (by omega) (by omega) ?_ ?_)
    · refine hr2.belowB (B := w.heap.size) ?_ hRl
      iterate 8 refine Below.setCell ?_ (by simp) _
      exact Below.refl _ _
    · iterate 8 refine touch_new ?_ (by simp) _
      exact HT2.out
  have e4 : ((k : Int) == 4) = false := by rw [beq_eq_false_iff_ne]; omega
  by_cases k5 : k = 5
  · have e5 : ((k : Int) == 5) = true := by rw [k5]; rfl
    clear k0 k1 k2 k3 k4 k5 hk
    go_wp2_with fail
    refine (num_lit R (p + 1) 2 _ [60, -1] _ w1 rfl hr1 (by omega) rfl (by omega) (by omega)).mono ?_
    rintro e w2 ⟨x, hx, rfl, hr2, ht2⟩
    have hsx : Sm x := by simp at hx; unfold Sm; omega
    have HSX := Lib.hid hsx
    clear hx hsx c10 c11 f10 f11
    obtain ⟨c20, c21, f20, f21⟩ := fresh2D hRl (ht1.trans ht2)
    have hsz2 := ht2.size
    have hlt02 : w.heap.size < w2.heap.size := by omega
    have hlt12 : w.heap.size + 1 < w2.heap.size := by omega
    have HT2 := Lib.hid (HT1.out.trans ht2)
    go_wp2
    refine bodyPost_ret (v := .agg #[.int .i64 y, .int .i64 m, .int .i64 d, .int .i64 h, .int .i64 mi, .int .i64 x, .int .i64 z]) (by simp [results, Tryz.results43, go_sem, c21]) rfl (drawnD_mk (p' := p + 1 + 1) (by obtain ⟨a0, a1, a2, a3, a4, a5, a6⟩ := HS.out; have := HSX.out; exact ⟨by assumption, by assumption, by assumption, by assumption, by assumption, by assumption, by assumption⟩) (by omega) (by omega) ?_ ?_)
    · refine hr2.belowB (B := w.heap.size) ?_ hRl
      iterate 8 refine Below.setCell ?_ (by simp) _
      exact Below.refl _ _
    · iterate 8 refine touch_new ?_ (by simp) _
      exact HT2.out
  have e5 : ((k : Int) == 5) = false := by rw [beq_eq_false_iff_ne]; omega
  clear k0 k1 k2 k3 k4 k5 hk
  go_wp2
  refine bodyPost_ret (v := .agg #[.int .i64 y, .int .i64 m, .int .i64 d, .int .i64 h, .int .i64 mi, .int .i64 s, .int .i64 z]) (by simp [results, Tryz.results43, go_sem, c11]) rfl (drawnD_mk (p' := p + 1) HS.out (by omega) (by omega) ?_ ?_)
  · refine hr1.belowB (B := w.heap.size) ?_ hRl
    iterate 7 refine Below.setCell ?_ (by simp) _
    exact Below.refl _ _
  · iterate 7 refine touch_new ?_ (by simp) _
    exact HT1.out
theorem l4Wrong_dat (R p : Nat) (D : Dat) (w : World) (hr : Rd w R p) (hp : p ≤ 999999000) (hs : SmallD D) :
    Calls Tryz.prog 43 #[.pointer (some ⟨R, 0, none⟩), datV D] w (DrawnD R p 2 w) := l4Wrong_any R p D.y D.mo D.d D.h D.mi D.s D.z w hr hp hs
end Go.Proofs.YtboopbjdehdhgaaGreatDoor
end

section
namespace Go.Proofs.YtboopbjdehdhgaaGreatDoor
open Go.RowKit

/-- A date is drawn; nothing that was there turns. -/
def DrawnDat (w : World) (e : Ending) (w' : World) : Prop := ∃ D : Dat, e = .returned (datV D) ∧ SmallD D ∧ Below w.heap.size w w'
theorem drawnDat_mk {w w' : World} {y m d h mi s z : Int} (hs : SmallD ⟨y, m, d, h, mi, s, z⟩) (hb : Below w.heap.size w w') : DrawnDat w (.returned (.agg #[.int .i64 y, .int .i64 m, .int .i64 d, .int .i64 h, .int .i64 mi, .int .i64 s, .int .i64 z])) w' := ⟨⟨y, m, d, h, mi, s, z⟩, rfl, hs, hb⟩
/-- Two numbers are drawn. -/
def DrawnII (w : World) (e : Ending) (w' : World) : Prop := ∃ n z : Int, e = .returned (.tuple #[.int .i64 n, .int .i64 z]) ∧ (-1 ≤ n ∧ n ≤ 4102444800) ∧ (-1000000 ≤ z ∧ z ≤ 1000000) ∧ Below w.heap.size w w'
/-- A date and a number. -/
def DrawnDI (w : World) (e : Ending) (w' : World) : Prop := ∃ (D : Dat) (z : Int), e = .returned (.tuple #[datV D, .int .i64 z]) ∧ SmallD D ∧ (-1000000 ≤ z ∧ z ≤ 1000000) ∧ Below w.heap.size w w'
theorem drawnDI_mk {w w' : World} {y m d h mi s z n : Int} (hs : SmallD ⟨y, m, d, h, mi, s, z⟩) (hn : -1000000 ≤ n ∧ n ≤ 1000000) (hb : Below w.heap.size w w') : DrawnDI w (.returned (.tuple #[.agg #[.int .i64 y, .int .i64 m, .int .i64 d, .int .i64 h, .int .i64 mi, .int .i64 s, .int .i64 z], .int .i64 n])) w' := ⟨⟨y, m, d, h, mi, s, z⟩, n, rfl, hs, hn, hb⟩
set_option maxRecDepth 100000 in
set_option maxHeartbeats 1000000 in
theorem drawDateValid_any (a : Option Addr) (n c : Nat) (w : World) (hc : Code w a n) (hnc : n ≤ c) (hm : c ≤ maxLen) :
    Calls Tryz.prog 12 #[.slice a n c] w (DrawnDat w) := by
  have hb0 := laid7_below 0 0 0 0 0 0 0 24 w
  go_enter Tryz.func12, Tryz.ntmps12
  go_wp2_with fail
  refine (open_any a n c _ (hc.below hb0) hnc hm).mono ?_
  rintro e w1 ⟨R, rfl, hR, hr1, hb1⟩
  go_wp2_with fail
  refine (l4Draw_any R 0 w1 hr1 (by omega)).mono ?_
  rintro e w2 ⟨x2, p2, rfl, g2, f2, k2, hr2, ht2⟩
  go_wp2_with fail
  refine (l4Wrong_dat R p2 x2 w2 hr2 (by omega) g2).mono ?_
  rintro e w3 ⟨x3, p3, rfl, g3, f3, k3, hr3, ht3⟩
  go_wp2_with fail
  refine (l4Wrong_dat R p3 x3 w3 hr3 (by omega) g3).mono ?_
  rintro e w4 ⟨x4, p4, rfl, g4, f4, k4, hr4, ht4⟩
  have hb14 := below_of_open hb1 hR (ht2.trans (ht3.trans ht4))
  obtain ⟨e0, e1, e2, e3, e4, e5, e6⟩ := x4
  unfold datV
  simp only
  obtain ⟨hc4, hf4⟩ := bcell hb14
  have HB := Lib.hid (nx hb0 hb14)
  have HG := Lib.hid g4
  have hsz := hb14.size
  simp at hsz
  have hlt : w.heap.size < w4.heap.size := by omega
  go_wp2
  refine bodyPost_ret (v := .agg #[.int .i64 e0, .int .i64 e1, .int .i64 e2, .int .i64 e3, .int .i64 e4, .int .i64 e5, .int .i64 e6]) (by simp [results, Tryz.results12, go_sem, hc4]) rfl (drawnDat_mk HG.out ?_)
  iterate 7 refine Below.setCell ?_ (by simp) _
  exact HB.out
set_option maxRecDepth 100000 in
set_option maxHeartbeats 400000 in
theorem dDrawFormatDate_any (a : Option Addr) (n c : Nat) (w : World) (hc : Code w a n) (hnc : n ≤ c) (hm : c ≤ maxLen) :
    Calls Tryz.prog 4 #[.slice a n c] w (DrawnDat w) := by
  have hb0 := laid7_below 0 0 0 0 0 0 0 24 w
  go_enter Tryz.func4, Tryz.ntmps4
  go_wp2_with fail
  refine (drawDateValid_any a n c _ (hc.below hb0) hnc hm).mono ?_
  rintro e w4 ⟨x4, rfl, g4, hb14⟩
  obtain ⟨e0, e1, e2, e3, e4, e5, e6⟩ := x4
  unfold datV
  simp only
  obtain ⟨hc4, hf4⟩ := bcell hb14
  have HB := Lib.hid (nx hb0 hb14)
  have HG := Lib.hid g4
  have hsz := hb14.size
  simp at hsz
  have hlt : w.heap.size < w4.heap.size := by omega
  go_wp2
  refine bodyPost_ret (v := .agg #[.int .i64 e0, .int .i64 e1, .int .i64 e2, .int .i64 e3, .int .i64 e4, .int .i64 e5, .int .i64 e6]) (by simp [results, Tryz.results4, go_sem, hc4]) rfl (drawnDat_mk HG.out ?_)
  iterate 7 refine Below.setCell ?_ (by simp) _
  exact HB.out
end Go.Proofs.YtboopbjdehdhgaaGreatDoor
end

section
namespace Go.Proofs.YtboopbjdehdhgaaGreatDoor
open Go.RowKit

/-- A string of at most M bytes is drawn; nothing that was there turns. -/
def DrawnStr (M : Nat) (w : World) (e : Ending) (w' : World) : Prop := ∃ s : ByteArray, e = .returned (.string s) ∧ s.size ≤ M ∧ Below w.heap.size w w'
def DrawnTwo (M : Nat) (w : World) (e : Ending) (w' : World) : Prop := ∃ s t : ByteArray, e = .returned (.tuple #[.string s, .string t]) ∧ s.size ≤ M ∧ t.size ≤ M ∧ Below w.heap.size w w'
theorem after_open {w w1 w2 : World} {R : Nat} (hb : Below w.heap.size w w1) (hR : w.heap.size ≤ R) (ht : Touch R w1 w2) : Below w.heap.size w w2 := hb.trans (ht.below hR hb.size)
end Go.Proofs.YtboopbjdehdhgaaGreatDoor
end

section
namespace Go.Proofs.YtboopbjdehdhgaaGreatDoor
open Go.ChangeShapes Go.WideShapes Go.ChangeAt Go.RowKit
open Go.ChangeMaps (open_string shut_string)

theorem mx_of_shapedG {W : World} (h : W.ShapedOpen Tryz.prog) : ∃ m, W.cell? ⟨4, 0, none⟩ = some (.int .i64 m) :=
  cell_of_shapedOpen_int (zero := #[.int .i64 0]) (t := 3) h (of_decide_eq_true (by kernel_rfl)) (by kernel_rfl) rfl (by kernel_rfl) (by kernel_rfl) Tryz.underlying3
theorem spGType : (Tryz.prog.globals[2]?).map (·.type) = some 62 := by kernel_rfl
theorem sp_datum : (Rows.laid_strings_asciiSpace : DataW Unit) = Lib.tabData .u8 Lib.asciiSpaceTab := by kernel_rfl
/-- From the rows' condition: the tables' cells. -/
theorem gtab_of_laid {W : World} (h : laidMet Tryz.prog [("math/bits.deBruijn32tab", Rows.laid_math_bits_deBruijn32tab), ("math/bits.deBruijn64tab", Rows.laid_math_bits_deBruijn64tab), ("internal/strconv.uint64pow10", Rows.laid_internal_strconv_uint64pow10), ("unicode/utf8.acceptRanges", Rows.laid_unicode_utf8_acceptRanges), ("unicode.White_Space", Rows.laid_unicode_White_Space), ("strings.asciiSpace", Rows.laid_strings_asciiSpace), ("loop.example/mailwire/impl.monthNames", Rows.laid_loop_example_mailwire_impl_monthNames), ("loop.example/mailwire/impl.weekdayNames", Rows.laid_loop_example_mailwire_impl_weekdayNames), ("unicode/utf8.first", Rows.laid_unicode_utf8_first)] W) (hsh : W.ShapedOpen Tryz.prog) :
    (W.var? Tryz.prog "loop.example/mailwire/impl.monthNames" = some mVals.toArray ∧ W.var? Tryz.prog "loop.example/mailwire/impl.weekdayNames" = some wVals.toArray) ∧ (FEnv W ∧ PEnv W) := by
  obtain ⟨ps, ⟨_, _, _, _, _, _, _, _, _, _, ⟨_, _, _, _, _, _, _, _, _, _, ⟨g2, t2, cs2, f2, p2, q2, hg2, ht2, hv2, hd2, ⟨_, _, _, _, _, _, _, _, _, _, ⟨_, _, _, _, _, _, _, _, _, _, ⟨g5, t5, cs5, f5, p5, q5, hg5, ht5, hv5, hd5, ⟨g6, t6, cs6, f6, p6, q6, hg6, ht6, hv6, hd6, ⟨g7, t7, cs7, f7, p7, q7, hg7, ht7, hv7, hd7, ⟨_, _, _, _, _, _, _, _, _, _, _, _⟩, _⟩, _⟩, _⟩, _⟩, _⟩, _⟩, _⟩, _⟩, _⟩ := h
  obtain rfl := Option.some.inj (powG.symm.trans hg2)
  obtain rfl := Option.some.inj (powGType.symm.trans ht2)
  obtain rfl := Option.some.inj (spG.symm.trans hg5)
  obtain rfl := Option.some.inj (spGType.symm.trans ht5)
  obtain rfl := Option.some.inj (mG.symm.trans hg6)
  obtain rfl := Option.some.inj (mGType.symm.trans ht6)
  obtain rfl := Option.some.inj (wG.symm.trans hg7)
  obtain rfl := Option.some.inj (wGType.symm.trans ht7)
  rw [pow_datum] at hd2
  have hp := Lib.cells_of_tab Tryz.underlying115 Tryz.underlying94 (by kernel_rfl) (by kernel_rfl) hd2
  rw [sp_datum] at hd5
  have hp5 := Lib.cells_of_tab Tryz.underlying62 Tryz.underlying5 (by kernel_rfl) (by kernel_rfl) hd5
  obtain ⟨ss, hl, hc, hx⟩ := mtab_inv hd6
  have hss := mtab_list hl (congrArg Prod.fst hx).symm
  have hvm : W.var? Tryz.prog "loop.example/mailwire/impl.monthNames" = some mVals.toArray := by
    have e : cs6.toList = mVals := by rw [hc, hss, mVals_strs]
    rw [hv6, ← e]
  obtain ⟨ss5, hl5, hc5, hx5⟩ := wtab_inv hd7
  have hss5 := wtab_list hl5 (congrArg Prod.fst hx5).symm
  have hvw : W.var? Tryz.prog "loop.example/mailwire/impl.weekdayNames" = some wVals.toArray := by
    have e : cs7.toList = wVals := by rw [hc5, hss5, wVals_strs]
    rw [hv7, ← e]
  have hW : WTab W := fun j hj => by
    have := World.var?_cell wG hvw j
    rw [this]
    unfold wVals
    rw [List.getElem?_toArray, List.getElem?_map, List.getD_eq_getElem?_getD, List.getElem?_eq_getElem (show j < wdL.length from hj)]
    rfl
  have hM : MTab W := fun j hj => by
    have := World.var?_cell mG hvm j
    rw [this]
    unfold mVals
    rw [List.getElem?_toArray, List.getElem?_map, List.getD_eq_getElem?_getD, List.getElem?_eq_getElem (show j < moL.length from hj)]
    rfl
  have hP : PowT W := by
    show W.var? Tryz.prog "internal/strconv.uint64pow10" = _
    rw [hv2, ← hp]
  have hS : SpT W := by
    show W.var? Tryz.prog "strings.asciiSpace" = _
    rw [hv5, ← hp5]
  exact ⟨⟨hvm, hvw⟩, ⟨hW, hM, hP⟩, ⟨hW, hM, mx_of_shapedG hsh, hS⟩⟩
theorem gtab_again {H : Type} {enc : TypeId × Value → H} {W W' : World} {gs : List (DataW H)} {ps : List MemPlace} (h : DataW.TrodVars enc Tryz.prog W (fun _ => true) ["loop.example/mailwire/impl.monthNames", "loop.example/mailwire/impl.weekdayNames"] gs ps)
    (hv : W.var? Tryz.prog "loop.example/mailwire/impl.monthNames" = some mVals.toArray ∧ W.var? Tryz.prog "loop.example/mailwire/impl.weekdayNames" = some wVals.toArray) (hb : Below W.heap.size W W') (ht : FEnv W ∧ PEnv W) :
    ∃ d : DataW H × DataW H, gs = [d.1, d.2] ∧ ∀ sp, DataW.TrodVars enc Tryz.prog W' sp ["loop.example/mailwire/impl.monthNames", "loop.example/mailwire/impl.weekdayNames"] [d.1, d.2] (MemPlace.row ⟨0, 0, none⟩ mVals.toArray.size ++ [] ++ (MemPlace.row ⟨1, 0, none⟩ wVals.toArray.size ++ [])) := ftab_again h hv hb ht.1
def accLg : List Nat := [128, 191, 160, 191, 128, 159, 144, 191, 128, 143, 0, 0, 0, 0, 0, 0, 0, 0, 0, 0, 0, 0, 0, 0, 0, 0, 0, 0, 0, 0, 0, 0]
def rangesG : List Nat := [9, 13, 1, 32, 133, 101, 160, 5760, 5600, 8192, 8202, 1, 8232, 8233, 1, 8239, 8287, 48, 12288, 12288, 1]
def pushed (h : Array Obj) : Array Obj :=
  ((layAt h 3 #[.pointer (some ⟨h.size + 1, 0, none⟩)]).push (.cells (rangesG.map fun (n : Nat) => Value.int .u16 n).toArray 108)).push (.cells #[.slice (some ⟨h.size, 0, none⟩) 7 7, .slice none 0 0, .int .i64 2] 105)
/-- A world for the witness: the one for dates that are written, and besides the tables of the library's that reading lists. -/
noncomputable def laidWorldG (os : Os) : World :=
  { laidWorldF os with heap := layAt (layAt (layAt (pushed (laidWorldF os).heap) 2 (litVals Rows.laid_strings_asciiSpace).toArray) 6 (Go.Pinned.utf8FirstZ.map fun (n : Nat) => Value.int .u8 n).toArray) 7 (accLg.map fun (n : Nat) => Value.int .u8 n).toArray }
set_option maxRecDepth 100000 in
theorem metG (os : Os) (args : Array Value) : laidMet Tryz.prog [("math/bits.deBruijn32tab", Rows.laid_math_bits_deBruijn32tab), ("math/bits.deBruijn64tab", Rows.laid_math_bits_deBruijn64tab), ("internal/strconv.uint64pow10", Rows.laid_internal_strconv_uint64pow10), ("unicode/utf8.acceptRanges", Rows.laid_unicode_utf8_acceptRanges), ("unicode.White_Space", Rows.laid_unicode_White_Space), ("strings.asciiSpace", Rows.laid_strings_asciiSpace), ("loop.example/mailwire/impl.monthNames", Rows.laid_loop_example_mailwire_impl_monthNames), ("loop.example/mailwire/impl.weekdayNames", Rows.laid_loop_example_mailwire_impl_weekdayNames), ("unicode/utf8.first", Rows.laid_unicode_utf8_first)] ((laidWorldG os).forCall (fun _ _ => 0) ⟨#[], args, []⟩).memory :=
  laidMet_of_run3 8 (by kernel_rfl) (by kernel_rfl) (by kernel_rfl)
end Go.Proofs.YtboopbjdehdhgaaGreatDoor
end

section
namespace Go.Proofs.YtboopbjdehdhgaaGreatDoor
open Go.RowKit

theorem dateF_small (D : Dat) : (str (dateF D)).size ≤ 40 := by
  rw [str_size]
  by_cases h : OkDate D
  · rw [dateF_ok h]; have := date_len h.1; omega
  · rw [dateF_no h]; simp
set_option maxRecDepth 100000 in
set_option maxHeartbeats 1000000 in
theorem drawParseDate_any (a : Option Addr) (n c : Nat) (w : World) (hc : Code w a n) (hnc : n ≤ c) (hm : c ≤ maxLen) :
    Calls Tryz.prog 10 #[.slice a n c] w (DrawnStr 50 w) := by
  go_enter Tryz.func10, Tryz.ntmps10
  go_wp2_with fail
  refine (open_any a n c w hc hnc hm).mono ?_
  rintro e w1 ⟨R, rfl, hR, hr1, hb1⟩
  go_wp2_with fail
  refine (pick_any R 0 4 w1 hr1 (by omega) (by omega)).mono ?_
  rintro e w2 ⟨k, rfl, hk, hr2, ht2⟩
  by_cases hk0 : k = 0
  · have e0 : ((k : Int) == 0) = true := by rw [hk0]; rfl
    clear hk0 hk
    go_wp2_with fail
    refine (of_lit R (0 + 1) 6 40 _ _ w2 hr2 (by omega) (by omega) (by omega) (by decide)).mono ?_
    rintro e w3 ⟨s3, p3, rfl, g3, f3, k3, hr3, ht3⟩
    go_wp2
    go_ret
    exact ⟨s3, rfl, by omega, after_open hb1 hR (ht2.trans ht3)⟩
  · have e0 : ((k : Int) == 0) = false := by simpa using hk0
    clear hk0 hk
    go_wp2_with fail
    refine (l4Draw_any R (0 + 1) w2 hr2 (by omega)).mono ?_
    rintro e w3 ⟨D, p3, rfl, _, f3, k3, hr3, ht3⟩
    have hsm := dateF_small D
    have HFS := Lib.hid (fun u => formatDateS_any D u)
    generalize str (dateF D) = X at *
    generalize datV D = DV at *
    go_wp2_with fail
    refine (HFS.out _).mono ?_
    rintro e w4 ⟨rfl, hb4⟩
    go_wp2_with fail
    refine (bend_lit R p3 6 1 _ _ X w4 (hr3.below hb4) (by omega) (by omega) (by omega) (by omega) (by omega) (by decide)).mono ?_
    rintro e w5 ⟨s5, p5, rfl, g5, f5, k5, hr5, ht5⟩
    go_wp2
    go_ret
    exact ⟨s5, rfl, by omega, after_open hb1 hR (ht2.trans (ht3.trans ((Touch.of_below hb4).trans ht5)))⟩
end Go.Proofs.YtboopbjdehdhgaaGreatDoor
end

section
namespace Go.Proofs.YtboopbjdehdhgaaGreatDoor
open Go.ChangeShapes Go.WideShapes Go.ChangeAt Go.RowKit
open Go.ChangeMaps (open_string shut_string)

theorem emp_ft {b : ByteArray} (h : 0 < b.size) : b.toList.isEmpty = false := by
  rw [ByteArray.toList_eq, List.isEmpty_eq_false_iff]
  intro c
  have : b.data.toList.length = b.size := rfl
  rw [c] at this; simp at this; omega
set_option maxRecDepth 100000 in
set_option maxHeartbeats 8000000 in
theorem fnDateText_walk (a : Option Addr) (n c : Nat) (a0 : Option Addr) (n0 c0 : Nat) (w : World) (tab : FEnv w ∧ PEnv w) (hc : Code w a n) (hnc : n ≤ c) (hm : c ≤ maxLen) (hc0 : Code w a0 n0) (hnc0 : n0 ≤ c0) (hm0 : c0 ≤ maxLen) :
    Calls Tryz.prog 3 #[.slice a n c, .slice a0 n0 c0] w fun e w' => e = .returned (.bool true) ∧ Below w.heap.size w w' := by
  have HTAB := Lib.hid tab.1
  have HPEN := Lib.hid tab.2
  clear tab
  have hm' := hm
  have hm0' := hm0
  unfold maxLen at hm' hm0'
  by_cases hn : 1048576 < n
  · have hd : decide ((1048576 : Int) < n) = true := by simp; omega
    go_enter Tryz.func3, Tryz.ntmps3
    go_wp2
    go_ret
    exact ⟨rfl, Below.refl _ _⟩
  have hd : decide ((1048576 : Int) < n) = false := by simp; omega
  by_cases hn0 : 1048576 < n0
  · have hd0 : decide ((1048576 : Int) < n0) = true := by simp; omega
    go_enter Tryz.func3, Tryz.ntmps3
    go_wp2
    go_ret
    exact ⟨rfl, Below.refl _ _⟩
  have hd0 : decide ((1048576 : Int) < n0) = false := by simp; omega
  have HC0 := Lib.hid hc0
  go_enter Tryz.func3, Tryz.ntmps3
  go_wp2_with fail
  refine (dDrawFormatDate_any a n c w hc hnc hm).mono ?_
  rintro e w1 ⟨D, rfl, _, hb1⟩
  have HB1 := Lib.hid hb1
  have H1 := Lib.hid (fun u t => formatDate_any D u t)
  have H2 := Lib.hid (fun u => formatDateS_any D u)
  obtain ⟨y, m, d, h, mi, s, z⟩ := D
  unfold datV at *
  simp only at H1 H2 ⊢
  have HLB := Lib.hid (laid7_below y m d h mi s z 24 w1)
  by_cases hok : OkDate ⟨y, m, d, h, mi, s, z⟩
  · rw [dateF_ok hok] at H1 H2
    have hl := date_len hok.1
    have hsz : 30 ≤ (str (dateT ⟨y, m, d, h, mi, s, z⟩)).size ∧ (str (dateT ⟨y, m, d, h, mi, s, z⟩)).size ≤ 40 := by rw [str_size]; omega
    have HPX : Hid (∀ u, PEnv u → Calls Tryz.prog 9 #[.string (str (dateT ⟨y, m, d, h, mi, s, z⟩))] u fun e w' => e = .returned (.tuple #[.agg #[.int .i64 y, .int .i64 m, .int .i64 d, .int .i64 h, .int .i64 mi, .int .i64 s, .int .i64 z], .bool true]) ∧ Below u.heap.size u w') := fun u tt => by
      have := parseDate_any (str (dateT ⟨y, m, d, h, mi, s, z⟩)) u tt (by omega)
      rw [str_list, parse_date hok] at this; exact this
    have H3 : Hid (∀ u, Calls Tryz.prog 7 #[.agg #[.int .i64 y, .int .i64 m, .int .i64 d, .int .i64 h, .int .i64 mi, .int .i64 s, .int .i64 z]] u fun e w' => e = .returned (.bool true) ∧ Below u.heap.size u w') := fun u => by rw [← okDB_ok hok]; exact dateValid_any ⟨y, m, d, h, mi, s, z⟩ u
    have H4 : Hid (∀ u, Calls Tryz.prog 8 #[.agg #[.int .i64 y, .int .i64 m, .int .i64 d, .int .i64 h, .int .i64 mi, .int .i64 s, .int .i64 z]] u fun e w' => e = .returned (.bool true) ∧ Below u.heap.size u w') := fun u => by rw [← okDB_ok hok]; exact dateValidS_any ⟨y, m, d, h, mi, s, z⟩ u
    generalize str (dateT ⟨y, m, d, h, mi, s, z⟩) = X at *
    have g0 : X.toList.isEmpty = false := emp_ft (by omega)
    have g1 : (X.toList == X.toList) = true := by simp
    have g2 : (X.toList != X.toList) = false := by simp
    clear hok hl hb1
    go_wp2_with fail
    have hc7 := (laid7_new y m d h mi s z 24 w1)
    generalize w1.alloc (.cells #[.int .i64 y, .int .i64 m, .int .i64 d, .int .i64 h, .int .i64 mi, .int .i64 s, .int .i64 z] 24) = w2 at *
    refine (H1.out _ (HTAB.out.below (nx HB1.out HLB.out))).mono ?_
    rintro e w3 ⟨rfl, hb3⟩
    have HC3 := Lib.hid (hc7.below hb3)
    generalize hBB : w1.heap.size = BB at *
    have HB3 : Hid (Below w.heap.size w w3) := by
      have h9 := HLB.out
      rw [← hBB] at h9
      exact nx (nx HB1.out h9) hb3
    clear hc7 hBB hb3 HLB
    go_wp2_with fail
    have c0 := fun y9 : BelowT w3 => (HC3.out.below y9.below).1
    have c1 := fun y9 : BelowT w3 => (HC3.out.below y9.below).2.1
    have c2 := fun y9 : BelowT w3 => (HC3.out.below y9.below).2.2.1
    have c3 := fun y9 : BelowT w3 => (HC3.out.below y9.below).2.2.2.1
    have c4 := fun y9 : BelowT w3 => (HC3.out.below y9.below).2.2.2.2.1
    have c5 := fun y9 : BelowT w3 => (HC3.out.below y9.below).2.2.2.2.2.1
    have c6 := fun y9 : BelowT w3 => (HC3.out.below y9.below).2.2.2.2.2.2
    simp only at c0 c1 c2 c3 c4 c5 c6
    refine wp_region_quietB (W := w3) (by kernel_rfl) (by kernel_rfl) (Below.refl _ _) ?_
    repeat (go_big_quiet_step (first
      | (go_at_call 6; exact calls_belowT (H2.out _))
      | (go_at_call 7; exact calls_belowT (H3.out _))
      | (go_at_call 8; exact calls_belowT (H4.out _))))
    refine wpQuiet_nil ?_
    intro wz hwz
    obtain ⟨x9, rfl⟩ := hwz
    have HB9' := Lib.hid (nx HB3.out x9.below)
    have HC9 := Lib.hid (HC3.out.below x9.below)
    generalize x9.val = wk at *
    clear c0 c1 c2 c3 c4 c5 c6
    go_wp2_with fail
    refine (HPX.out _ (HPEN.out.below HB9'.out)).mono ?_
    rintro e w4 ⟨rfl, hb4⟩
    obtain ⟨u0, u1, u2, u3, u4, u5, u6⟩ := HC9.out.below hb4
    have hl4 := lt_of_cell u0
    simp only at u0 u1 u2 u3 u4 u5 u6
    have HBX := Lib.hid (nx (nx HB9'.out hb4) (laid7_below y m d h mi s z 24 w4))
    clear hb4
    go_wp2_with fail
    refine (drawParseDate_any a0 n0 c0 _ (HC0.out.below HBX.out) hnc0 hm0).mono ?_
    rintro e w5 ⟨t, rfl, ht, hb5⟩
    have HB5 := Lib.hid (nx HBX.out hb5)
    clear hb5
    have HP1 : Hid (∀ u, PEnv u → Calls Tryz.prog 9 #[.string t] u (DateRet (parseD t.data.toList) u)) := fun u tt => parseDate_any t u tt (by omega)
    have HP2 : Hid (∀ u, Calls Tryz.prog 11 #[.string t] u (DateRet (parseD t.data.toList) u)) := fun u => parseDateS_any t u (by omega)
    cases hp : parseD t.data.toList with
    | none =>
      rw [hp] at HP1 HP2
      have HP1 : Hid (∀ u, PEnv u → Calls Tryz.prog 9 #[.string t] u fun e w' => e = .returned (.tuple #[.agg #[.int .i64 0, .int .i64 0, .int .i64 0, .int .i64 0, .int .i64 0, .int .i64 0, .int .i64 0], .bool false]) ∧ Below u.heap.size u w') := HP1.out
      have HP2 : Hid (∀ u, Calls Tryz.prog 11 #[.string t] u fun e w' => e = .returned (.tuple #[.agg #[.int .i64 0, .int .i64 0, .int .i64 0, .int .i64 0, .int .i64 0, .int .i64 0, .int .i64 0], .bool false]) ∧ Below u.heap.size u w') := HP2.out
      clear hp
      go_wp2_with fail
      refine (HP1.out _ (HPEN.out.below HB5.out)).mono ?_
      rintro e w6 ⟨rfl, hb6⟩
      go_wp2_with fail
      refine (HP2.out _).mono ?_
      rintro e w7 ⟨rfl, hb7⟩
      have HBE := Lib.hid (nx HB5.out (nx hb6 (nx (laid7_below 0 0 0 0 0 0 0 24 w6) (nx hb7 (laid7_below 0 0 0 0 0 0 0 24 w7)))))
      obtain ⟨v0, v1, v2, v3, v4, v5, v6⟩ := (laid7_new 0 0 0 0 0 0 0 24 w6).below hb7
      have hl6 := lt_of_cell v0
      simp only at v0 v1 v2 v3 v4 v5 v6
      clear hb6 hb7
      go_wp2
      go_ret
      exact ⟨rfl, HBE.out⟩
    | some E =>
      have hokE := parseD_valid hp
      obtain ⟨y2, m2, d2, h2, mi2, s2, z2⟩ := E
      rw [hp] at HP1 HP2
      have HP1 : Hid (∀ u, PEnv u → Calls Tryz.prog 9 #[.string t] u fun e w' => e = .returned (.tuple #[.agg #[.int .i64 y2, .int .i64 m2, .int .i64 d2, .int .i64 h2, .int .i64 mi2, .int .i64 s2, .int .i64 z2], .bool true]) ∧ Below u.heap.size u w') := HP1.out
      have HP2 : Hid (∀ u, Calls Tryz.prog 11 #[.string t] u fun e w' => e = .returned (.tuple #[.agg #[.int .i64 y2, .int .i64 m2, .int .i64 d2, .int .i64 h2, .int .i64 mi2, .int .i64 s2, .int .i64 z2], .bool true]) ∧ Below u.heap.size u w') := HP2.out
      have HFE : Hid (∀ u, FEnv u → Calls Tryz.prog 5 #[.agg #[.int .i64 y2, .int .i64 m2, .int .i64 d2, .int .i64 h2, .int .i64 mi2, .int .i64 s2, .int .i64 z2]] u fun e w' => e = .returned (.string (str (dateT ⟨y2, m2, d2, h2, mi2, s2, z2⟩))) ∧ Below u.heap.size u w') := fun u tt => by rw [← dateF_ok hokE]; exact formatDate_any ⟨y2, m2, d2, h2, mi2, s2, z2⟩ u tt
      have HPE : Hid (∀ u, PEnv u → Calls Tryz.prog 9 #[.string (str (dateT ⟨y2, m2, d2, h2, mi2, s2, z2⟩))] u fun e w' => e = .returned (.tuple #[.agg #[.int .i64 y2, .int .i64 m2, .int .i64 d2, .int .i64 h2, .int .i64 mi2, .int .i64 s2, .int .i64 z2], .bool true]) ∧ Below u.heap.size u w') := fun u tt => by
        have := parseDate_any (str (dateT ⟨y2, m2, d2, h2, mi2, s2, z2⟩)) u tt (by rw [str_size]; have := date_len hokE.1; omega)
        rw [str_list, parse_date hokE] at this; exact this
      have HDE : Hid (∀ u, Calls Tryz.prog 7 #[.agg #[.int .i64 y2, .int .i64 m2, .int .i64 d2, .int .i64 h2, .int .i64 mi2, .int .i64 s2, .int .i64 z2]] u fun e w' => e = .returned (.bool true) ∧ Below u.heap.size u w') := fun u => by rw [← okDB_ok hokE]; exact dateValid_any ⟨y2, m2, d2, h2, mi2, s2, z2⟩ u
      generalize str (dateT ⟨y2, m2, d2, h2, mi2, s2, z2⟩) = X2 at *
      clear hp hokE
      go_wp2_with fail
      refine (HP1.out _ (HPEN.out.below HB5.out)).mono ?_
      rintro e w6 ⟨rfl, hb6⟩
      go_wp2_with fail
      refine (HP2.out _).mono ?_
      rintro e w7 ⟨rfl, hb7⟩
      have HBA := Lib.hid (nx HB5.out (nx hb6 (nx (laid7_below y2 m2 d2 h2 mi2 s2 z2 24 w6) (nx hb7 (laid7_below y2 m2 d2 h2 mi2 s2 z2 24 w7)))))
      have L7 := Lib.hid ((laid7_new y2 m2 d2 h2 mi2 s2 z2 24 w6).below hb7)
      obtain ⟨v0, v1, v2, v3, v4, v5, v6⟩ := L7.out
      have hl6 := lt_of_cell v0
      simp only at v0 v1 v2 v3 v4 v5 v6
      clear hb6 hb7
      go_wp2_with fail
      refine (HFE.out _ (HTAB.out.below HBA.out)).mono ?_
      rintro e w8 ⟨rfl, hb8⟩
      have L8 := Lib.hid (L7.out.below (nx (laid7_below y2 m2 d2 h2 mi2 s2 z2 24 w7) hb8))
      have HB8 := Lib.hid (nx HBA.out hb8)
      clear v0 v1 v2 v3 v4 v5 v6 hl6 hb8
      go_wp2_with fail
      refine (HPE.out _ (HPEN.out.below HB8.out)).mono ?_
      rintro e w9 ⟨rfl, hb9⟩
      have L9 := Lib.hid (L8.out.below hb9)
      have HB9 := Lib.hid (nx (nx HB8.out hb9) (laid7_below y2 m2 d2 h2 mi2 s2 z2 24 w9))
      obtain ⟨v0, v1, v2, v3, v4, v5, v6⟩ := L9.out
      have hl6 := lt_of_cell v0
      simp only at v0 v1 v2 v3 v4 v5 v6
      clear hb9
      go_wp2_with fail
      refine (HDE.out _).mono ?_
      rintro e w10 ⟨rfl, hb10⟩
      have L10 := Lib.hid (L9.out.below (nx (laid7_below y2 m2 d2 h2 mi2 s2 z2 24 w9) hb10))
      have A10 := Lib.hid ((laid7_new y2 m2 d2 h2 mi2 s2 z2 24 w9).below hb10)
      have HB10 := Lib.hid (nx HB9.out hb10)
      clear v0 v1 v2 v3 v4 v5 v6 hl6 hb10
      obtain ⟨v0, v1, v2, v3, v4, v5, v6⟩ := L10.out
      obtain ⟨x0, x1, x2, x3, x4, x5, x6⟩ := A10.out
      simp only at v0 v1 v2 v3 v4 v5 v6 x0 x1 x2 x3 x4 x5 x6
      go_wp2
      go_ret
      exact ⟨rfl, HB10.out⟩
  · rw [dateF_no hok] at H1 H2
    have e0 : str [] = ⟨#[]⟩ := rfl
    rw [e0] at H1 H2
    have H3 : Hid (∀ u, Calls Tryz.prog 7 #[.agg #[.int .i64 y, .int .i64 m, .int .i64 d, .int .i64 h, .int .i64 mi, .int .i64 s, .int .i64 z]] u fun e w' => e = .returned (.bool false) ∧ Below u.heap.size u w') := fun u => by rw [← okDB_no hok]; exact dateValid_any ⟨y, m, d, h, mi, s, z⟩ u
    have H4 : Hid (∀ u, Calls Tryz.prog 8 #[.agg #[.int .i64 y, .int .i64 m, .int .i64 d, .int .i64 h, .int .i64 mi, .int .i64 s, .int .i64 z]] u fun e w' => e = .returned (.bool false) ∧ Below u.heap.size u w') := fun u => by rw [← okDB_no hok]; exact dateValidS_any ⟨y, m, d, h, mi, s, z⟩ u
    clear hok hb1
    go_wp2_with fail
    have hc7 := (laid7_new y m d h mi s z 24 w1)
    generalize w1.alloc (.cells #[.int .i64 y, .int .i64 m, .int .i64 d, .int .i64 h, .int .i64 mi, .int .i64 s, .int .i64 z] 24) = w2 at *
    refine (H1.out _ (HTAB.out.below (nx HB1.out HLB.out))).mono ?_
    rintro e w3 ⟨rfl, hb3⟩
    have HC3 := Lib.hid (hc7.below hb3)
    generalize hBB : w1.heap.size = BB at *
    have HB3 : Hid (Below w.heap.size w w3) := by
      have h9 := HLB.out
      rw [← hBB] at h9
      exact nx (nx HB1.out h9) hb3
    clear hc7 hBB hb3 HLB
    go_wp2_with fail
    have c0 := fun y9 : BelowT w3 => (HC3.out.below y9.below).1
    have c1 := fun y9 : BelowT w3 => (HC3.out.below y9.below).2.1
    have c2 := fun y9 : BelowT w3 => (HC3.out.below y9.below).2.2.1
    have c3 := fun y9 : BelowT w3 => (HC3.out.below y9.below).2.2.2.1
    have c4 := fun y9 : BelowT w3 => (HC3.out.below y9.below).2.2.2.2.1
    have c5 := fun y9 : BelowT w3 => (HC3.out.below y9.below).2.2.2.2.2.1
    have c6 := fun y9 : BelowT w3 => (HC3.out.below y9.below).2.2.2.2.2.2
    simp only at c0 c1 c2 c3 c4 c5 c6
    refine wp_region_quietB (W := w3) (by kernel_rfl) (by kernel_rfl) (Below.refl _ _) ?_
    repeat (go_big_quiet_step (first
      | (go_at_call 6; exact calls_belowT (H2.out _))
      | (go_at_call 7; exact calls_belowT (H3.out _))
      | (go_at_call 8; exact calls_belowT (H4.out _))))
    refine wpQuiet_nil ?_
    intro wz hwz
    obtain ⟨x9, rfl⟩ := hwz
    have HB9' := Lib.hid (nx HB3.out x9.below)
    have HC9 := Lib.hid (HC3.out.below x9.below)
    generalize x9.val = wk at *
    clear c0 c1 c2 c3 c4 c5 c6
    have HBX := HB9'
    go_wp2_with fail
    refine (drawParseDate_any a0 n0 c0 _ (HC0.out.below HBX.out) hnc0 hm0).mono ?_
    rintro e w5 ⟨t, rfl, ht, hb5⟩
    have HB5 := Lib.hid (nx HBX.out hb5)
    clear hb5
    have HP1 : Hid (∀ u, PEnv u → Calls Tryz.prog 9 #[.string t] u (DateRet (parseD t.data.toList) u)) := fun u tt => parseDate_any t u tt (by omega)
    have HP2 : Hid (∀ u, Calls Tryz.prog 11 #[.string t] u (DateRet (parseD t.data.toList) u)) := fun u => parseDateS_any t u (by omega)
    cases hp : parseD t.data.toList with
    | none =>
      rw [hp] at HP1 HP2
      have HP1 : Hid (∀ u, PEnv u → Calls Tryz.prog 9 #[.string t] u fun e w' => e = .returned (.tuple #[.agg #[.int .i64 0, .int .i64 0, .int .i64 0, .int .i64 0, .int .i64 0, .int .i64 0, .int .i64 0], .bool false]) ∧ Below u.heap.size u w') := HP1.out
      have HP2 : Hid (∀ u, Calls Tryz.prog 11 #[.string t] u fun e w' => e = .returned (.tuple #[.agg #[.int .i64 0, .int .i64 0, .int .i64 0, .int .i64 0, .int .i64 0, .int .i64 0, .int .i64 0], .bool false]) ∧ Below u.heap.size u w') := HP2.out
      clear hp
      go_wp2_with fail
      refine (HP1.out _ (HPEN.out.below HB5.out)).mono ?_
      rintro e w6 ⟨rfl, hb6⟩
      go_wp2_with fail
      refine (HP2.out _).mono ?_
      rintro e w7 ⟨rfl, hb7⟩
      have HBE := Lib.hid (nx HB5.out (nx hb6 (nx (laid7_below 0 0 0 0 0 0 0 24 w6) (nx hb7 (laid7_below 0 0 0 0 0 0 0 24 w7)))))
      obtain ⟨v0, v1, v2, v3, v4, v5, v6⟩ := (laid7_new 0 0 0 0 0 0 0 24 w6).below hb7
      have hl6 := lt_of_cell v0
      simp only at v0 v1 v2 v3 v4 v5 v6
      clear hb6 hb7
      go_wp2
      go_ret
      exact ⟨rfl, HBE.out⟩
    | some E =>
      have hokE := parseD_valid hp
      obtain ⟨y2, m2, d2, h2, mi2, s2, z2⟩ := E
      rw [hp] at HP1 HP2
      have HP1 : Hid (∀ u, PEnv u → Calls Tryz.prog 9 #[.string t] u fun e w' => e = .returned (.tuple #[.agg #[.int .i64 y2, .int .i64 m2, .int .i64 d2, .int .i64 h2, .int .i64 mi2, .int .i64 s2, .int .i64 z2], .bool true]) ∧ Below u.heap.size u w') := HP1.out
      have HP2 : Hid (∀ u, Calls Tryz.prog 11 #[.string t] u fun e w' => e = .returned (.tuple #[.agg #[.int .i64 y2, .int .i64 m2, .int .i64 d2, .int .i64 h2, .int .i64 mi2, .int .i64 s2, .int .i64 z2], .bool true]) ∧ Below u.heap.size u w') := HP2.out
      have HFE : Hid (∀ u, FEnv u → Calls Tryz.prog 5 #[.agg #[.int .i64 y2, .int .i64 m2, .int .i64 d2, .int .i64 h2, .int .i64 mi2, .int .i64 s2, .int .i64 z2]] u fun e w' => e = .returned (.string (str (dateT ⟨y2, m2, d2, h2, mi2, s2, z2⟩))) ∧ Below u.heap.size u w') := fun u tt => by rw [← dateF_ok hokE]; exact formatDate_any ⟨y2, m2, d2, h2, mi2, s2, z2⟩ u tt
      have HPE : Hid (∀ u, PEnv u → Calls Tryz.prog 9 #[.string (str (dateT ⟨y2, m2, d2, h2, mi2, s2, z2⟩))] u fun e w' => e = .returned (.tuple #[.agg #[.int .i64 y2, .int .i64 m2, .int .i64 d2, .int .i64 h2, .int .i64 mi2, .int .i64 s2, .int .i64 z2], .bool true]) ∧ Below u.heap.size u w') := fun u tt => by
        have := parseDate_any (str (dateT ⟨y2, m2, d2, h2, mi2, s2, z2⟩)) u tt (by rw [str_size]; have := date_len hokE.1; omega)
        rw [str_list, parse_date hokE] at this; exact this
      have HDE : Hid (∀ u, Calls Tryz.prog 7 #[.agg #[.int .i64 y2, .int .i64 m2, .int .i64 d2, .int .i64 h2, .int .i64 mi2, .int .i64 s2, .int .i64 z2]] u fun e w' => e = .returned (.bool true) ∧ Below u.heap.size u w') := fun u => by rw [← okDB_ok hokE]; exact dateValid_any ⟨y2, m2, d2, h2, mi2, s2, z2⟩ u
      generalize str (dateT ⟨y2, m2, d2, h2, mi2, s2, z2⟩) = X2 at *
      clear hp hokE
      go_wp2_with fail
      refine (HP1.out _ (HPEN.out.below HB5.out)).mono ?_
      rintro e w6 ⟨rfl, hb6⟩
      go_wp2_with fail
      refine (HP2.out _).mono ?_
      rintro e w7 ⟨rfl, hb7⟩
      have HBA := Lib.hid (nx HB5.out (nx hb6 (nx (laid7_below y2 m2 d2 h2 mi2 s2 z2 24 w6) (nx hb7 (laid7_below y2 m2 d2 h2 mi2 s2 z2 24 w7)))))
      have L7 := Lib.hid ((laid7_new y2 m2 d2 h2 mi2 s2 z2 24 w6).below hb7)
      obtain ⟨v0, v1, v2, v3, v4, v5, v6⟩ := L7.out
      have hl6 := lt_of_cell v0
      simp only at v0 v1 v2 v3 v4 v5 v6
      clear hb6 hb7
      go_wp2_with fail
      refine (HFE.out _ (HTAB.out.below HBA.out)).mono ?_
      rintro e w8 ⟨rfl, hb8⟩
      have L8 := Lib.hid (L7.out.below (nx (laid7_below y2 m2 d2 h2 mi2 s2 z2 24 w7) hb8))
      have HB8 := Lib.hid (nx HBA.out hb8)
      clear v0 v1 v2 v3 v4 v5 v6 hl6 hb8
      go_wp2_with fail
      refine (HPE.out _ (HPEN.out.below HB8.out)).mono ?_
      rintro e w9 ⟨rfl, hb9⟩
      have L9 := Lib.hid (L8.out.below hb9)
      have HB9 := Lib.hid (nx (nx HB8.out hb9) (laid7_below y2 m2 d2 h2 mi2 s2 z2 24 w9))
      obtain ⟨v0, v1, v2, v3, v4, v5, v6⟩ := L9.out
      have hl6 := lt_of_cell v0
      simp only at v0 v1 v2 v3 v4 v5 v6
      clear hb9
      go_wp2_with fail
      refine (HDE.out _).mono ?_
      rintro e w10 ⟨rfl, hb10⟩
      have L10 := Lib.hid (L9.out.below (nx (laid7_below y2 m2 d2 h2 mi2 s2 z2 24 w9) hb10))
      have A10 := Lib.hid ((laid7_new y2 m2 d2 h2 mi2 s2 z2 24 w9).below hb10)
      have HB10 := Lib.hid (nx HB9.out hb10)
      clear v0 v1 v2 v3 v4 v5 v6 hl6 hb10
      obtain ⟨v0, v1, v2, v3, v4, v5, v6⟩ := L10.out
      obtain ⟨x0, x1, x2, x3, x4, x5, x6⟩ := A10.out
      simp only at v0 v1 v2 v3 v4 v5 v6 x0 x1 x2 x3 x4 x5 x6
      go_wp2
      go_ret
      exact ⟨rfl, HB10.out⟩
end Go.Proofs.YtboopbjdehdhgaaGreatDoor
end

section
namespace Go.Proofs.YtboopbjdehdhgaaGreatDoor
open Go.ChangeShapes Go.WideShapes Go.ChangeAt Go.RowKit
open Go.ChangeMaps (open_string shut_string)
set_option maxRecDepth 100000 in
theorem fnDateText_contract (H : Type) (enc : TypeId × Value → H) (W : World) (base : Nat) (args : Array Value) (ds gs : List (DataW H)) (before : List MemPlace)
    (hval : ∀ (j : Nat) t v, Tryz.f3.params[j]? = some t → args[j]? = some v → Value.okWide Tryz.prog W .any base t v)
    (hW : DataW.Whole enc Tryz.prog Tryz.f3.params.toList Rows.fnDateTextSpec.vars false W args.toList ds gs before) (hL : laidMetH Tryz.prog Rows.fnDateTextRow.laid W) (_hsh : W.ShapedOpen Tryz.prog) :
    Calls Tryz.prog 3 args W fun e W' => ∃ v, e = .returned v ∧ Rows.fnDateTextSpec.post enc Tryz.prog Tryz.f3 false true false false W args v W' := by
  have hW' := hW
  obtain ⟨p, q, hA0, hV, rfl, hfz, hnd⟩ := hW
  have hA : DataW.TrodAll enc Tryz.prog W 0 (fun _ => true) true Tryz.f3.params.toList args.toList ds p := hA0
  rw [Tryz.params3] at hA hval
  obtain ⟨v0, vs0, d0, ds0, p0, q0, hargs, rfl, rfl, h0, r0⟩ := trodAll_cons hA
  obtain ⟨v1, vs1, d1, ds1, p1, q1, rfl, rfl, rfl, h1, r1⟩ := trodAll_cons r0
  obtain ⟨rfl, rfl, rfl⟩ := trodAll_nil r1
  obtain rfl : args = #[v0, v1] := by cases args; simp_all
  obtain ⟨a0, n0, c0, rfl⟩ := okWide_slice Tryz.underlying22 (hval 0 22 v0 rfl rfl)
  have k0 := h0
  have lt0 : ∀ x ∈ p0, x.block < W.heap.size := by obtain ⟨m, hm⟩ := k0; exact DataW.trod_lt m _ _ _ hm
  obtain ⟨w0, x0, y0⟩ := code_of_trod Tryz.underlying22 Tryz.underlying5 (by kernel_rfl) h0
  obtain ⟨a1, n1, c1, rfl⟩ := okWide_slice Tryz.underlying22 (hval 1 22 v1 rfl rfl)
  have k1 := h1
  have lt1 : ∀ x ∈ p1, x.block < W.heap.size := by obtain ⟨m, hm⟩ := k1; exact DataW.trod_lt m _ _ _ hm
  obtain ⟨w1, x1, y1⟩ := code_of_trod Tryz.underlying22 Tryz.underlying5 (by kernel_rfl) h1
  clear hA0
  obtain ⟨hv, tab⟩ := gtab_of_laid hL _hsh
  refine (fnDateText_walk a0 n0 c0 a1 n1 c1 W tab w0 x0 y0 w1 x1 y1).mono fun e W' ⟨he, bel⟩ => ?_
  subst he
  obtain ⟨d, rfl, hvars⟩ := gtab_again hV hv bel tab
  exact ⟨_, rfl, _, _, _, [], _, _, hW', trodAll_mk1 (shut_bool Tryz.underlying4 _), (trodAll_cons_mk (Below.trod laidOut (by kernel_rfl) (of_decide_eq_true (by kernel_rfl)) k0 bel lt0) (trodAll_cons_mk (Below.trod laidOut (by kernel_rfl) (of_decide_eq_true (by kernel_rfl)) k1 bel lt1) trodAll_mk0)), hvars _, bel.frame _, fun h => by cases h⟩
theorem fnDateText_met (os : Os) : laidMet Tryz.prog Rows.fnDateTextRow.laid ((laidWorldG os).forCall (fun _ _ => 0) ⟨#[], #[.slice none 0 0, .slice none 0 0], []⟩).memory :=
  laidMet_of_run3 8 (by kernel_rfl) (by kernel_rfl) (by kernel_rfl)
theorem fnDateText_reads (os : Os) {H : Type} (enc : TypeId × Value → H) : ∃ places, DataW.whole enc Tryz.prog ((laidWorldG os).forCall (fun _ _ => 0) ⟨#[], #[.slice none 0 0, .slice none 0 0], []⟩).memory Tryz.f3.params.toList Rows.fnDateTextSpec.vars false (#[.slice none 0 0, .slice none 0 0] : Array Value).toList 8 = some ([.nil, .nil], [wDatum mStrs, wDatum wStrs], places) :=
  ⟨MemPlace.row ⟨0, 0, none⟩ 12 ++ MemPlace.row ⟨1, 0, none⟩ 7, by kernel_rfl⟩
set_option maxRecDepth 100000 in
theorem fnDateText_lifted (os : Os) (started : os.Started) (H : Type) (enc : TypeId × Value → H) (F : Stop.Interp) :
    ReturnsInHanded {} Tryz.checked os 3 .any ((OpenSpec.ofChange Rows.fnDateTextSpec).preRow enc Tryz.prog Tryz.f3 Rows.fnDateTextRow.domain false Rows.fnDateTextRow.laid) (((OpenSpec.ofChange Rows.fnDateTextSpec).at F).post enc Tryz.prog Tryz.f3 false true false false) := by
  obtain ⟨places, hx⟩ := fnDateText_reads os enc
  refine returnsInHanded_of_row (C := Tryz.checked) (s := OpenSpec.ofChange Rows.fnDateTextSpec) own started (by kernel_rfl) Tryz.func3
    (witness_row_atRef (enc := enc) (C := Tryz.checked) false (laidWorldG os) #[.slice none 0 0, .slice none 0 0] rfl (by kernel_rfl) (by kernel_rfl) (by kernel_rfl)
      (OpenSpec.preRow_of_cond 8 hx (by kernel_rfl) (fun k hk => by cases hk) (by kernel_rfl) (fnDateText_met os))) ?_
  intro W base args ds gs before hval hW _ _ _ hL hsh _
  exact fnDateText_contract H enc W base args ds gs before hval hW hL hsh
theorem fnDateText_said : Rows.FnDateTextSaid :=
  OpenClaim.holds_of_cond 3 Tryz.f3 rfl rfl rfl rfl rfl rfl rfl ⟨rfl, rfl, rfl, rfl, rfl⟩ rfl rfl rfl rfl rfl (by kernel_rfl) Tryz.func3 (by kernel_rfl)
    (of_decide_eq_true (by kernel_rfl)) (by unfold Func.isWrapper; first | (rw [if_pos (by decide +kernel)]; kernel_rfl) | (rw [if_neg (by decide +kernel)]; exact ⟨rfl, rfl⟩))
    (fun os started H enc _ F => by rw [OpenClaim.pre_eq_preRow]; exact fnDateText_lifted os started H enc F)
theorem fnDateText_plain (f : FuncId) (fn : Func) (hf : Tryz.pinned.checked.prog.funcNamed "loop.example/mailwire/laws.FnDateText" = some f) (hfn : Tryz.pinned.checked.prog.funcs[f]? = some fn) :
    false = Tryz.pinned.checked.prog.looks [] ∧ ∀ (j : Nat) t, fn.params[j]? = some t → Tryz.pinned.checked.prog.wantsStandIn t = false := by
  obtain rfl : f = 3 := Option.some.inj ((show Tryz.prog.funcNamed "loop.example/mailwire/laws.FnDateText" = some 3 by kernel_rfl).symm.trans hf) |>.symm
  obtain rfl : fn = Tryz.f3 := (Option.some.inj (Tryz.func3.symm.trans hfn)).symm
  refine ⟨by kernel_rfl, fun j t ht => ?_⟩
  rw [Tryz.params3] at ht
  have hm := Array.mem_of_getElem? ht
  simp only [List.mem_toArray, List.mem_cons, List.not_mem_nil, or_false] at hm
  rcases hm with rfl | rfl
  · exact (show Tryz.prog.wantsStandIn 22 = false by kernel_rfl)
  · exact (show Tryz.prog.wantsStandIn 22 = false by kernel_rfl)
/-- FnDateText: THE STATEMENT. -/
theorem fnDateText_card : Rows.FnDateTextCardSaid :=
  Claim7.holds_tied_plain_at .later [] _ _ _ _ fnDateText_said (fun _ h => by cases h) (by kernel_rfl) (fun _ h => by cases h) fnDateText_row_tie rfl ⟨rfl, rfl⟩ (by kernel_rfl) rfl fnDateText_plain (by kernel_rfl)
end Go.Proofs.YtboopbjdehdhgaaGreatDoor
end
