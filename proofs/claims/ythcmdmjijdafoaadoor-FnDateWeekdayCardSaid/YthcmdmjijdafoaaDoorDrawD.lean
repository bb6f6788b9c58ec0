/-
  Dates: draws. No statement is proved here.
-/
import Derived.Test.YthcmdmjijdafoaaDoorDraw
import Derived.Test.YthcmdmjijdafoaaDoorDateS4
namespace Go.Proofs.YthcmdmjijdafoaaDoor
open Go.RowKit

/-- The numbers of a date are small. -/
def Sm (n : Int) : Prop := -1000000 ≤ n ∧ n ≤ 1000000
def SmallD (D : Dat) : Prop := Sm D.y ∧ Sm D.mo ∧ Sm D.d ∧ Sm D.h ∧ Sm D.mi ∧ Sm D.s ∧ Sm D.z
theorem small_ok {D : Dat} (h : OkDate D) : SmallD D := by
  obtain ⟨⟨⟨h1, h2, h3, h4, h5, h6⟩, a2, a3, a4, a5⟩, _⟩ := h
  have := dim_le D.y D.mo
  unfold SmallD Sm; omega
theorem small_dateR (o : Int × Int) : SmallD (dateR o.1 o.2) := by
  cases h : dateO o.1 o.2 with
  | none => rw [dateR_none h]; unfold SmallD Sm dat0; simp only; omega
  | some D => rw [dateR_some h]; exact small_ok (dateO_some.1 h).1
theorem touch_new {R b i : Nat} {w w' : World} (h : Touch R w w') (hb : w.heap.size ≤ b) (v : Value) : Touch R w (w'.setCell ⟨b, i, none⟩ v) :=
  ⟨h.os, h.tape, h.output, by have := h.size; simpa [World.setCell] using this, fun k hk hr => by rw [Below.heap_setCell _ _ _ _ (by show k ≠ b; omega)]; exact h.block k hk hr⟩
theorem below_of_open {w w1 w2 : World} {R : Nat} (hb : Below w.heap.size w w1) (hR : w.heap.size ≤ R) (t : Touch R w1 w2) : Below w.heap.size w w2 :=
  hb.trans (t.below hR hb.size)
theorem laid7_touch {B R : Nat} {D : Dat} {w w' : World} (h : Laid7 B D w) (t : Touch R w w') (hr : B ≠ R) : Laid7 B D w' := by
  have hl := lt_of_cell h.1
  unfold Laid7 at h ⊢
  simp only [t.cell hl hr]; exact h
/-- Two new blocks, behind whatever the reader has done. -/
theorem fresh2D {R : Nat} {w w' : World} {C D : Array Value} {T : TypeId} (hR : R < w.heap.size) (t : Touch R ((w.alloc (.cells C T)).alloc (.cells D T)) w') :
    (∀ i, w'.cell? ⟨w.heap.size, i, none⟩ = C[i]?) ∧ (∀ i, w'.cell? ⟨w.heap.size + 1, i, none⟩ = D[i]?) ∧ (∀ i, w'.frozen? ⟨w.heap.size, i, none⟩ = false) ∧ (∀ i, w'.frozen? ⟨w.heap.size + 1, i, none⟩ = false) := by
  refine ⟨fun i => ?_, fun i => ?_, fun i => ?_, fun i => ?_⟩
  · rw [t.cell (by simp; omega) (by omega), World.cell?_alloc_lt _ _ _ (by simp), World.cell?_alloc_at _ _ _ _ rfl]
  · rw [t.cell (by simp) (by omega), World.cell?_alloc_at _ _ _ _ (by simp)]
  · rw [t.fz (by simp; omega) (by omega), below_fz ((Below.refl _ _).alloc (Nat.le_refl _) _) (by simp), World.frozen?_alloc_at _ _ _ _ rfl]
  · rw [t.fz (by simp) (by omega), World.frozen?_alloc_at _ _ _ _ (by simp)]
theorem num_lit (R p n N : Nat) (xs : List Int) (t : TypeId) (w : World) (hN : w.heap.size = N) (hr : Rd w R p) (hp : p ≤ 1000000000) (hn : xs.length = n) (h0 : 0 < n) (h1 : n ≤ 1000000) :
    Calls Tryd.prog 103 #[.pointer (some ⟨R, 0, none⟩), .slice (some ⟨N, 0, none⟩) n n] (w.alloc (.cells (xs.map fun x => Value.int .i64 x).toArray t)) fun e w' => ∃ x, x ∈ xs ∧ e = .returned (.int .i64 x) ∧ Rd w' R (p + 1) ∧ Touch R w w' := by
  subst hN
  have hb : Below w.heap.size w (w.alloc (.cells (xs.map fun x => Value.int .i64 x).toArray t)) := (Below.refl _ _).alloc (Nat.le_refl _) _
  refine (num_any R p w.heap.size 0 n n xs _ (hr.below hb) hp (by have := hr.lt; omega) (by simp) h0 h1 hn (fun i hi => ?_)).mono ?_
  · rw [World.cell?_alloc_at _ _ _ _ rfl, Nat.zero_add]; simp [hi]
  · rintro e w' ⟨x, h2, h3, h4, h5⟩
    exact ⟨x, h2, h3, h4, (Touch.of_below hb).trans h5⟩
/-- A date drawn. -/
def DrawnD (R p c : Nat) (w : World) (e : Ending) (w' : World) : Prop := ∃ (D : Dat) (p' : Nat), e = .returned (datV D) ∧ SmallD D ∧ p ≤ p' ∧ p' ≤ p + c ∧ Rd w' R p' ∧ Touch R w w'
theorem drawnD_mk {R p c p' : Nat} {w w' : World} {y m d h mi s z : Int} (hs : SmallD ⟨y, m, d, h, mi, s, z⟩) (h1 : p ≤ p') (h2 : p' ≤ p + c) (hr : Rd w' R p') (ht : Touch R w w') : DrawnD R p c w (.returned (.agg #[.int .i64 y, .int .i64 m, .int .i64 d, .int .i64 h, .int .i64 mi, .int .i64 s, .int .i64 z])) w' :=
  ⟨⟨y, m, d, h, mi, s, z⟩, p', rfl, hs, h1, h2, hr, ht⟩
set_option maxRecDepth 100000 in
set_option maxHeartbeats 1000000 in
theorem l4Draw_any (R p : Nat) (w : World) (hr : Rd w R p) (hp : p ≤ 999999000) : Calls Tryd.prog 80 #[.pointer (some ⟨R, 0, none⟩)] w (DrawnD R p 3 w) := by
  have hRl := hr.lt
  have hb0 := laid7_below 0 0 0 0 0 0 0 37 w
  have hz0 := laid7_new 0 0 0 0 0 0 0 37 w
  have hf0 : ∀ i, (w.alloc (.cells #[.int .i64 0, .int .i64 0, .int .i64 0, .int .i64 0, .int .i64 0, .int .i64 0, .int .i64 0] 37)).frozen? ⟨w.heap.size, i, none⟩ = false := fun i => by rw [World.frozen?_alloc_at _ _ _ _ rfl]
  have hsz0 : w.heap.size < (w.alloc (.cells #[.int .i64 0, .int .i64 0, .int .i64 0, .int .i64 0, .int .i64 0, .int .i64 0, .int .i64 0] 37)).heap.size := by simp
  have hRB : w.heap.size ≠ R := by omega
  have HZ := Lib.hid hz0
  have HF := Lib.hid hf0
  have HB := Lib.hid hb0
  clear hz0 hf0
  go_enter Tryd.func80, Tryd.ntmps80
  go_wp2_with fail
  refine (num_lit R p 7 _ [1767596889, 951782400, 86400, 1000000000, 4102358400, 1709164800, 1709251199] _ _ (by simp) (hr.below hb0) (by omega) rfl (by omega) (by omega)).mono ?_
  rintro e w1 ⟨n1, m1, rfl, hr1, ht1⟩
  have hn1 : 0 ≤ n1 ∧ n1 ≤ 5000000000 := by simp at m1; omega
  clear m1
  go_wp2_with fail
  refine (pick_any R (p + 1) 100000 w1 hr1 (by omega) (by omega)).mono ?_
  rintro e w2 ⟨k, rfl, hk, hr2, ht2⟩
  have hk2 : (k : Int) < 100000 := by omega
  clear hk
  go_wp2_with fail
  refine (num_lit R (p + 1 + 1) 7 _ [0, 60, -480, 330, 0, 840, -720] _ _ rfl hr2 (by omega) rfl (by omega) (by omega)).mono ?_
  rintro e w3 ⟨n2, m2, rfl, hr3, ht3⟩
  go_wp2_with fail
  refine (dateOfS_any (n1 + k) n2 w3).mono ?_
  rintro e w4 ⟨rfl, hb4⟩
  have hsm := small_dateR (n1 + k, n2)
  unfold dateR at hsm
  simp only at hsm
  obtain ⟨e0, e1, e2, e3, e4, e5, e6, hE⟩ : ∃ e0 e1 e2 e3 e4 e5 e6, (dateO (n1 + k) n2).getD dat0 = ⟨e0, e1, e2, e3, e4, e5, e6⟩ := ⟨_, _, _, _, _, _, _, rfl⟩
  rw [hE] at hsm
  rw [hE]
  have HSM := Lib.hid hsm
  clear hE hsm m2
  unfold datV
  have ht14 := (ht1.trans (ht2.trans ht3)).trans (Touch.of_below hb4)
  have hr4 := hr3.below hb4
  have hzz := laid7_touch HZ.out ht14 hRB
  have hff : ∀ i, w4.frozen? ⟨w.heap.size, i, none⟩ = false := fun i => by rw [ht14.fz hsz0 hRB]; exact HF.out i
  have HTW := Lib.hid ((Touch.of_below (R := R) HB.out).trans ht14)
  have HR4 := Lib.hid hr4
  obtain ⟨z0, z1, z2, z3, z4, z5, z6⟩ := hzz
  simp only at z0 z1 z2 z3 z4 z5 z6
  have g0 := hff 0
  have g1 := hff 1
  have g2 := hff 2
  have g3 := hff 3
  have g4 := hff 4
  have g5 := hff 5
  have g6 := hff 6
  have hlt : w.heap.size < w4.heap.size := lt_of_cell z0
  have hne : w.heap.size ≠ w4.heap.size := by omega
  clear hff hb0 hr1 hr2 hr3 hr4 ht1 ht2 ht3 ht14 hb4 hsz0
  go_wp2
  have ha : ∀ (X : World) (o : Obj) (i : Nat), X.heap.size = w4.heap.size → (X.alloc o).cell? ⟨w.heap.size, i, none⟩ = X.cell? ⟨w.heap.size, i, none⟩ := fun X o i h => World.cell?_alloc_old _ _ _ (by rw [h]; exact hne)
  refine bodyPost_ret (v := .agg #[.int .i64 e0, .int .i64 e1, .int .i64 e2, .int .i64 e3, .int .i64 e4, .int .i64 e5, .int .i64 e6]) (by simp [results, Tryd.results80, go_sem, ha, z0, z1, z2, z3, z4, z5, z6]) rfl (drawnD_mk HSM.out (p' := p + 1 + 1 + 1) (by omega) (by omega) ?_ ?_)
  · refine HR4.out.belowB (B := w.heap.size) ?_ hRl
    refine Below.alloc ?_ (by simp; omega) _
    iterate 7 refine Below.setCell ?_ (by simp) _
    exact Below.refl _ _
  · refine Touch.alloc ?_ _
    iterate 7 refine touch_new ?_ (by simp) _
    exact HTW.out
set_option maxRecDepth 100000 in
set_option maxHeartbeats 4000000 in
theorem l4Wrong_any (R p : Nat) (y m d h mi s z : Int) (w : World) (hr : Rd w R p) (hp : p ≤ 999999000) (hs : SmallD ⟨y, m, d, h, mi, s, z⟩) :
    Calls Tryd.prog 79 #[.pointer (some ⟨R, 0, none⟩), .agg #[.int .i64 y, .int .i64 m, .int .i64 d, .int .i64 h, .int .i64 mi, .int .i64 s, .int .i64 z]] w (DrawnD R p 2 w) := by
  have hRl := hr.lt
  have HS : Hid (Sm y ∧ Sm m ∧ Sm d ∧ Sm h ∧ Sm mi ∧ Sm s ∧ Sm z) := hs
  have hb0 := nx (laid7_below y m d h mi s z 37 w) (laid7_below 0 0 0 0 0 0 0 37 (w.alloc (.cells #[.int .i64 y, .int .i64 m, .int .i64 d, .int .i64 h, .int .i64 mi, .int .i64 s, .int .i64 z] 37)))
  have HB := Lib.hid hb0
  clear hs
  go_enter Tryd.func79, Tryd.ntmps79
  go_wp2_with fail
  refine (pick_any R p 24 _ (hr.below hb0) (by omega) (by omega)).mono ?_
  rintro e w1 ⟨k, rfl, hk, hr1, ht1⟩
  have htw1 := (Touch.of_below (R := R) hb0).trans ht1
  have HT1 := Lib.hid htw1
  obtain ⟨c10, c11, f10, f11⟩ := fresh2D hRl ht1
  have hsz1 := ht1.size
  simp at hsz1
  have hRB : w.heap.size ≠ R := by omega
  have hRB2 : w.heap.size + 1 ≠ R := by omega
  have hlt0 : w.heap.size < w1.heap.size := by omega
  have hlt1 : w.heap.size + 1 < w1.heap.size := by omega
  clear hb0 htw1
  by_cases k0 : k = 0
  · have e0 : ((k : Int) == 0) = true := by rw [k0]; rfl
    clear k0 hk
    go_wp2_with fail
    refine (num_lit R (p + 1) 5 _ [0, 31, 32, 29, 30] _ w1 rfl hr1 (by omega) rfl (by omega) (by omega)).mono ?_
    rintro e w2 ⟨x, hx, rfl, hr2, ht2⟩
    have hsx : Sm x := by simp at hx; unfold Sm; omega
    have HSX := Lib.hid hsx
    clear hx hsx c10 c11 f10 f11
    obtain ⟨c20, c21, f20, f21⟩ := fresh2D hRl (ht1.trans ht2)
    have hsz2 := ht2.size
    have hlt02 : w.heap.size < w2.heap.size := by omega
    have hlt12 : w.heap.size + 1 < w2.heap.size := by omega
    have HT2 := Lib.hid (HT1.out.trans ht2)
    go_wp2
    refine bodyPost_ret (v := .agg #[.int .i64 y, .int .i64 m, .int .i64 x, .int .i64 h, .int .i64 mi, .int .i64 s, .int .i64 z]) (by simp [results, Tryd.results79, go_sem, c21]) rfl (drawnD_mk (p' := p + 1 + 1) (by obtain ⟨a0, a1, a2, a3, a4, a5, a6⟩ := HS.out; have := HSX.out; exact ⟨by assumption, by assumption, by assumption, by assumption, by assumption, by assumption, by assumption⟩) (by omega) (by omega) ?_ ?_)
    · refine hr2.belowB (B := w.heap.size) ?_ hRl
      iterate 8 refine Below.setCell ?_ (by simp) _
      exact Below.refl _ _
    · iterate 8 refine touch_new ?_ (by simp) _
      exact HT2.out
  have e0 : ((k : Int) == 0) = false := by rw [beq_eq_false_iff_ne]; omega
  by_cases k1 : k = 1
  · have e1 : ((k : Int) == 1) = true := by rw [k1]; rfl
    clear k0 k1 hk
    go_wp2_with fail
    refine (num_lit R (p + 1) 3 _ [0, 13, 2] _ w1 rfl hr1 (by omega) rfl (by omega) (by omega)).mono ?_
    rintro e w2 ⟨x, hx, rfl, hr2, ht2⟩
    have hsx : Sm x := by simp at hx; unfold Sm; omega
    have HSX := Lib.hid hsx
    clear hx hsx c10 c11 f10 f11
    obtain ⟨c20, c21, f20, f21⟩ := fresh2D hRl (ht1.trans ht2)
    have hsz2 := ht2.size
    have hlt02 : w.heap.size < w2.heap.size := by omega
    have hlt12 : w.heap.size + 1 < w2.heap.size := by omega
    have HT2 := Lib.hid (HT1.out.trans ht2)
    go_wp2
    refine bodyPost_ret (v := .agg #[.int .i64 y, .int .i64 x, .int .i64 d, .int .i64 h, .int .i64 mi, .int .i64 s, .int .i64 z]) (by simp [results, Tryd.results79, go_sem, c21]) rfl (drawnD_mk (p' := p + 1 + 1) (by obtain ⟨a0, a1, a2, a3, a4, a5, a6⟩ := HS.out; have := HSX.out; exact ⟨by assumption, by assumption, by assumption, by assumption, by assumption, by assumption, by assumption⟩) (by omega) (by omega) ?_ ?_)
    · refine hr2.belowB (B := w.heap.size) ?_ hRl
      iterate 8 refine Below.setCell ?_ (by simp) _
      exact Below.refl _ _
    · iterate 8 refine touch_new ?_ (by simp) _
      exact HT2.out
  have e1 : ((k : Int) == 1) = false := by rw [beq_eq_false_iff_ne]; omega
  by_cases k2 : k = 2
  · have e2 : ((k : Int) == 2) = true := by rw [k2]; rfl
    clear k0 k1 k2 hk
    go_wp2_with fail
    refine (num_lit R (p + 1) 4 _ [1969, 2100, 1970, 2099] _ w1 rfl hr1 (by omega) rfl (by omega) (by omega)).mono ?_
    rintro e w2 ⟨x, hx, rfl, hr2, ht2⟩
    have hsx : Sm x := by simp at hx; unfold Sm; omega
    have HSX := Lib.hid hsx
    clear hx hsx c10 c11 f10 f11
    obtain ⟨c20, c21, f20, f21⟩ := fresh2D hRl (ht1.trans ht2)
    have hsz2 := ht2.size
    have hlt02 : w.heap.size < w2.heap.size := by omega
    have hlt12 : w.heap.size + 1 < w2.heap.size := by omega
    have HT2 := Lib.hid (HT1.out.trans ht2)
    go_wp2
    refine bodyPost_ret (v := .agg #[.int .i64 x, .int .i64 m, .int .i64 d, .int .i64 h, .int .i64 mi, .int .i64 s, .int .i64 z]) (by simp [results, Tryd.results79, go_sem, c21]) rfl (drawnD_mk (p' := p + 1 + 1) (by obtain ⟨a0, a1, a2, a3, a4, a5, a6⟩ := HS.out; have := HSX.out; exact ⟨by assumption, by assumption, by assumption, by assumption, by assumption, by assumption, by assumption⟩) (by omega) (by omega) ?_ ?_)
    · refine hr2.belowB (B := w.heap.size) ?_ hRl
      iterate 8 refine Below.setCell ?_ (by simp) _
      exact Below.refl _ _
    · iterate 8 refine touch_new ?_ (by simp) _
      exact HT2.out
  have e2 : ((k : Int) == 2) = false := by rw [beq_eq_false_iff_ne]; omega
  by_cases k3 : k = 3
  · have e3 : ((k : Int) == 3) = true := by rw [k3]; rfl
    clear k0 k1 k2 k3 hk
    go_wp2_with fail
    refine (num_lit R (p + 1) 4 _ [24, -1, 0, 23] _ w1 rfl hr1 (by omega) rfl (by omega) (by omega)).mono ?_
    rintro e w2 ⟨x, hx, rfl, hr2, ht2⟩
    have hsx : Sm x := by simp at hx; unfold Sm; omega
    have HSX := Lib.hid hsx
    clear hx hsx c10 c11 f10 f11
    obtain ⟨c20, c21, f20, f21⟩ := fresh2D hRl (ht1.trans ht2)
    have hsz2 := ht2.size
    have hlt02 : w.heap.size < w2.heap.size := by omega
    have hlt12 : w.heap.size + 1 < w2.heap.size := by omega
    have HT2 := Lib.hid (HT1.out.trans ht2)
    go_wp2
    refine bodyPost_ret (v := .agg #[.int .i64 y, .int .i64 m, .int .i64 d, .int .i64 x, .int .i64 mi, .int .i64 s, .int .i64 z]) (by simp [results, Tryd.results79, go_sem, c21]) rfl (drawnD_mk (p' := p + 1 + 1) (by obtain ⟨a0, a1, a2, a3, a4, a5, a6⟩ := HS.out; have := HSX.out; exact ⟨by assumption, by assumption, by assumption, by assumption, by assumption, by assumption, by assumption⟩) (by omega) (by omega) ?_ ?_)
    · refine hr2.belowB (B := w.heap.size) ?_ hRl
      iterate 8 refine Below.setCell ?_ (by simp) _
      exact Below.refl _ _
    · iterate 8 refine touch_new ?_ (by simp) _
      exact HT2.out
  have e3 : ((k : Int) == 3) = false := by rw [beq_eq_false_iff_ne]; omega
  by_cases k4 : k = 4
  · have e4 : ((k : Int) == 4) = true := by rw [k4]; rfl
    clear k0 k1 k2 k3 k4 hk
    go_wp2_with fail
    refine (num_lit R (p + 1) 3 _ [-721, 841, 840] _ w1 rfl hr1 (by omega) rfl (by omega) (by omega)).mono ?_
    rintro e w2 ⟨x, hx, rfl, hr2, ht2⟩
    have hsx : Sm x := by simp at hx; unfold Sm; omega
    have HSX := Lib.hid hsx
    clear hx hsx c10 c11 f10 f11
    obtain ⟨c20, c21, f20, f21⟩ := fresh2D hRl (ht1.trans ht2)
    have hsz2 := ht2.size
    have hlt02 : w.heap.size < w2.heap.size := by omega
    have hlt12 : w.heap.size + 1 < w2.heap.size := by omega
    have HT2 := Lib.hid (HT1.out.trans ht2)
    go_wp2
    refine bodyPost_ret (v := .agg #[.int .i64 y, .int .i64 m, .int .i64 d, .int .i64 h, .int .i64 mi, .int .i64 s, .int .i64 x]) (by simp [results, Tryd.results79, go_sem, c21]) rfl (drawnD_mk (p' := p + 1 + 1) (by obtain ⟨a0, a1, a2, a3, a4, a5, a6⟩ := HS.out; have := HSX.out; exact ⟨by assumption, by assumption, by assumption, by assumption, by assumption, by assumption, by assumption⟩) (by omega) (by omega) ?_ ?_)
    · refine hr2.belowB (B := w.heap.size) ?_ hRl
      iterate 8 refine Below.setCell ?_ (by simp) _
      exact Below.refl _ _
    · iterate 8 refine touch_new ?_ (by simp) _
      exact HT2.out
  have e4 : ((k : Int) == 4) = false := by rw [beq_eq_false_iff_ne]; omega
  by_cases k5 : k = 5
  · have e5 : ((k : Int) == 5) = true := by rw [k5]; rfl
    clear k0 k1 k2 k3 k4 k5 hk
    go_wp2_with fail
    refine (num_lit R (p + 1) 2 _ [60, -1] _ w1 rfl hr1 (by omega) rfl (by omega) (by omega)).mono ?_
    rintro e w2 ⟨x, hx, rfl, hr2, ht2⟩
    have hsx : Sm x := by simp at hx; unfold Sm; omega
    have HSX := Lib.hid hsx
    clear hx hsx c10 c11 f10 f11
    obtain ⟨c20, c21, f20, f21⟩ := fresh2D hRl (ht1.trans ht2)
    have hsz2 := ht2.size
    have hlt02 : w.heap.size < w2.heap.size := by omega
    have hlt12 : w.heap.size + 1 < w2.heap.size := by omega
    have HT2 := Lib.hid (HT1.out.trans ht2)
    go_wp2
    refine bodyPost_ret (v := .agg #[.int .i64 y, .int .i64 m, .int .i64 d, .int .i64 h, .int .i64 mi, .int .i64 x, .int .i64 z]) (by simp [results, Tryd.results79, go_sem, c21]) rfl (drawnD_mk (p' := p + 1 + 1) (by obtain ⟨a0, a1, a2, a3, a4, a5, a6⟩ := HS.out; have := HSX.out; exact ⟨by assumption, by assumption, by assumption, by assumption, by assumption, by assumption, by assumption⟩) (by omega) (by omega) ?_ ?_)
    · refine hr2.belowB (B := w.heap.size) ?_ hRl
      iterate 8 refine Below.setCell ?_ (by simp) _
      exact Below.refl _ _
    · iterate 8 refine touch_new ?_ (by simp) _
      exact HT2.out
  have e5 : ((k : Int) == 5) = false := by rw [beq_eq_false_iff_ne]; omega
  clear k0 k1 k2 k3 k4 k5 hk
  go_wp2
  refine bodyPost_ret (v := .agg #[.int .i64 y, .int .i64 m, .int .i64 d, .int .i64 h, .int .i64 mi, .int .i64 s, .int .i64 z]) (by simp [results, Tryd.results79, go_sem, c11]) rfl (drawnD_mk (p' := p + 1) HS.out (by omega) (by omega) ?_ ?_)
  · refine hr1.belowB (B := w.heap.size) ?_ hRl
    iterate 7 refine Below.setCell ?_ (by simp) _
    exact Below.refl _ _
  · iterate 7 refine touch_new ?_ (by simp) _
    exact HT1.out
theorem l4Wrong_dat (R p : Nat) (D : Dat) (w : World) (hr : Rd w R p) (hp : p ≤ 999999000) (hs : SmallD D) :
    Calls Tryd.prog 79 #[.pointer (some ⟨R, 0, none⟩), datV D] w (DrawnD R p 2 w) := l4Wrong_any R p D.y D.mo D.d D.h D.mi D.s D.z w hr hp hs
end Go.Proofs.YthcmdmjijdafoaaDoor
