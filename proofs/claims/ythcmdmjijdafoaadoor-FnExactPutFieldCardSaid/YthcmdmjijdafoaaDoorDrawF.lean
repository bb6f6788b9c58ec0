/-
  Draws of chapter 3: fields. No statement is proved here.
-/
import Derived.Test.YthcmdmjijdafoaaDoorDraw1
import Derived.Test.YthcmdmjijdafoaaDoorRows2
import Derived.Test.YthcmdmjijdafoaaDoorFldV
import Derived.Test.YthcmdmjijdafoaaDoorDrawA
namespace Go.Proofs.YthcmdmjijdafoaaDoor
open Go.RowKit

/-- A field drawn, its texts of at most M bytes. -/
def DrawnF (R p c M : Nat) (w : World) (e : Ending) (w' : World) : Prop := ∃ (f : Fld) (p' : Nat), e = .returned (fldV f) ∧ SmallF M f ∧ p ≤ p' ∧ p' ≤ p + c ∧ Rd w' R p' ∧ Touch R w w'
theorem drawnF_mk {R p c M p' : Nat} {w w' : World} {n v : ByteArray} (hn : n.size ≤ M) (hv : v.size ≤ M) (h1 : p ≤ p') (h2 : p' ≤ p + c) (hr : Rd w' R p') (ht : Touch R w w') : DrawnF R p c M w (.returned (.agg #[.string n, .string v])) w' :=
  ⟨fld n v, p', by rw [fldV_fld], ⟨by show n.data.toList.length ≤ M; rw [size_list]; exact hn, by show v.data.toList.length ≤ M; rw [size_list]; exact hv⟩, h1, h2, hr, ht⟩
set_option maxRecDepth 100000 in
set_option maxHeartbeats 1000000 in
theorem l3Draw_any (R p : Nat) (w : World) (hr : Rd w R p) (hp : p ≤ 999999000) : Calls Tryd.prog 35 #[.pointer (some ⟨R, 0, none⟩)] w (DrawnF R p 2 60 w) := by
  have hRl := hr.lt
  have hb0 : Below w.heap.size w (w.alloc (.cells #[.string ⟨#[]⟩, .string ⟨#[]⟩] 25)) := (Below.refl _ _).alloc (Nat.le_refl _) _
  go_enter Tryd.func35, Tryd.ntmps35
  go_wp2_with fail
  refine (of_lit2 R p 7 60 _ _ _ _ (by simp) (hr.below hb0) (by omega) (by omega) (by omega) (by decide)).mono ?_
  rintro e w1 ⟨s1, p1, rfl, g1, f1, k1, hr1, ht1⟩
  go_wp2_with fail
  refine (of_lit R p1 8 60 _ _ w1 hr1 (by omega) (by omega) (by omega) (by decide)).mono ?_
  rintro e w2 ⟨s2, p2, rfl, g2, f2, k2, hr2, ht2⟩
  have ht13 := ht1.trans ht2
  obtain ⟨hc, hf⟩ := tcell ht13
  have hsz := ht13.size
  simp at hsz
  have hlt : w.heap.size < w2.heap.size := by omega
  have hRB : w.heap.size ≠ R := by omega
  have htw := (Touch.of_below (R := R) hb0).trans ht13
  go_wp2
  refine bodyPost_ret (v := .agg #[.string s1, .string s2]) (by simp [results, Tryd.results35, go_sem, hc, hRB]) rfl (drawnF_mk (p' := p2) g1 g2 (by omega) (by omega) ?_ ?_)
  · exact hr2.belowB (((Below.refl w.heap.size w2).setCell (p := ⟨w.heap.size, 0, none⟩) (Nat.le_refl _) _).setCell (p := ⟨w.heap.size, 1, none⟩) (Nat.le_refl _) _) hRl
  · exact ((htw.setNew (Nat.le_refl _) _).setNew (Nat.le_refl _) _)
set_option maxRecDepth 100000 in
set_option maxHeartbeats 1000000 in
theorem l3Wrong_any (R p M : Nat) (n v : ByteArray) (w : World) (hr : Rd w R p) (hp : p ≤ 999999000) (hM : 60 ≤ M) (hn : n.size ≤ M) (hv : v.size ≤ M) :
    Calls Tryd.prog 34 #[.pointer (some ⟨R, 0, none⟩), .agg #[.string n, .string v]] w (DrawnF R p 2 M w) := by
  have hRl := hr.lt
  have hbX : Below w.heap.size w (w.alloc (.cells #[.string n, .string v] 25)) := (Below.refl _ _).alloc (Nat.le_refl _) _
  have hb0 : Below w.heap.size w ((w.alloc (.cells #[.string n, .string v] 25)).alloc (.cells #[.string ⟨#[]⟩, .string ⟨#[]⟩] 25)) := hbX.alloc (by simp) _
  go_enter Tryd.func34, Tryd.ntmps34
  go_wp2_with fail
  refine (pick_any R p 20 _ (hr.below hb0) (by omega) (by omega)).mono ?_
  rintro e w1 ⟨k, rfl, hk, hr1, ht1⟩
  have htw1 := (Touch.of_below (R := R) hb0).trans ht1
  obtain ⟨c10, c11, f10, f11⟩ := fresh2 hRl ht1
  have hsz1 := ht1.size
  simp at hsz1
  have hRB : w.heap.size ≠ R := by omega
  have hRB2 : w.heap.size + 1 ≠ R := by omega
  have hlt0 : w.heap.size < w1.heap.size := by omega
  have hlt1 : w.heap.size + 1 < w1.heap.size := by omega
  by_cases k0 : k = 0
  · have e0 : ((k : Int) == 0) = true := by rw [k0]; rfl
    clear k0 hk
    go_wp2_with fail
    refine (of_lit R (p + 1) 6 60 _ _ w1 hr1 (by omega) (by omega) (by omega) (by decide)).mono ?_
    rintro e w2 ⟨s2, p2, rfl, g2, f2, k2, hr2, ht2⟩
    obtain ⟨c20, c21, f20, f21⟩ := fresh2 hRl (ht1.trans ht2)
    have hsz2 := ht2.size
    have hlt02 : w.heap.size < w2.heap.size := by omega
    have hlt12 : w.heap.size + 1 < w2.heap.size := by omega
    have htw2 := htw1.trans ht2
    go_wp2
    refine bodyPost_ret (v := .agg #[.string s2, .string v]) (by simp [results, Tryd.results34, go_sem, c21]) rfl (drawnF_mk (by omega) hv (p' := p2) (by omega) (by omega) ?_ ?_)
    · exact hr2.belowB ((((Below.refl w.heap.size w2).setCell (by simp) _).setCell (by simp) _).setCell (by simp) _) hRl
    · exact (((htw2.setNew (by simp) _).setNew (by simp) _).setNew (by simp) _)
  · have e0 : ((k : Int) == 0) = false := by rw [beq_eq_false_iff_ne]; omega
    by_cases k1 : k = 1
    · have e1 : ((k : Int) == 1) = true := by rw [k1]; rfl
      clear k0 k1 hk
      go_wp2_with fail
      refine (of_lit R (p + 1) 3 60 _ _ w1 hr1 (by omega) (by omega) (by omega) (by decide)).mono ?_
      rintro e w2 ⟨s2, p2, rfl, g2, f2, k2, hr2, ht2⟩
      obtain ⟨c20, c21, f20, f21⟩ := fresh2 hRl (ht1.trans ht2)
      have hsz2 := ht2.size
      have hlt02 : w.heap.size < w2.heap.size := by omega
      have hlt12 : w.heap.size + 1 < w2.heap.size := by omega
      have htw2 := htw1.trans ht2
      go_wp2
      refine bodyPost_ret (v := .agg #[.string n, .string s2]) (by simp [results, Tryd.results34, go_sem, c21]) rfl (drawnF_mk hn (by omega) (p' := p2) (by omega) (by omega) ?_ ?_)
      · exact hr2.belowB ((((Below.refl w.heap.size w2).setCell (by simp) _).setCell (by simp) _).setCell (by simp) _) hRl
      · exact (((htw2.setNew (by simp) _).setNew (by simp) _).setNew (by simp) _)
    · have e1 : ((k : Int) == 1) = false := by rw [beq_eq_false_iff_ne]; omega
      clear k0 k1 hk
      go_wp2
      refine bodyPost_ret (v := .agg #[.string n, .string v]) (by simp [results, Tryd.results34, go_sem, c11]) rfl (drawnF_mk hn hv (p' := p + 1) (by omega) (by omega) ?_ ?_)
      · exact hr1.belowB (((Below.refl w.heap.size w1).setCell (by simp) _).setCell (by simp) _) hRl
      · exact ((htw1.setNew (by simp) _).setNew (by simp) _)
theorem l3Wrong_fld (R p M : Nat) (f : Fld) (w : World) (hr : Rd w R p) (hp : p ≤ 999999000) (hM : 60 ≤ M) (hf : SmallF M f) :
    Calls Tryd.prog 34 #[.pointer (some ⟨R, 0, none⟩), fldV f] w (DrawnF R p 2 M w) :=
  l3Wrong_any R p M (str f.name) (str f.val) w hr hp hM (by rw [str_size]; exact hf.1) (by rw [str_size]; exact hf.2)
end Go.Proofs.YthcmdmjijdafoaaDoor
