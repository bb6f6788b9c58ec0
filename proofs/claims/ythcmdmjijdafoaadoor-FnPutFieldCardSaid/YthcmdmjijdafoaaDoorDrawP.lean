/-
  A list of fields and a field, drawn. No statement is proved here.
-/
import Derived.Test.YthcmdmjijdafoaaDoorDrawF2
namespace Go.Proofs.YthcmdmjijdafoaaDoor
open Go.ChangeShapes Go.WideShapes Go.ChangeAt Go.RowKit

theorem drawnPut_mk {M : Nat} {w w' : World} {v : Value} {xs : List Fld} {f : Fld} (ho : OwnF w.heap.size v xs w') (hl : xs.length ≤ 4) (hx : ∀ x ∈ xs, SmallF M x) (hf : SmallF M f) (hb : Below w.heap.size w w') :
    DrawnPut M w (.returned (.tuple #[v, .agg #[.string (str f.name), .string (str f.val)]])) w' := ⟨v, xs, f, rfl, ho, hl, hx, hf, hb⟩
set_option maxRecDepth 100000 in
set_option maxHeartbeats 1000000 in
theorem drawPutField_any (a : Option Addr) (n c : Nat) (w : World) (hc : Code w a n) (hnc : n ≤ c) (hm : c ≤ maxLen) :
    Calls Tryd.prog 9 #[.slice a n c] w (DrawnPut 60 w) := by
  have hb0 : Below w.heap.size w (w.alloc (.cells #[.string ⟨#[]⟩, .string ⟨#[]⟩] 25)) := (Below.refl _ _).alloc (Nat.le_refl _) _
  go_enter Tryd.func9, Tryd.ntmps9
  go_wp2_with fail
  refine (open_any a n c _ (hc.below hb0) hnc hm).mono ?_
  rintro e w1 ⟨R, rfl, hR, hr1, hb1⟩
  have hs1 := hb1.size
  simp at hs1
  have hRl := hr1.lt
  go_wp2_with fail
  refine (l3Some_any R 0 w1 hr1 (by omega)).mono ?_
  rintro e w2 ⟨v, xs, p2, rfl, ho2, hl2, hx2, f2, k2, hr2, ht2⟩
  go_wp2_with fail
  refine (l3Draw_any R p2 w2 hr2 (by omega)).mono ?_
  rintro e w3 ⟨x3, p3, rfl, g3, f3, k3, hr3, ht3⟩
  go_wp2_with fail
  refine (l3Wrong_fld R p3 60 x3 w3 hr3 (by omega) (by omega) g3).mono ?_
  rintro e w4 ⟨x4, p4, rfl, g4, f4, k4, hr4, ht4⟩
  have hb14 := after_open hb1 hR (ht2.trans (ht3.trans ht4))
  have hXV : fldV x4 = .agg #[.string (str x4.name), .string (str x4.val)] := rfl
  rw [hXV]
  clear hXV
  have hO4 := ho2.touch (ht3.trans ht4) hRl
  obtain ⟨hc4, hf4⟩ := bcell hb14
  have hsz := hb14.size
  simp at hsz
  have hlt : w.heap.size < w4.heap.size := by omega
  have hw1 : w.heap.size < w1.heap.size := by omega
  have hO5 := ((hO4.touch (Touch.setCell w4 w.heap.size 0 (.string (str x4.name))) hw1).touch (Touch.setCell _ w.heap.size 1 (.string (str x4.val))) hw1).base (B' := w.heap.size) (by omega)
  go_wp2
  exact bodyPost_ret (v := .tuple #[v, .agg #[.string (str x4.name), .string (str x4.val)]]) (by simp [results, Tryd.results9, go_sem, hc4]) rfl (drawnPut_mk hO5 hl2 hx2 g4 ((((nx hb0 hb14).setCell (by simp) _).setCell (by simp) _)))
end Go.Proofs.YthcmdmjijdafoaaDoor
