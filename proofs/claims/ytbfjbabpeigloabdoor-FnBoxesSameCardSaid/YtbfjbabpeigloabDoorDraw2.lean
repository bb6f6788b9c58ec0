/-
  Draws of chapter 1: lists of texts. No statement is proved here.
-/
import Derived.Test.YtbfjbabpeigloabDoorDraw1
import Derived.Test.YtbfjbabpeigloabDoorJoin
namespace Go.Proofs.YtbfjbabpeigloabDoor
open Go.RowKit

theorem OwnL.touch {B R : Nat} {v : Value} {xs : List (List UInt8)} {w w' : World} (h : OwnL B v xs w) (t : Touch R w w') (hR : R < B) : OwnL B v xs w' := by
  refine ⟨h.1, ?_⟩
  rcases h.2 with hn | ⟨g, cap, cur, hv, hg1, hg2, rest⟩
  · exact .inl hn
  · refine .inr ⟨g, cap, cur, hv, hg1, ?_, rest⟩
    have hglt : g < w.heap.size := by
      rcases Nat.lt_or_ge g w.heap.size with h' | h'
      · exact h'
      · simp [Array.getElem?_eq_none h'] at hg2
    rw [t.block g hglt (by omega), hg2]
end Go.Proofs.YtbfjbabpeigloabDoor
