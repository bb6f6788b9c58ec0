/-
  Dates written as texts in the model: the whole text. No statement is proved here.
-/
import Derived.Test.YtboopbjdehdhgacDoorFmtS
import Derived.Test.YtboopbjdehdhgacDoorGrow
namespace Go.Proofs.YtboopbjdehdhgacDoor
open Go.RowKit Go.Sort

/-- The name of a month in a row that has been laid. -/
def MonAt (b J : Nat) (S : ByteArray) (w : World) : Prop := w.cell? ⟨b, J, none⟩ = some (.string S)
theorem MonAt.below {b J : Nat} {S : ByteArray} {w w' : World} (h : MonAt b J S w) (k : Below w.heap.size w w') : MonAt b J S w' := by
  unfold MonAt at h ⊢; rw [below_at k (lt_of_cell h)]; exact h
theorem l4Months_any (J : Nat) (S : ByteArray) (w : World) (hJ : J < 12) (hS : str (moL.getD J []) = S) : Calls Tryd.prog 16 #[] w fun e w' => e = .returned (.slice (some ⟨w.heap.size, 0, none⟩) 12 12) ∧ Below w.heap.size w w' ∧ MonAt w.heap.size J S w' := by
  go_enter Tryd.func16, Tryd.ntmps16
  go_wp2
  go_ret
  refine ⟨rfl, (Below.refl _ _).alloc (Nat.le_refl _) _, ?_⟩
  unfold MonAt
  rw [World.cell?_alloc_at _ _ _ _ rfl, ← hS]
  rcases (by omega : J = 0 ∨ J = 1 ∨ J = 2 ∨ J = 3 ∨ J = 4 ∨ J = 5 ∨ J = 6 ∨ J = 7 ∨ J = 8 ∨ J = 9 ∨ J = 10 ∨ J = 11) with rfl | rfl | rfl | rfl | rfl | rfl | rfl | rfl | rfl | rfl | rfl | rfl <;> rfl
end Go.Proofs.YtboopbjdehdhgacDoor
