/-
  Dates: what a clock and a calendar show. No statement is proved here.
-/
import Derived.Test.YtdddmclhafbfoaaDate
namespace Go.Proofs.Ytdddmclhafbfoaa
open Go.RowKit

/-- The seven cells of a date that has been laid. -/
def Laid7 (R : Nat) (D : Dat) (w : World) : Prop :=
  w.cell? ⟨R, 0, none⟩ = some (.int .i64 D.y) ∧ w.cell? ⟨R, 1, none⟩ = some (.int .i64 D.mo) ∧ w.cell? ⟨R, 2, none⟩ = some (.int .i64 D.d) ∧ w.cell? ⟨R, 3, none⟩ = some (.int .i64 D.h) ∧
  w.cell? ⟨R, 4, none⟩ = some (.int .i64 D.mi) ∧ w.cell? ⟨R, 5, none⟩ = some (.int .i64 D.s) ∧ w.cell? ⟨R, 6, none⟩ = some (.int .i64 D.z)
theorem laid7_new (y m d h mi s z : Int) (t : TypeId) (w : World) : Laid7 w.heap.size ⟨y, m, d, h, mi, s, z⟩ (w.alloc (.cells #[.int .i64 y, .int .i64 m, .int .i64 d, .int .i64 h, .int .i64 mi, .int .i64 s, .int .i64 z] t)) := by
  refine ⟨?_, ?_, ?_, ?_, ?_, ?_, ?_⟩ <;> (rw [World.cell?_alloc_at _ _ _ _ rfl]; rfl)
theorem Laid7.below {R : Nat} {D : Dat} {w w' : World} (h : Laid7 R D w) (b : Below w.heap.size w w') : Laid7 R D w' := by
  have hl := lt_of_cell h.1
  unfold Laid7 at h ⊢
  simp only [below_at b hl]; exact h
end Go.Proofs.Ytdddmclhafbfoaa
