/-
  Dates: the date of some seconds in the model. No statement is proved here.
-/
import Derived.Test.YtdddmclhafbfoaaDateS3
namespace Go.Proofs.Ytdddmclhafbfoaa
open Go.RowKit

theorem Two7.ext {B : Nat} {D : Dat} {w wr w' : World} (h : Two7 B D w wr) (b : Below wr.heap.size wr w') : Two7 B D w w' := by
  have hl := lt_of_cell h.z.1
  have hl2 := lt_of_cell h.c.1
  exact ⟨h.z.below b, fun i => by rw [below_fz b hl]; exact h.zf i, h.c.below b, fun i => by rw [below_fz b hl2]; exact h.cf i, h.b.trans (b.mono (by omega))⟩
end Go.Proofs.Ytdddmclhafbfoaa
