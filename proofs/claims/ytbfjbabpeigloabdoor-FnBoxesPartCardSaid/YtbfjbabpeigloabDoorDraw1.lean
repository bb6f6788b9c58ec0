/-
  Draws of chapter 1: the texts and lists of texts that the laws of chapter 1 are tried at. No statement is proved here.
-/
import Derived.Test.YtbfjbabpeigloabDoorBend
import Derived.Test.YtbfjbabpeigloabDoorRead
namespace Go.Proofs.YtbfjbabpeigloabDoor
open Go.RowKit

/-- A string of at most M bytes is drawn; nothing that was there turns. -/
def DrawnStr (M : Nat) (w : World) (e : Ending) (w' : World) : Prop := ∃ s : ByteArray, e = .returned (.string s) ∧ s.size ≤ M ∧ Below w.heap.size w w'
def DrawnTwo (M : Nat) (w : World) (e : Ending) (w' : World) : Prop := ∃ s t : ByteArray, e = .returned (.tuple #[.string s, .string t]) ∧ s.size ≤ M ∧ t.size ≤ M ∧ Below w.heap.size w w'
theorem after_open {w w1 w2 : World} {R : Nat} (hb : Below w.heap.size w w1) (hR : w.heap.size ≤ R) (ht : Touch R w1 w2) : Below w.heap.size w w2 := hb.trans (ht.below hR hb.size)
end Go.Proofs.YtbfjbabpeigloabDoor
