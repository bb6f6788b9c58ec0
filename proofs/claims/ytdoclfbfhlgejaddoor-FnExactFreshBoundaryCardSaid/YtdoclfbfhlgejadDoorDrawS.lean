/-
  Draws of chapter 7: lines with boundaries, parts. No statement is proved here.
-/
import Derived.Test.YtdoclfbfhlgejadDoorDraw2
import Derived.Test.YtdoclfbfhlgejadDoorPartN
import Derived.Test.YtdoclfbfhlgejadDoorRowS
namespace Go.Proofs.YtdoclfbfhlgejadDoor
open Go.RowKit

/-- A short line that is no mark of the boundary 'b3'. -/
def lineOk (x : List UInt8) : Bool := decide (x.length ≤ 10) && !looksB [98, 51] x
def shortB (x : List UInt8) : Bool := decide (x.length ≤ 10)
theorem lineOk_len {x : List UInt8} (h : lineOk x = true) : x.length ≤ 10 := by unfold lineOk at h; simp at h; exact h.1
theorem lineOk_b3 {x : List UInt8} (h : lineOk x = true) : looksB [98, 51] x = false := by unfold lineOk at h; simp at h; exact h.2
theorem own_lits (w : World) (xs : List (List UInt8)) (C : Array Value) (hC : C.toList = xs.map strV) (hl : xs.length ≤ 1000) : OwnL w.heap.size (.slice (some ⟨w.heap.size, 0, none⟩) xs.length xs.length) xs (w.alloc (.cells C 9)) := by
  have hs : C.size = xs.length * 1 := by rw [← Array.length_toList, hC]; simp
  have := World.ownsRow_lit (base := w.heap.size) (e := 9) (size := 1) w C xs.length (Nat.le_refl _) (by unfold maxLen; omega) hs
  rw [hC] at this
  exact this
end Go.Proofs.YtdoclfbfhlgejadDoor
