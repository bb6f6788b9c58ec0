/-
  The laws of chapter 2 on addresses: each law's walk. For every input of the law: it returns true, and the input reads as it did. Conditions: none but the statement's own.
-/
import Derived.Test.YtepjnahliojnjabLaw0
import Derived.Test.YtepjnahliojnjabDrawA
import Derived.Test.YtepjnahliojnjabBoxA
namespace Go.Proofs.Ytepjnahliojnjab
open Go.ChangeShapes Go.WideShapes Go.ChangeAt Go.RowKit
open Go.ChangeMaps (open_string shut_string)

/-- A new block, behind whatever else was made. -/
theorem fresh1 {w w' : World} {C : Array Value} {T : TypeId} (b : Below (w.alloc (.cells C T)).heap.size (w.alloc (.cells C T)) w') :
    (∀ i, w'.cell? ⟨w.heap.size, i, none⟩ = C[i]?) ∧ (∀ i, w'.frozen? ⟨w.heap.size, i, none⟩ = false) ∧ w.heap.size < w'.heap.size := by
  refine ⟨fun i => ?_, fun i => ?_, ?_⟩
  · rw [below_at b (by simp), World.cell?_alloc_at _ _ _ _ rfl]
  · rw [below_fz b (by simp), World.frozen?_alloc_at _ _ _ _ rfl]
  · have := b.size; simp at this; omega
theorem parse_fmtA {a : Adr} (h : isAdr a = true) : parseA (fmtA a) = some a := by rw [fmtA_val h]; exact parse_fmt h
end Go.Proofs.Ytepjnahliojnjab
