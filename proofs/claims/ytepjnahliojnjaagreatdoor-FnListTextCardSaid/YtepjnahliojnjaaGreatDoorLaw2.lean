/-
  The laws of chapter 2 on addresses: each law's walk. For every input of the law: it returns true, and the input reads as it did. Conditions: none but the statement's own.
-/
import Derived.Test.YtepjnahliojnjaaGreatDoorLaw0
import Derived.Test.YtepjnahliojnjaaGreatDoorDrawA
import Derived.Test.YtepjnahliojnjaaGreatDoorParseS2
import Derived.Test.YtepjnahliojnjaaGreatDoorListA3
import Derived.Test.YtepjnahliojnjaaGreatDoorListS
namespace Go.Proofs.YtepjnahliojnjaaGreatDoor
open Go.ChangeShapes Go.WideShapes Go.ChangeAt Go.RowKit
open Go.ChangeMaps (open_string shut_string)

/-- A new block, behind whatever else was made. -/
theorem fresh1 {w w' : World} {C : Array Value} {T : TypeId} (b : Below (w.alloc (.cells C T)).heap.size (w.alloc (.cells C T)) w') :
    (∀ i, w'.cell? ⟨w.heap.size, i, none⟩ = C[i]?) ∧ (∀ i, w'.frozen? ⟨w.heap.size, i, none⟩ = false) ∧ w.heap.size < w'.heap.size := by
  refine ⟨fun i => ?_, fun i => ?_, ?_⟩
  · rw [below_at b (by simp), World.cell?_alloc_at _ _ _ _ rfl]
  · rw [below_fz b (by simp), World.frozen?_alloc_at _ _ _ _ rfl]
  · have := b.size; simp at this; omega
theorem parse_fmtA {a : Adr} (h : isAdr a = true) : parseA (fmtA a) = some a := by rw [fmtA_val h]; exact parse_fmt h
theorem parseR_mem {l : List UInt8} (h : (parseA l).isSome = true) : parseA l = some (parseR l) := by
  unfold parseR; cases hp : parseA l with
  | none => rw [hp] at h; cases h
  | some a => rfl
theorem parseR_zero {l : List UInt8} (h : (parseA l).isSome = false) : parseR l = adr0 := by
  unfold parseR; cases hp : parseA l with
  | none => rfl
  | some a => rw [hp] at h; cases h
end Go.Proofs.YtepjnahliojnjaaGreatDoor
