/-
  Draws of chapter 2: addresses. No statement is proved here.
-/
import Derived.Test.YtfheajfcepcepaaDoorDraw1
import Derived.Test.YtfheajfcepcepaaDoorRows2
import Derived.Test.YtfheajfcepcepaaDoorAdrV
namespace Go.Proofs.YtfheajfcepcepaaDoor
open Go.RowKit

theorem Touch.setNew {R b i : Nat} {w w' : World} (h : Touch R w w') (hb : w.heap.size ≤ b) (v : Value) : Touch R w (w'.setCell ⟨b, i, none⟩ v) :=
  ⟨h.os, h.tape, h.output, by have := h.size; simpa [World.setCell] using this, fun k hk hr => by rw [Below.heap_setCell _ _ _ _ (by show k ≠ b; omega)]; exact h.block k hk hr⟩
theorem tcell {R : Nat} {w w' : World} (t : Touch R w w') : (∀ b o, b < w.heap.size → b ≠ R → w'.cell? ⟨b, o, none⟩ = w.cell? ⟨b, o, none⟩) ∧ (∀ b o, b < w.heap.size → b ≠ R → w'.frozen? ⟨b, o, none⟩ = w.frozen? ⟨b, o, none⟩) :=
  ⟨fun _ _ h hr => t.cell h hr, fun _ _ h hr => t.fz h hr⟩
/-- Two new blocks, behind whatever the reader has done. -/
theorem fresh2 {R : Nat} {w w' : World} {C D : Array Value} {T : TypeId} (hR : R < w.heap.size) (t : Touch R ((w.alloc (.cells C T)).alloc (.cells D T)) w') :
    (∀ i, w'.cell? ⟨w.heap.size, i, none⟩ = C[i]?) ∧ (∀ i, w'.cell? ⟨w.heap.size + 1, i, none⟩ = D[i]?) ∧ (∀ i, w'.frozen? ⟨w.heap.size, i, none⟩ = false) ∧ (∀ i, w'.frozen? ⟨w.heap.size + 1, i, none⟩ = false) := by
  refine ⟨fun i => ?_, fun i => ?_, fun i => ?_, fun i => ?_⟩
  · rw [t.cell (by simp; omega) (by omega), World.cell?_alloc_lt _ _ _ (by simp), World.cell?_alloc_at _ _ _ _ rfl]
  · rw [t.cell (by simp) (by omega), World.cell?_alloc_at _ _ _ _ (by simp)]
  · rw [t.fz (by simp; omega) (by omega), below_fz ((Below.refl _ _).alloc (Nat.le_refl _) _) (by simp), World.frozen?_alloc_at _ _ _ _ rfl]
  · rw [t.fz (by simp) (by omega), World.frozen?_alloc_at _ _ _ _ (by simp)]
theorem of_lit2 (R p n M N : Nat) (C : Array Value) (t : TypeId) (w : World) (hN : w.heap.size = N) (hr : Rd w R p) (hp : p ≤ 1000000000) (hn : 0 < n) (hn2 : n ≤ 1000000) (h : litOk C n M = true) :
    Calls Tryd.prog 42 #[.pointer (some ⟨R, 0, none⟩), .slice (some ⟨N, 0, none⟩) n n] (w.alloc (.cells C t)) (Drawn R p 1 M w) := by
  subst hN; exact of_lit R p n M C t w hr hp hn hn2 h
end Go.Proofs.YtfheajfcepcepaaDoor
