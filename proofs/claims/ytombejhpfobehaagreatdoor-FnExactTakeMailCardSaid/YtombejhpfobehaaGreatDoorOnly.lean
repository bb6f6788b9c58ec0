/-
  Worlds in which only one block has turned. No statement is proved here.
-/
import Derived.Test.YtombejhpfobehaaGreatDoorRows2
import Derived.Test.YtombejhpfobehaaGreatDoorSplit
namespace Go.Proofs.YtombejhpfobehaaGreatDoor
open Go.RowKit

/-- All blocks that were there read as they did, but the one that is named, if one is. -/
structure Only (o : Option Nat) (w w' : World) : Prop where
  os : w'.os = w.os
  tape : w'.tape = w.tape
  output : w'.output = w.output
  size : w.heap.size ≤ w'.heap.size
  block : ∀ k, k < w.heap.size → some k ≠ o → w'.heap[k]? = w.heap[k]?
theorem Only.refl (o : Option Nat) (w : World) : Only o w w := ⟨rfl, rfl, rfl, Nat.le_refl _, fun _ _ _ => rfl⟩
theorem Only.trans {o : Option Nat} {a b c : World} (h : Only o a b) (k : Only o b c) : Only o a c :=
  ⟨k.os.trans h.os, k.tape.trans h.tape, k.output.trans h.output, Nat.le_trans h.size k.size, fun i hi hr => (k.block i (Nat.lt_of_lt_of_le hi h.size) hr).trans (h.block i hi hr)⟩
theorem Only.of_below {o : Option Nat} {w w' : World} (h : Below w.heap.size w w') : Only o w w' := ⟨h.os, h.tape, h.output, h.size, fun k hk _ => h.block k hk⟩
theorem Only.ext {o : Option Nat} {w wr w' : World} (h : Only o w wr) (k : Below wr.heap.size wr w') : Only o w w' := h.trans (Only.of_below k)
theorem Only.setCell {g i : Nat} {w w' : World} (h : Only (some g) w w') (v : Value) : Only (some g) w (w'.setCell ⟨g, i, none⟩ v) :=
  ⟨h.os, h.tape, h.output, by have := h.size; simpa [World.setCell] using this, fun k hk hr => by rw [Below.heap_setCell _ _ _ _ (by show k ≠ g; intro e; exact hr (by rw [e]))]; exact h.block k hk hr⟩
theorem Only.below {o : Option Nat} {B : Nat} {w w' : World} (h : Only o w w') (hB : ∀ g, o = some g → B ≤ g) (hs : B ≤ w.heap.size) : Below B w w' :=
  ⟨h.os, h.tape, h.output, h.size, fun k hk => h.block k (by omega) (fun e => by have := hB k e.symm; omega)⟩
theorem OwnR.only {α : Type} {T : TypeId} {k : Nat} {f : α → List Value} {B : Nat} {v : Value} {xs : List α} {w w' : World} {o : Option Nat} (h : OwnR T k f B v xs w) (t : Only o w w') (hne : ∀ g, v.ownBlock = some g → o ≠ some g) : OwnR T k f B v xs w' := by
  refine ⟨h.1, ?_⟩
  rcases h.2 with hn | ⟨g, cap, cur, hv, hg1, hg2, rest⟩
  · exact .inl hn
  · exact .inr ⟨g, cap, cur, hv, hg1, by rw [t.block g (lt_of_block hg2) (fun e => hne g (by rw [hv]; rfl) e.symm), hg2], rest⟩
theorem flat_ext {α : Type} (f : α → List Value) (k : Nat) (hk : 0 < k) (hf : ∀ a, (f a).length = k) (xs : List α) (L : List Value) (hl : L.length = xs.length * k) (h : ∀ j, (hj : j < xs.length) → ∀ d, d < k → L[j * k + d]? = (f xs[j])[d]?) : L = xs.flatMap f := by
  apply List.ext_getElem?
  intro i
  by_cases hi : i < xs.length * k
  · have h1 : i / k < xs.length := Nat.div_lt_of_lt_mul (by rw [Nat.mul_comm]; exact hi)
    have h2 : i % k < k := Nat.mod_lt _ hk
    have e : i / k * k + i % k = i := Nat.div_add_mod' i k
    have g1 := h (i / k) h1 (i % k) h2
    have g2 := flat_at f k hf xs (i / k) (i % k) h2 h1
    rw [e] at g1 g2
    rw [g1, g2]
  · rw [List.getElem?_eq_none (by omega), List.getElem?_eq_none (by rw [flat_len f k hf]; omega)]
theorem row_keep {B T s n g c : Nat} {L : List Value} {w w' : World} (h : w.ownsRow B T s (.slice (some ⟨g, 0, none⟩) n c) n L) (b : Below w.heap.size w w') : w'.ownsRow B T s (.slice (some ⟨g, 0, none⟩) n c) n L := by
  refine ⟨h.1, ?_⟩
  rcases h.2 with hn | ⟨g', cap', cur', hv', hg1, hg2, rest⟩
  · exact .inl hn
  · exact .inr ⟨g', cap', cur', hv', hg1, by rw [b.block g' (lt_of_block hg2), hg2], rest⟩
theorem row_cell {B T s n g c : Nat} {L : List Value} {w : World} (h : w.ownsRow B T s (.slice (some ⟨g, 0, none⟩) n c) n L) (i : Nat) (hi : i < L.length) : ∃ v, w.cell? ⟨g, i, none⟩ = some v := by
  have := h.cells (g := g) rfl i (L[i]) (List.getElem?_eq_getElem hi)
  rw [add0] at this
  exact ⟨_, this⟩
theorem OwnL.only {B : Nat} {v : Value} {xs : List (List UInt8)} {w w' : World} {o : Option Nat} (h : OwnL B v xs w) (t : Only o w w') (hne : ∀ g, v.ownBlock = some g → o ≠ some g) : OwnL B v xs w' := by
  refine ⟨h.1, ?_⟩
  rcases h.2 with hn | ⟨g, cap, cur, hv, hg1, hg2, rest⟩
  · exact .inl hn
  · exact .inr ⟨g, cap, cur, hv, hg1, by rw [t.block g (lt_of_block hg2) (fun e => hne g (by rw [hv]; rfl) e.symm), hg2], rest⟩
theorem OwnL.lt {B : Nat} {v : Value} {xs : List (List UInt8)} {w : World} (h : OwnL B v xs w) : ∀ g, v.ownBlock = some g → B ≤ g ∧ g < w.heap.size := World.ownsRow.lt h
end Go.Proofs.YtombejhpfobehaaGreatDoor
