/-
  Rows of values of several cells each, as lists: rows that the call has made, slices that read as a list. No statement is proved here.
-/
import Derived.Test.YtbfjbabpeigloabDoorBase
import Derived.Laws.OwnMore
namespace Go.Proofs.YtbfjbabpeigloabDoor
open Go.RowKit

section
variable {α : Type}
theorem flat_len (f : α → List Value) (k : Nat) (hf : ∀ a, (f a).length = k) : ∀ xs : List α, (xs.flatMap f).length = xs.length * k
  | [] => by simp
  | x :: xs => by rw [List.flatMap_cons, List.length_append, hf, flat_len f k hf xs, List.length_cons, Nat.add_mul]; omega
theorem flat_at (f : α → List Value) (k : Nat) (hf : ∀ a, (f a).length = k) : ∀ (xs : List α) (i d : Nat) (_ : d < k) (hi : i < xs.length), (xs.flatMap f)[i * k + d]? = (f xs[i])[d]?
  | x :: xs, 0, d, hd, _ => by
    rw [List.flatMap_cons, Nat.zero_mul, Nat.zero_add, List.getElem?_append_left (by rw [hf]; exact hd)]; rfl
  | x :: xs, i + 1, d, hd, hi => by
    rw [List.flatMap_cons, List.getElem?_append_right (by rw [hf, Nat.add_mul]; omega), hf]
    rw [show (i + 1) * k + d - k = i * k + d by rw [Nat.add_mul]; omega]
    exact flat_at f k hf xs i d hd (by simpa using hi)
/-- A row that the call has made: v, of the things xs, each in k cells of type T, from block B on. -/
def OwnR (T : TypeId) (k : Nat) (f : α → List Value) (B : Nat) (v : Value) (xs : List α) (w : World) : Prop := w.ownsRow B T k v xs.length (xs.flatMap f)
/-- A slice that reads as the things xs, each in k cells. -/
def RdR (k : Nat) (f : α → List Value) (w : World) (a : Option Addr) (n : Nat) (xs : List α) : Prop :=
  xs.length = n ∧ (n = 0 ∨ ∃ b off, a = some ⟨b, off, none⟩ ∧ b < w.heap.size ∧ ∀ i, (h : i < xs.length) → ∀ d v, (f xs[i])[d]? = some v → w.cell? ⟨b, off + i * k + d, none⟩ = some v)
variable {T : TypeId} {k : Nat} {f : α → List Value} {B B' : Nat} {v : Value} {xs : List α} {w w' : World}
theorem OwnR.nil (T : TypeId) (k : Nat) (f : α → List Value) (B : Nat) (w : World) : OwnR T k f B (.slice none 0 0) [] w := ⟨by simp, .inl ⟨rfl, rfl⟩⟩
theorem OwnR.empty (T : TypeId) (k : Nat) (f : α → List Value) (w : World) : OwnR T k f w.heap.size (.slice (some ⟨w.heap.size, 0, none⟩) 0 0) [] (w.alloc (.cells #[] T)) :=
  ⟨by simp, .inr ⟨w.heap.size, 0, #[], rfl, Nat.le_refl _, by show (w.heap.push _)[w.heap.size]? = _; simp, Nat.le_refl _, by unfold maxLen; omega, by simp, by simp⟩⟩
theorem lt_of_block {w : World} {g : Nat} {o : Obj} (h : w.heap[g]? = some o) : g < w.heap.size := by
  rcases Nat.lt_or_ge g w.heap.size with h' | h'
  · exact h'
  · simp [Array.getElem?_eq_none h'] at h
theorem OwnR.keep (h : OwnR T k f B v xs w) (b : Below w.heap.size w w') : OwnR T k f B v xs w' := by
  refine ⟨h.1, ?_⟩
  rcases h.2 with hn | ⟨g, cap, cur, hv, hg1, hg2, rest⟩
  · exact .inl hn
  · exact .inr ⟨g, cap, cur, hv, hg1, by rw [b.block g (lt_of_block hg2), hg2], rest⟩
theorem OwnR.base (h : OwnR T k f B v xs w) (hB : B' ≤ B) : OwnR T k f B' v xs w := by
  refine ⟨h.1, ?_⟩
  rcases h.2 with hn | ⟨g, cap, cur, hv, hg1, rest⟩
  · exact .inl hn
  · exact .inr ⟨g, cap, cur, hv, Nat.le_trans hB hg1, rest⟩
theorem OwnR.touch {R : Nat} (h : OwnR T k f B v xs w) (t : Touch R w w') (hR : R < B) : OwnR T k f B v xs w' := by
  refine ⟨h.1, ?_⟩
  rcases h.2 with hn | ⟨g, cap, cur, hv, hg1, hg2, rest⟩
  · exact .inl hn
  · exact .inr ⟨g, cap, cur, hv, hg1, by rw [t.block g (lt_of_block hg2) (by omega), hg2], rest⟩
theorem RdR.below {a : Option Addr} {n : Nat} (h : RdR k f w a n xs) (b : Below w.heap.size w w') : RdR k f w' a n xs := by
  refine ⟨h.1, ?_⟩
  rcases h.2 with e | ⟨g, off, ha, hb, hx⟩
  · exact .inl e
  · exact .inr ⟨g, off, ha, Nat.lt_of_lt_of_le hb b.size, fun i hi d v hd => by rw [below_at b hb, hx i hi d v hd]⟩
theorem OwnR.read (h : OwnR T k f B v xs w) (hf : ∀ a, (f a).length = k) : ∃ a c, v = .slice a xs.length c ∧ RdR k f w a xs.length xs ∧ xs.length ≤ maxLen ∧ xs.length ≤ c := by
  rcases h.2 with ⟨hv, h0⟩ | ⟨g, cap, cur, hv, hg1, hg2, hn, hc, hsz, htk⟩
  · exact ⟨none, 0, by rw [hv, h0], ⟨rfl, .inl h0⟩, by omega, by omega⟩
  · refine ⟨some ⟨g, 0, none⟩, cap, hv, ⟨rfl, .inr ⟨g, 0, rfl, lt_of_block hg2, fun i hi d u hd => ?_⟩⟩, by omega, hn⟩
    have hdk : d < k := by
      rw [← hf xs[i]]
      exact (List.getElem?_eq_some_iff.1 hd).1
    have := h.cells (g := g) (by rw [hv]; rfl) (i * k + d) u (by rw [flat_at f k hf xs i d hdk hi]; exact hd)
    rw [add0] at this
    rw [Nat.zero_add]; exact this
theorem OwnR.snoc {x : α} (h : w.ownsRow B T k v (xs.length + 1) (xs.flatMap f ++ f x)) : OwnR T k f B v (xs ++ [x]) w := by
  unfold OwnR
  rw [List.length_append, List.flatMap_append]
  simpa using h
theorem OwnR.lt (h : OwnR T k f B v xs w) : ∀ g, v.ownBlock = some g → B ≤ g ∧ g < w.heap.size := World.ownsRow.lt h
/-- A new element's cells, where they lie. -/
theorem cells_new {f : α → List Value} (x : α) (w : World) (t : TypeId) : ∀ u v, (f x)[u]? = some v → (w.alloc (.cells (f x).toArray t)).cell? ((⟨w.heap.size, 0, none⟩ : Addr).add u) = some v := by
  intro u v hu
  rw [add0, World.cell?_alloc_at _ _ _ _ rfl]
  simpa using hu
end
end Go.Proofs.YtbfjbabpeigloabDoor
