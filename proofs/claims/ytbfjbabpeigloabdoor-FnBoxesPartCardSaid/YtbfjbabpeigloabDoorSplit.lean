/-
  Lists of words: what the program's functions that split return. No statement is proved here.
-/
import Derived.Test.YtbfjbabpeigloabDoorSplitM
import Derived.Test.YtbfjbabpeigloabDoorRead
namespace Go.Proofs.YtbfjbabpeigloabDoor
open Go.RowKit

def strV (l : List UInt8) : Value := .string (str l)
theorem sInfo : (Tryd.prog.info? 9).map (fun i => (i.zero, i.size, i.bytes)) = some (some (.string ⟨#[]⟩), 1, 16) := by kernel_rfl
/-- A row of strings that the call has made: v, of the texts xs, from block B on. -/
def OwnL (B : Nat) (v : Value) (xs : List (List UInt8)) (w : World) : Prop := w.ownsRow B 9 1 v xs.length (xs.map strV)
theorem OwnL.nil (B : Nat) (w : World) : OwnL B (.slice none 0 0) [] w := ⟨rfl, .inl ⟨rfl, rfl⟩⟩
theorem OwnL.empty (w : World) : OwnL w.heap.size (.slice (some ⟨w.heap.size, 0, none⟩) 0 0) [] (w.alloc (.cells #[] 9)) :=
  ⟨rfl, .inr ⟨w.heap.size, 0, #[], rfl, Nat.le_refl _, by show (w.heap.push _)[w.heap.size]? = _; simp, Nat.le_refl _, by unfold maxLen; omega, rfl, rfl⟩⟩
theorem OwnL.keep {B : Nat} {v : Value} {xs : List (List UInt8)} {w w' : World} (h : OwnL B v xs w) (k : Below w.heap.size w w') : OwnL B v xs w' := by
  refine ⟨h.1, ?_⟩
  rcases h.2 with hn | ⟨g, cap, cur, hv, hg1, hg2, rest⟩
  · exact .inl hn
  · refine .inr ⟨g, cap, cur, hv, hg1, ?_, rest⟩
    have hglt : g < w.heap.size := by
      rcases Nat.lt_or_ge g w.heap.size with h' | h'
      · exact h'
      · simp [Array.getElem?_eq_none h'] at hg2
    rw [k.block g hglt, hg2]
theorem OwnL.base {B B' : Nat} {v : Value} {xs : List (List UInt8)} {w : World} (h : OwnL B v xs w) (hB : B' ≤ B) : OwnL B' v xs w := by
  refine ⟨h.1, ?_⟩
  rcases h.2 with hn | ⟨g, cap, cur, hv, hg1, rest⟩
  · exact .inl hn
  · exact .inr ⟨g, cap, cur, hv, Nat.le_trans hB hg1, rest⟩
/-- A slice of strings that reads as the texts xs. -/
def RdL (w : World) (a : Option Addr) (n : Nat) (xs : List (List UInt8)) : Prop := xs.length = n ∧ (n = 0 ∨ ∃ b off, a = some ⟨b, off, none⟩ ∧ b < w.heap.size ∧ ∀ i, (h : i < xs.length) → w.cell? ⟨b, off + i, none⟩ = some (.string (str xs[i])))
theorem RdL.below {w w' : World} {a : Option Addr} {n : Nat} {xs : List (List UInt8)} (h : RdL w a n xs) (k : Below w.heap.size w w') : RdL w' a n xs := by
  refine ⟨h.1, ?_⟩
  rcases h.2 with e | ⟨b, off, ha, hb, hx⟩
  · exact .inl e
  · exact .inr ⟨b, off, ha, Nat.lt_of_lt_of_le hb k.size, fun i hi => by rw [below_at k hb, hx i hi]⟩
theorem OwnL.read {B : Nat} {v : Value} {xs : List (List UInt8)} {w : World} (h : OwnL B v xs w) : ∃ a c, v = .slice a xs.length c ∧ RdL w a xs.length xs ∧ xs.length ≤ maxLen := by
  rcases h.2 with ⟨hv, h0⟩ | ⟨g, cap, cur, hv, hg1, hg2, hn, hc, hsz, htk⟩
  · exact ⟨none, 0, by rw [hv, h0], ⟨rfl, .inl h0⟩, by omega⟩
  · refine ⟨some ⟨g, 0, none⟩, cap, hv, ⟨rfl, .inr ⟨g, 0, rfl, ?_, fun i hi => ?_⟩⟩, by omega⟩
    · rcases Nat.lt_or_ge g w.heap.size with h' | h'
      · exact h'
      · simp [Array.getElem?_eq_none h'] at hg2
    · have := h.cells (g := g) (by rw [hv]; rfl) i (strV xs[i]) (by simp [List.getElem?_map, List.getElem?_eq_getElem hi])
      rw [add0] at this
      rw [Nat.zero_add]; exact this
def spB (c : UInt8) : Bool := decide (c = 32)
def spTo (s : ByteArray) (k : Nat) : Nat := k + run spB (s.data.toList.drop k)
theorem run_at' (p : UInt8 → Bool) (s : ByteArray) (k : Nat) (h : k < s.size) : run p (s.data.toList.drop k) = if p s[k] then run p (s.data.toList.drop (k + 1)) + 1 else 0 := by
  rw [drop_at s k h]; rfl
theorem spTo_le (s : ByteArray) (k : Nat) (hk : k ≤ s.size) : k ≤ spTo s k ∧ spTo s k ≤ s.size := by
  unfold spTo; have := run_le spB (s.data.toList.drop k); rw [List.length_drop, size_list] at this; omega
theorem spTo_stop (s : ByteArray) (k : Nat) (hk : k ≤ s.size) (h : spTo s k < s.size) : s[spTo s k] ≠ 32 := by
  intro e
  have h1 := run_at' spB s k
  unfold spTo at h e
  by_cases hlt : k < s.size
  · cases hs : spB s[k]
    · have hr := h1 hlt
      rw [hs] at hr
      simp only [Bool.false_eq_true, if_false] at hr
      simp only [hr, Nat.add_zero] at e
      rw [spB, e] at hs; simp at hs
    · have hr := h1 hlt
      rw [hs] at hr
      simp only [if_true] at hr
      have e3 : k + run spB (s.data.toList.drop k) = spTo s (k + 1) := by unfold spTo; omega
      have h3 : spTo s (k + 1) < s.size := by omega
      refine spTo_stop s (k + 1) (by omega) h3 ?_
      simp only [e3] at e; exact e
  · omega
termination_by s.size - k
theorem splitW_skip (s : ByteArray) (k : Nat) (hk : k ≤ s.size) : splitW (s.data.toList.drop k) = splitW (s.data.toList.drop (spTo s k)) := by
  by_cases hlt : k < s.size
  · have hr := run_at' spB s k hlt
    cases hs : spB s[k]
    · rw [hs] at hr; simp only [Bool.false_eq_true, if_false] at hr
      unfold spTo; rw [hr]; rfl
    · rw [hs] at hr; simp only [if_true] at hr
      have e3 : spTo s k = spTo s (k + 1) := by unfold spTo; omega
      have e4 : s[k] = 32 := by unfold spB at hs; simpa using hs
      rw [e3, ← splitW_skip s (k + 1) (by omega), drop_at s k hlt, e4, splitW_space]
  · unfold spTo; rw [drop_out s k (by omega)]
    rw [drop_out s _ (by omega)]
termination_by s.size - k
end Go.Proofs.YtbfjbabpeigloabDoor
