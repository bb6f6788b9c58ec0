/-
  Lists of words: what the program's functions that split return. No statement is proved here.
-/
import Derived.Test.YtdoclfbfhlgejacSplitM
import Derived.Test.YtdoclfbfhlgejacRead
namespace Go.Proofs.Ytdoclfbfhlgejac
open Go.RowKit

def strV (l : List UInt8) : Value := .string (str l)
def spB (c : UInt8) : Bool := decide (c = 32)
def spTo (s : ByteArray) (k : Nat) : Nat := k + run spB (s.data.toList.drop k)
theorem run_at' (p : UInt8 → Bool) (s : ByteArray) (k : Nat) (h : k < s.size) : run p (s.data.toList.drop k) = if p s[k] then run p (s.data.toList.drop (k + 1)) + 1 else 0 := by
  rw [drop_at s k h]; rfl
theorem spTo_le (s : ByteArray) (k : Nat) (hk : k ≤ s.size) : k ≤ spTo s k ∧ spTo s k ≤ s.size := by
  unfold spTo; have := run_le spB (s.data.toList.drop k); rw [List.length_drop, size_list] at this; omega
theorem spTo_stop (s : ByteArray) (k : Nat) (hk : k ≤ s.size) (h : spTo s k < s.size) : s[spTo s k] ≠ 32 := by
  intro e
  have h1 := run_at' spB s k
  unfold spTo at h e
  by_cases hlt : k < s.size
  · cases hs : spB s[k]
    · have hr := h1 hlt
      rw [hs] at hr
      simp only [Bool.false_eq_true, if_false] at hr
      simp only [hr, Nat.add_zero] at e
      rw [spB, e] at hs; simp at hs
    · have hr := h1 hlt
      rw [hs] at hr
      simp only [if_true] at hr
      have e3 : k + run spB (s.data.toList.drop k) = spTo s (k + 1) := by unfold spTo; omega
      have h3 : spTo s (k + 1) < s.size := by omega
      refine spTo_stop s (k + 1) (by omega) h3 ?_
      simp only [e3] at e; exact e
  · omega
termination_by s.size - k
theorem splitW_skip (s : ByteArray) (k : Nat) (hk : k ≤ s.size) : splitW (s.data.toList.drop k) = splitW (s.data.toList.drop (spTo s k)) := by
  by_cases hlt : k < s.size
  · have hr := run_at' spB s k hlt
    cases hs : spB s[k]
    · rw [hs] at hr; simp only [Bool.false_eq_true, if_false] at hr
      unfold spTo; rw [hr]; rfl
    · rw [hs] at hr; simp only [if_true] at hr
      have e3 : spTo s k = spTo s (k + 1) := by unfold spTo; omega
      have e4 : s[k] = 32 := by unfold spB at hs; simpa using hs
      rw [e3, ← splitW_skip s (k + 1) (by omega), drop_at s k hlt, e4, splitW_space]
  · unfold spTo; rw [drop_out s k (by omega)]
    rw [drop_out s _ (by omega)]
termination_by s.size - k
end Go.Proofs.Ytdoclfbfhlgejac
