/-
  Words in quotes, read: what the program's functions return. No statement is proved here.
-/
import Derived.Test.YtfiaankfmdpmkaaQuote
namespace Go.Proofs.Ytfiaankfmdpmkaa
open Go.RowKit

/-- Reading from place k on goes on at place j, the bytes acc having been read. -/
def goesOn (s : ByteArray) (k j : Nat) (acc : List UInt8) : Prop := readQ (s.data.toList.drop k) = (readQ (s.data.toList.drop j)).map fun x => (acc ++ x.1, x.2)
theorem goesOn_start (s : ByteArray) (k : Nat) : goesOn s k k [] := by
  unfold goesOn; cases readQ (s.data.toList.drop k) <;> simp
theorem goesOn_plain {s : ByteArray} {k j : Nat} {acc : List UInt8} (h : goesOn s k j acc) (hj : j < s.size) (h1 : s[j] ≠ 34) (h2 : s[j] ≠ 92) : goesOn s k (j + 1) (acc ++ [s[j]]) := by
  unfold goesOn at h ⊢
  rw [h, drop_at s j hj, readQ_plain _ h1 h2]
  cases readQ (s.data.toList.drop (j + 1)) <;> simp
theorem goesOn_slash {s : ByteArray} {k j : Nat} {acc : List UInt8} (h : goesOn s k j acc) (hj : j + 1 < s.size) (h2 : s[j] = 92) : goesOn s k (j + 2) (acc ++ [s[j + 1]]) := by
  unfold goesOn at h ⊢
  rw [h, drop_at s j (by omega), h2, drop_at s (j + 1) hj, readQ_slash]
  cases readQ (s.data.toList.drop (j + 2)) <;> simp
theorem goesOn_end {s : ByteArray} {k j : Nat} {acc : List UInt8} (h : goesOn s k j acc) (hj : j < s.size) (h1 : s[j] = 34) : readQ (s.data.toList.drop k) = some (acc, s.data.toList.drop (j + 1)) := by
  unfold goesOn at h
  rw [h, drop_at s j hj, h1, readQ_end]; simp
theorem goesOn_none {s : ByteArray} {k j : Nat} {acc : List UInt8} (h : goesOn s k j acc) (hj : s.size ≤ j) : readQ (s.data.toList.drop k) = none := by
  unfold goesOn at h
  rw [h, drop_out s j hj]; rfl
theorem goesOn_last {s : ByteArray} {k j : Nat} {acc : List UInt8} (h : goesOn s k j acc) (hj : j + 1 = s.size) (h2 : s[j] = 92) : readQ (s.data.toList.drop k) = none := by
  unfold goesOn at h
  rw [h, drop_at s j (by omega), h2, drop_out s (j + 1) (by omega), readQ_last]; rfl
def uqT (l : List UInt8) : List UInt8 := (unq l).getD []
def uqB (l : List UInt8) : Bool := (unq l).isSome
theorem list_of_size (s : ByteArray) (h : 0 < s.size) : s.data.toList = s[0] :: s.data.toList.drop 1 := by
  have := drop_at s 0 h; simpa using this
theorem empty_f {s : ByteArray} (h : 0 < s.size) : s.toList.isEmpty = false := by
  rw [ByteArray.toList_eq, list_of_size s h]; rfl
theorem empty_t {s : ByteArray} (h : s.size = 0) : s.toList.isEmpty = true := by
  rw [ByteArray.toList_eq, List.isEmpty_iff]; exact List.length_eq_zero_iff.1 (by rw [size_list]; exact h)
theorem empty_list {s : ByteArray} (h : s.size = 0) : s.data.toList = [] := List.length_eq_zero_iff.1 (by rw [size_list]; exact h)
end Go.Proofs.Ytfiaankfmdpmkaa
