/-
  Quoted words: what the program's functions return. No statement is proved here.
-/
import Derived.Test.YtbfjbabpeigloabDoorQuoteM
import Derived.Test.YtbfjbabpeigloabDoorBuilder
import Derived.Lib.Strings
import Derived.Lib.SmallJoins
namespace Go.Proofs.YtbfjbabpeigloabDoor
open Go.RowKit

theorem take_snoc (s : ByteArray) (k : Nat) (h : k < s.size) : s.data.toList.take (k + 1) = s.data.toList.take k ++ [s[k]] := by
  rw [List.take_succ_eq_append_getElem (by rw [size_list]; exact h)]; rfl
theorem take_all (s : ByteArray) : s.data.toList.take s.size = s.data.toList := List.take_of_length_le (by rw [size_list]; exact Nat.le_refl _)
theorem drop_at (s : ByteArray) (k : Nat) (h : k < s.size) : s.data.toList.drop k = s[k] :: s.data.toList.drop (k + 1) := by
  rw [List.drop_eq_getElem_cons (by rw [size_list]; exact h)]; rfl
theorem drop_out (s : ByteArray) (k : Nat) (h : s.size ≤ k) : s.data.toList.drop k = [] := List.drop_eq_nil_of_le (by rw [size_list]; exact h)
theorem beq_t {c d : UInt8} (h : c = d) {n : Int} (hn : (d.toNat : Int) = n) : ((c.toNat : Int) == n) = true := by rw [h, hn]; simp
theorem beq_f {c d : UInt8} (h : c ≠ d) {n : Int} (hn : (d.toNat : Int) = n) : ((c.toNat : Int) == n) = false := by
  rw [beq_eq_false_iff_ne, ← hn]; intro e; exact h (UInt8.toNat_inj.1 (by omega))
end Go.Proofs.YtbfjbabpeigloabDoor
