/-
  Addresses: what the program's functions on mailboxes, domains and names return. No statement is proved here.
-/
import Derived.Test.YtjnpkmenlecdmabAddrM
import Derived.Test.YtjnpkmenlecdmabSplit
import Derived.Lib.SplitLaws
namespace Go.Proofs.Ytjnpkmenlecdmab
open Go.RowKit

/-! Small lemmas on texts as strings. -/
theorem str_at (l : List UInt8) (k : Nat) (h : k < (str l).size) : (str l)[k] = l[k]'(by rw [str_size] at h; exact h) := by
  rw [← getElem_list (str l) k h]; simp [str]
theorem str_inj {a b : List UInt8} (h : str a = str b) : a = b := by rw [← str_list a, h, str_list]
theorem str_eq_iff (a b : List UInt8) : (str a = str b) ↔ a = b := ⟨str_inj, fun h => by rw [h]⟩
theorem ext_take (s : ByteArray) (k : Nat) : s.extract 0 k = str (s.data.toList.take k) := by
  apply bytes_ext; rw [Lib.extract_data, str_list]; simp
theorem ext_drop (s : ByteArray) (k : Nat) : s.extract k s.size = str (s.data.toList.drop k) := by
  apply bytes_ext
  rw [Lib.extract_data, str_list, List.take_of_length_le (by rw [List.length_drop, size_list]; omega)]
theorem bneq_t {c d : UInt8} (h : c ≠ d) {n : Int} (hn : (d.toNat : Int) = n) : ((c.toNat : Int) != n) = true := by rw [bne, beq_f h hn]; rfl
theorem bneq_f {c d : UInt8} (h : c = d) {n : Int} (hn : (d.toNat : Int) = n) : ((c.toNat : Int) != n) = false := by rw [bne, beq_t h hn]; rfl
theorem own_snoc {B : Nat} {v : Value} {xs : List (List UInt8)} {w : World} {x : ByteArray} (h : w.ownsRow B 9 1 v (xs.length + 1) (xs.map strV ++ [.string x])) : OwnL B v (xs ++ [x.data.toList]) w := by
  have e : strV x.data.toList = .string x := by unfold strV; rw [str_of]
  unfold OwnL
  rw [List.length_append, List.map_append, List.map_cons, e]; exact h
end Go.Proofs.Ytjnpkmenlecdmab
