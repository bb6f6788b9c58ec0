/-
  Fields: what the program's functions on names and fields return. No statement is proved here.
-/
import Derived.Test.YtbfjbabpeigloabDoorFldV
import Derived.Test.YtbfjbabpeigloabDoorParse
import Derived.Deep.QuietTactic
import Derived.BigQuiet
namespace Go.Proofs.YtbfjbabpeigloabDoor
open Go.RowKit

theorem nameC_eq (c : UInt8) : nameC c = (letB c || digB c || decide (c = 45)) := by unfold nameC; rw [alnum_eq]
theorem isFName_bad (s : ByteArray) (k : Nat) (hk : k < s.size) (h : nameC s[k] = false) : isFName s.data.toList = false := by
  have hm : s[k] ∈ s.data.toList := by simp [ByteArray.getElem_eq_getElem_data]
  have : s.data.toList.all nameC = false := by rw [List.all_eq_false]; exact ⟨_, hm, by simp [h]⟩
  unfold isFName; rw [this]; simp
theorem isFName_size (s : ByteArray) (h : s.size < 1 ∨ 30 < s.size) : isFName s.data.toList = false := by
  unfold isFName; rw [size_list]
  rcases h with h | h
  · rw [decide_eq_false (by omega)]; rfl
  · rw [decide_eq_false (p := s.size ≤ 30) (by omega)]; simp
theorem headLet_at (s : ByteArray) (h : 0 < s.size) : headLet s.data.toList = letB s[0] := by
  have hl := size_list s
  have e : s[0] = s.data.toList[0]'(by rw [hl]; exact h) := rfl
  rw [e]
  have key : ∀ (l : List UInt8) (hl : 0 < l.length), headLet l = letB l[0] := fun l hl => by
    match l, hl with
    | c :: cs, _ => rfl
  exact key _ _
theorem isFName_good (s : ByteArray) (h0 : 0 < s.size) (h1 : s.size ≤ 30) (h : ∀ j, (h' : j < s.size) → nameC s[j] = true) : isFName s.data.toList = letB s[0] := by
  have hall : s.data.toList.all nameC = true := by
    rw [List.all_eq_true]; intro x hx
    obtain ⟨j, hj, rfl⟩ := List.getElem_of_mem hx
    exact h j hj
  unfold isFName
  rw [size_list, hall, headLet_at s h0, decide_eq_true (by omega), decide_eq_true h1]; simp
end Go.Proofs.YtbfjbabpeigloabDoor
