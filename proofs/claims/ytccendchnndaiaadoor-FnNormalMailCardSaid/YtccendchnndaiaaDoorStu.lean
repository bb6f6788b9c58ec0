/-
  A point more before a line, a point less; small rows of strings. No statement is proved here.
-/
import Derived.Test.YtccendchnndaiaaDoorMalM
import Derived.Test.YtccendchnndaiaaDoorRowS
import Derived.Lib.TrimByte
namespace Go.Proofs.YtccendchnndaiaaDoor
open Go.RowKit

def undot (l : List UInt8) : List UInt8 := if l.head? = some 46 then l.tail else l
theorem undot_dot (l : List UInt8) : undot (dotL l) = l := by
  unfold undot dotL
  by_cases h : l.head? = some 46
  · rw [if_pos h]; exact if_pos rfl
  · rw [if_neg h, if_neg h]
theorem dotL_ne (l : List UInt8) : dotL l ≠ [46] := by
  unfold dotL
  by_cases h : l.head? = some 46
  · rw [if_pos h]; intro e; injection e with _ e; subst e; cases h
  · rw [if_neg h]; intro e; subst e; exact h rfl
theorem undot_len (l : List UInt8) : (undot l).length ≤ l.length := by unfold undot; split <;> simp
theorem pre_dot (l : List UInt8) : Lib.hasPrefix l [46] = decide (l.head? = some 46) := by
  have hi : ∀ l p : List UInt8, Lib.hasPrefix l p = true ↔ ∃ m, l = p ++ m := fun l p => by
    unfold Lib.hasPrefix; rw [List.isPrefixOf_iff_prefix]
    exact ⟨fun ⟨m, h⟩ => ⟨m, h.symm⟩, fun ⟨m, h⟩ => ⟨m, h.symm⟩⟩
  rw [Bool.eq_iff_iff, hi, decide_eq_true_iff]
  cases l with
  | nil => simp
  | cons x xs =>
    constructor
    · rintro ⟨m, h⟩; injection h with h1 _; rw [h1]; rfl
    · intro h; injection h with h; exact ⟨xs, by rw [h]; rfl⟩
theorem cell_one (w : World) (x : Value) (t : TypeId) : (w.alloc (.cells #[x] t)).cell? ⟨w.heap.size, 0, none⟩ = some x := by rw [World.cell?_alloc_at _ _ _ _ rfl]; rfl
theorem own_row (w : World) (xs : List (List UInt8)) (C : Array Value) (hC : C.toList = xs.map strV) (hl : xs.length ≤ 1000) : OwnL w.heap.size (.slice (some ⟨w.heap.size, 0, none⟩) xs.length xs.length) xs (w.alloc (.cells C 9)) := by
  have hs : C.size = xs.length * 1 := by rw [← Array.length_toList, hC]; simp
  have := World.ownsRow_lit (base := w.heap.size) (e := 9) (size := 1) w C xs.length (Nat.le_refl _) (by unfold maxLen; omega) hs
  rw [hC] at this
  exact this
theorem fromL_sum (p : List UInt8) : ((ByteArray.mk #[77, 65, 73, 76, 32, 70, 82, 79, 77, 58, 60]) ++ str p) ++ (ByteArray.mk #[62]) = str (fromL p) := by
  apply bytes_ext; rw [str_list, Joins.data_append, Joins.data_append, str_list]; rfl
theorem rcptL_sum (p : List UInt8) : ((ByteArray.mk #[82, 67, 80, 84, 32, 84, 79, 58, 60]) ++ str p) ++ (ByteArray.mk #[62]) = str (rcptL p) := by
  apply bytes_ext; rw [str_list, Joins.data_append, Joins.data_append, str_list]; rfl
theorem dotL_sum (l : List UInt8) (h : l.head? = some 46) : (ByteArray.mk #[46]) ++ str l = str (dotL l) := by
  apply bytes_ext; rw [str_list, Joins.data_append, str_list]; unfold dotL; rw [if_pos h]; rfl
/-- The lines that hand a mail over, or none. -/
def SpkRet (o : Option (List (List UInt8))) (w : World) (e : Ending) (w' : World) : Prop := ∃ v, e = .returned (.tuple #[v, .bool o.isSome]) ∧ OwnL w.heap.size v (o.getD []) w' ∧ Below w.heap.size w w'
theorem spkRet_none {o : Option (List (List UInt8))} {w w' : World} {v : Value} (h : o = none) (ho : OwnL w.heap.size v [] w') (hb : Below w.heap.size w w') : SpkRet o w (.returned (.tuple #[v, .bool false])) w' := by subst h; exact ⟨v, rfl, ho, hb⟩
theorem spkRet_some {o : Option (List (List UInt8))} {xs : List (List UInt8)} {w w' : World} {v : Value} (h : o = some xs) (ho : OwnL w.heap.size v xs w') (hb : Below w.heap.size w w') : SpkRet o w (.returned (.tuple #[v, .bool true])) w' := by subst h; exact ⟨v, rfl, ho, hb⟩
theorem speakL_small {m : Ml} (ht : ∀ x ∈ m.to, isPath x = true) (hl : ∀ x ∈ m.lines, isText x = true) (hf : m.frm.length ≤ 71) : ∀ x ∈ speakL m, x.length ≤ 1073741000 := fun x hx => by
  unfold speakL at hx
  rcases List.mem_append.1 hx with hx | hx
  · rcases List.mem_append.1 hx with hx | hx
    · rcases List.mem_append.1 hx with hx | hx
      · rw [List.mem_singleton.1 hx]; unfold fromL; simp; omega
      · obtain ⟨p, hp, rfl⟩ := List.mem_map.1 hx
        have := isPath_len (ht p hp)
        unfold rcptL; simp; omega
    · rw [List.mem_singleton.1 hx]; decide
  · obtain ⟨p, hp, rfl⟩ := List.mem_map.1 hx
    have h := hl p hp
    unfold isText at h; simp at h
    rw [dotL_len]; have := h.1; split <;> omega
theorem speak_no {m : Ml} (h : isMail m = false) : speakM m = none := by unfold speakM; rw [h]; rfl
theorem speak_bad {m : Ml} (h : (m.lines.map dotL).all isText = false) : speakM m = none := by unfold speakM; rw [h, Bool.and_false]; rfl
theorem speak_good {m : Ml} (h : isMail m = true) (h2 : (m.lines.map dotL).all isText = true) : speakM m = some (speakL m ++ [[46]]) := by unfold speakM; rw [h, h2]; rfl
/-- The rows that are spoken, up to a place. -/
def spk1 (m : Ml) (k : Nat) : List (List UInt8) := [fromL m.frm] ++ (m.to.take k).map rcptL
def spk2 (m : Ml) (k : Nat) : List (List UInt8) := ([fromL m.frm] ++ m.to.map rcptL ++ [dataL]) ++ (m.lines.take k).map dotL
theorem spk1_step {m : Ml} {k : Nat} (h : k < m.to.length) : spk1 m k ++ [rcptL m.to[k]] = spk1 m (k + 1) := by unfold spk1; rw [List.take_succ_eq_append_getElem h, List.map_append, List.append_assoc]; rfl
theorem spk2_step {m : Ml} {k : Nat} (h : k < m.lines.length) : spk2 m k ++ [dotL m.lines[k]] = spk2 m (k + 1) := by unfold spk2; rw [List.take_succ_eq_append_getElem h, List.map_append, List.append_assoc]; rfl
theorem spk1_end {m : Ml} {k : Nat} (h : m.to.length ≤ k) : spk1 m k ++ [dataL] = spk2 m 0 := by unfold spk1 spk2; rw [List.take_of_length_le h]; simp
theorem spk2_end {m : Ml} {k : Nat} (h : m.lines.length ≤ k) : spk2 m k = speakL m := by unfold spk2 speakL; rw [List.take_of_length_le h]
theorem spk1_len (m : Ml) (k : Nat) : (spk1 m k).length ≤ m.to.length + 1 := by unfold spk1; simp; omega
theorem spk2_len (m : Ml) (k : Nat) : (spk2 m k).length ≤ m.to.length + m.lines.length + 2 := by unfold spk2; simp; omega
end Go.Proofs.YtccendchnndaiaaDoor
