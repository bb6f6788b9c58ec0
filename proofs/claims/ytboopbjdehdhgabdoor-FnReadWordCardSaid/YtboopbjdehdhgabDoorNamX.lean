/-
  Coded names: what the library's functions on prefixes, suffixes and places return, in plain words. No statement is proved here.
-/
import Derived.Test.YtboopbjdehdhgabDoorNamM
import Derived.Test.YtboopbjdehdhgabDoorCodP
import Derived.Lib.IndexMore
import Derived.Lib.Replace
namespace Go.Proofs.YtboopbjdehdhgabDoor
open Go.RowKit

theorem mx_belowN {w u : World} (h : ∃ m, w.cell? ⟨0, 0, none⟩ = some (.int .i64 m)) (b : Below w.heap.size w u) : ∃ m, u.cell? ⟨0, 0, none⟩ = some (.int .i64 m) := by
  obtain ⟨m, hm⟩ := h
  exact ⟨m, by rw [below_at b (lt_of_cell hm)]; exact hm⟩
theorem sufN_iff (l p : List UInt8) : Lib.hasSuffix l p = true ↔ ∃ c, l = c ++ p := by
  unfold Lib.hasSuffix; rw [List.isSuffixOf_iff_suffix]
  exact ⟨fun ⟨t, h⟩ => ⟨t, h.symm⟩, fun ⟨t, h⟩ => ⟨t, h.symm⟩⟩
theorem preN_iff (l p : List UInt8) : Lib.hasPrefix l p = true ↔ ∃ m, l = p ++ m := by
  unfold Lib.hasPrefix; rw [List.isPrefixOf_iff_prefix]
  exact ⟨fun ⟨t, h⟩ => ⟨t, h.symm⟩, fun ⟨t, h⟩ => ⟨t, h.symm⟩⟩
theorem pre_32 (l : List UInt8) : Lib.hasPrefix l [32] = decide (l.head? = some 32) := by
  rw [Bool.eq_iff_iff, preN_iff, decide_eq_true_iff]
  cases l with
  | nil => simp
  | cons c l => simp
theorem suf_32 (l : List UInt8) : Lib.hasSuffix l [32] = decide (l.getLast? = some 32) := by
  rw [Bool.eq_iff_iff, sufN_iff, decide_eq_true_iff]
  constructor
  · rintro ⟨t, rfl⟩; simp
  · intro h
    have hne : l ≠ [] := fun e => by rw [e] at h; simp at h
    have := List.dropLast_concat_getLast hne
    rw [List.getLast?_eq_some_getLast hne] at h
    injection h with h
    rw [h] at this; exact ⟨_, this.symm⟩
theorem con_q (l : List UInt8) : Lib.contains l [61, 63] = hasQ l := by
  rw [Bool.eq_iff_iff]; unfold Lib.contains; rw [decide_eq_true_iff]
  rcases Lib.index_spec l [61, 63] with ⟨h1, h2⟩ | ⟨i, h1, h2, h3, _⟩
  · rw [h1]
    constructor
    · intro h; omega
    · intro h
      obtain ⟨a, r, rfl⟩ := hasQ_iff l h
      have := h2 a.length (by simp)
      unfold Lib.occAt at this
      rw [List.drop_left] at this; simp at this
  · rw [h1]
    constructor
    · intro _
      unfold Lib.occAt at h3
      obtain ⟨t, ht⟩ := List.isPrefixOf_iff_prefix.1 h3
      have : l = l.take i ++ (61 :: 63 :: t) := by
        conv => lhs; rw [← List.take_append_drop i l]
        rw [← ht]; rfl
      rw [this]; exact hasQ_mid _ _
    · intro _; omega
theorem indexByte_free : ∀ (p r : List UInt8) (c : UInt8), (∀ x ∈ p, x ≠ c) → Lib.indexByte (p ++ c :: r) c = p.length
  | [], r, c, _ => by unfold Lib.indexByte; simp
  | x :: p, r, c, h => by
    have hx := h x (by simp)
    have ih := indexByte_free p r c (fun y hy => h y (by simp [hy]))
    rw [List.cons_append, Lib.indexByte, ih]
    have h1 : (x == c) = false := by simpa using hx
    have h2 : (((p.length : Nat) : Int) == -1) = false := by rw [beq_eq_false_iff_ne]; omega
    rw [h1, h2]; simp
theorem und_free {p : List UInt8} (h : ∀ x ∈ p, x ≠ 95) : p.map und = p := by
  conv => rhs; rw [← List.map_id p]
  exact List.map_congr_left fun x hx => by unfold und; rw [if_neg (h x hx)]; rfl
theorem replace_und : ∀ (n : Nat) (l : List UInt8), l.length ≤ n → Lib.replaceK [95] [32] (l.count 95) l = l.map und
  | n, l, hn => by
    have hf := splitC_free 95 l
    rcases splitC_parts 95 l with ⟨p, h1, h2⟩ | ⟨p, r, h1, h2⟩
    · have hp : ∀ x ∈ l, x ≠ 95 := by rw [h2]; exact hf p (by rw [h1]; simp)
      rw [List.count_eq_zero.2 (fun h => hp _ h rfl), Lib.replaceK, und_free hp]
    · have hp : ∀ x ∈ p, x ≠ 95 := hf p (by rw [h1]; simp)
      match n, hn with
      | 0, hn => rw [h2] at hn; simp at hn
      | n + 1, hn =>
        have ih := replace_und n r (by rw [h2, List.length_append, List.length_cons] at hn; omega)
        have hc : l.count 95 = r.count 95 + 1 := by rw [h2, List.count_append, List.count_cons_self, List.count_eq_zero.2 (fun h => hp _ h rfl)]; omega
        rw [hc, Lib.replaceK_hit _ _ _ _ p.length (by rw [Lib.index_one, h2]; exact indexByte_free p r 95 hp)]
        conv => lhs; rw [h2]
        rw [List.take_left, show p.length + ([95] : List UInt8).length = p.length + 1 from rfl, ← List.drop_drop, List.drop_left, List.drop_one, List.tail_cons, ih]
        rw [h2, List.map_append, List.map_cons, und_free hp, show und 95 = 32 from rfl]; simp
theorem cutPre_t (m : List UInt8) (w : World) : Calls Tryd.prog 28 #[.string (str (preL ++ m)), .string (ByteArray.mk #[61, 63, 117, 116, 102, 45, 56, 63, 113, 63])] w fun e w' => e = .returned (.tuple #[.string (str m), .bool true]) ∧ w' = w := by
  refine (Tryd.strings_CutPrefix (str (preL ++ m)) (ByteArray.mk #[61, 63, 117, 116, 102, 45, 56, 63, 113, 63]) w).mono ?_
  rintro e w' ⟨rfl, rfl⟩
  refine ⟨?_, rfl⟩
  have h : Lib.hasPrefix (preL ++ m) preL = true := (preN_iff _ _).2 ⟨m, rfl⟩
  rw [str_list, show (ByteArray.mk #[61, 63, 117, 116, 102, 45, 56, 63, 113, 63]).data.toList = preL from rfl, h]
  unfold Lib.trimPrefix
  rw [if_pos h, List.drop_left]; rfl
theorem cutPre_f (l : List UInt8) (w : World) (h : ¬ ∃ m, l = preL ++ m) : Calls Tryd.prog 28 #[.string (str l), .string (ByteArray.mk #[61, 63, 117, 116, 102, 45, 56, 63, 113, 63])] w fun e w' => e = .returned (.tuple #[.string (str l), .bool false]) ∧ w' = w := by
  refine (Tryd.strings_CutPrefix (str l) (ByteArray.mk #[61, 63, 117, 116, 102, 45, 56, 63, 113, 63]) w).mono ?_
  rintro e w' ⟨rfl, rfl⟩
  refine ⟨?_, rfl⟩
  have h2 : Lib.hasPrefix l preL = false := by
    cases hp : Lib.hasPrefix l preL
    · rfl
    · exact absurd ((preN_iff _ _).1 hp) h
  rw [str_list, show (ByteArray.mk #[61, 63, 117, 116, 102, 45, 56, 63, 113, 63]).data.toList = preL from rfl, h2]
  unfold Lib.trimPrefix
  rw [if_neg (by simp [h2])]; rfl
theorem cutSuf_t (c : List UInt8) (w : World) (hc : c.length ≤ 1073741824) : Calls Tryd.prog 29 #[.string (str (c ++ sufL)), .string (ByteArray.mk #[63, 61])] w fun e w' => e = .returned (.tuple #[.string (str c), .bool true]) ∧ w' = w := by
  refine (Tryd.strings_CutSuffix (str (c ++ sufL)) (ByteArray.mk #[63, 61]) w (by rw [str_size, List.length_append]; simp [sufL]; omega)).mono ?_
  rintro e w' ⟨rfl, rfl⟩
  refine ⟨?_, rfl⟩
  have h : Lib.hasSuffix (c ++ sufL) sufL = true := (sufN_iff _ _).2 ⟨c, rfl⟩
  rw [str_list, show (ByteArray.mk #[63, 61]).data.toList = sufL from rfl, h]
  unfold Lib.trimSuffix
  rw [if_pos h, List.length_append, Nat.add_sub_cancel, List.take_left]; rfl
theorem cutSuf_f (l : List UInt8) (w : World) (h : ¬ ∃ c, l = c ++ sufL) (hl : l.length ≤ 1073741824) : Calls Tryd.prog 29 #[.string (str l), .string (ByteArray.mk #[63, 61])] w fun e w' => e = .returned (.tuple #[.string (str l), .bool false]) ∧ w' = w := by
  refine (Tryd.strings_CutSuffix (str l) (ByteArray.mk #[63, 61]) w (by rw [str_size]; omega)).mono ?_
  rintro e w' ⟨rfl, rfl⟩
  refine ⟨?_, rfl⟩
  have h2 : Lib.hasSuffix l sufL = false := by
    cases hp : Lib.hasSuffix l sufL
    · rfl
    · exact absurd ((sufN_iff _ _).1 hp) h
  rw [str_list, show (ByteArray.mk #[63, 61]).data.toList = sufL from rfl, h2]
  unfold Lib.trimSuffix
  rw [if_neg (by simp [h2])]; rfl
theorem cutSuf_any (s : ByteArray) (w : World) (hs : s.size ≤ 1073741824) : Calls Tryd.prog 29 #[.string s, .string (ByteArray.mk #[63, 61])] w fun e w' => ∃ t k, e = .returned (.tuple #[.string t, .bool k]) ∧ w' = w := by
  refine (Tryd.strings_CutSuffix s (ByteArray.mk #[63, 61]) w (by omega)).mono ?_
  rintro e w' ⟨rfl, rfl⟩
  exact ⟨_, _, rfl, rfl⟩
theorem hasPre_any (s : ByteArray) (w : World) : Calls Tryd.prog 25 #[.string s, .string ⟨#[32]⟩] w fun e w' => e = .returned (.bool (decide (s.data.toList.head? = some 32))) ∧ w' = w := by
  refine (Tryd.strings_HasPrefix s ⟨#[32]⟩ w).mono ?_
  rintro e w' ⟨rfl, rfl⟩
  exact ⟨ret_bool (pre_32 _), rfl⟩
theorem hasSuf_any (s : ByteArray) (w : World) (hs : s.size ≤ 1073741824) : Calls Tryd.prog 26 #[.string s, .string ⟨#[32]⟩] w fun e w' => e = .returned (.bool (decide (s.data.toList.getLast? = some 32))) ∧ w' = w := by
  refine (Tryd.strings_HasSuffix s ⟨#[32]⟩ w (by omega)).mono ?_
  rintro e w' ⟨rfl, rfl⟩
  exact ⟨ret_bool (suf_32 _), rfl⟩
theorem hasQ_any (s : ByteArray) (w : World) (hmx : ∃ m, w.cell? ⟨0, 0, none⟩ = some (.int .i64 m)) (hs : s.size ≤ 1073741824) : Calls Tryd.prog 27 #[.string s, .string ⟨#[61, 63]⟩] w fun e w' => e = .returned (.bool (hasQ s.data.toList)) ∧ w' = w := by
  obtain ⟨m, hm⟩ := hmx
  refine (Tryd.strings_Contains s ⟨#[61, 63]⟩ m w (by omega) hm).mono ?_
  rintro e w' ⟨rfl, rfl⟩
  exact ⟨ret_bool (con_q _), rfl⟩
theorem replaceAll_und (l : List UInt8) : Lib.replaceAll l [95] [32] = l.map und := by
  unfold Lib.replaceAll Lib.replace Lib.replaceNum
  rw [if_neg (by decide), if_pos (by left; omega), Lib.count_one]
  exact replace_und _ l (Nat.le_refl _)
theorem replaceUS_any (c : List UInt8) (w : World) (hmx : ∃ m, w.cell? ⟨0, 0, none⟩ = some (.int .i64 m)) (hc : c.length ≤ 1073741824) : Calls Tryd.prog 31 #[.string (str c), .string (ByteArray.mk #[95]), .string (ByteArray.mk #[32])] w fun e w' => e = .returned (.string (str (c.map und))) ∧ Below w.heap.size w w' := by
  obtain ⟨m, hm⟩ := hmx
  have hk : Lib.countB (str c) (ByteArray.mk #[95]) ≤ c.length := by
    have : Lib.countB (str c) (ByteArray.mk #[95]) = c.count 95 := by
      have := Lib.count_one 95 (str c).data.toList
      rw [str_list] at this
      show Lib.count (str c).data.toList [95] = _
      rw [str_list]; exact this
    rw [this]; exact List.count_le_length
  refine (Tryd.strings_ReplaceAll (str c) (ByteArray.mk #[95]) (ByteArray.mk #[32]) m w (by rw [str_size]; omega) hm (Nat.le_refl 1) (by rw [str_size]; show _ + _ * 1 ≤ _; omega)).mono ?_
  rintro e w' ⟨rfl, hb⟩
  refine ⟨?_, hb⟩
  rw [str_list, show (ByteArray.mk #[95]).data.toList = [95] from rfl, show (ByteArray.mk #[32]).data.toList = [32] from rfl, replaceAll_und]; rfl
end Go.Proofs.YtboopbjdehdhgabDoor
