/-
  Coded names: what the library's functions on prefixes, suffixes and places return, in plain words. No statement is proved here.
-/
import Derived.Test.YtboopbjdehdhgabNamM
import Derived.Test.YtboopbjdehdhgabCodP
import Derived.Lib.IndexMore
import Derived.Lib.Replace
namespace Go.Proofs.Ytboopbjdehdhgab
open Go.RowKit

theorem mx_belowN {w u : World} (h : ∃ m, w.cell? ⟨0, 0, none⟩ = some (.int .i64 m)) (b : Below w.heap.size w u) : ∃ m, u.cell? ⟨0, 0, none⟩ = some (.int .i64 m) := by
  obtain ⟨m, hm⟩ := h
  exact ⟨m, by rw [below_at b (lt_of_cell hm)]; exact hm⟩
theorem sufN_iff (l p : List UInt8) : Lib.hasSuffix l p = true ↔ ∃ c, l = c ++ p := by
  unfold Lib.hasSuffix; rw [List.isSuffixOf_iff_suffix]
  exact ⟨fun ⟨t, h⟩ => ⟨t, h.symm⟩, fun ⟨t, h⟩ => ⟨t, h.symm⟩⟩
theorem preN_iff (l p : List UInt8) : Lib.hasPrefix l p = true ↔ ∃ m, l = p ++ m := by
  unfold Lib.hasPrefix; rw [List.isPrefixOf_iff_prefix]
  exact ⟨fun ⟨t, h⟩ => ⟨t, h.symm⟩, fun ⟨t, h⟩ => ⟨t, h.symm⟩⟩
theorem pre_32 (l : List UInt8) : Lib.hasPrefix l [32] = decide (l.head? = some 32) := by
  rw [Bool.eq_iff_iff, preN_iff, decide_eq_true_iff]
  cases l with
  | nil => simp
  | cons c l => simp
theorem suf_32 (l : List UInt8) : Lib.hasSuffix l [32] = decide (l.getLast? = some 32) := by
  rw [Bool.eq_iff_iff, sufN_iff, decide_eq_true_iff]
  constructor
  · rintro ⟨t, rfl⟩; simp
  · intro h
    have hne : l ≠ [] := fun e => by rw [e] at h; simp at h
    have := List.dropLast_concat_getLast hne
    rw [List.getLast?_eq_some_getLast hne] at h
    injection h with h
    rw [h] at this; exact ⟨_, this.symm⟩
theorem con_q (l : List UInt8) : Lib.contains l [61, 63] = hasQ l := by
  rw [Bool.eq_iff_iff]; unfold Lib.contains; rw [decide_eq_true_iff]
  rcases Lib.index_spec l [61, 63] with ⟨h1, h2⟩ | ⟨i, h1, h2, h3, _⟩
  · rw [h1]
    constructor
    · intro h; omega
    · intro h
      obtain ⟨a, r, rfl⟩ := hasQ_iff l h
      have := h2 a.length (by simp)
      unfold Lib.occAt at this
      rw [List.drop_left] at this; simp at this
  · rw [h1]
    constructor
    · intro _
      unfold Lib.occAt at h3
      obtain ⟨t, ht⟩ := List.isPrefixOf_iff_prefix.1 h3
      have : l = l.take i ++ (61 :: 63 :: t) := by
        conv => lhs; rw [← List.take_append_drop i l]
        rw [← ht]; rfl
      rw [this]; exact hasQ_mid _ _
    · intro _; omega
theorem indexByte_free : ∀ (p r : List UInt8) (c : UInt8), (∀ x ∈ p, x ≠ c) → Lib.indexByte (p ++ c :: r) c = p.length
  | [], r, c, _ => by unfold Lib.indexByte; simp
  | x :: p, r, c, h => by
    have hx := h x (by simp)
    have ih := indexByte_free p r c (fun y hy => h y (by simp [hy]))
    rw [List.cons_append, Lib.indexByte, ih]
    have h1 : (x == c) = false := by simpa using hx
    have h2 : (((p.length : Nat) : Int) == -1) = false := by rw [beq_eq_false_iff_ne]; omega
    rw [h1, h2]; simp
theorem und_free {p : List UInt8} (h : ∀ x ∈ p, x ≠ 95) : p.map und = p := by
  conv => rhs; rw [← List.map_id p]
  exact List.map_congr_left fun x hx => by unfold und; rw [if_neg (h x hx)]; rfl
theorem replace_und : ∀ (n : Nat) (l : List UInt8), l.length ≤ n → Lib.replaceK [95] [32] (l.count 95) l = l.map und
  | n, l, hn => by
    have hf := splitC_free 95 l
    rcases splitC_parts 95 l with ⟨p, h1, h2⟩ | ⟨p, r, h1, h2⟩
    · have hp : ∀ x ∈ l, x ≠ 95 := by rw [h2]; exact hf p (by rw [h1]; simp)
      rw [List.count_eq_zero.2 (fun h => hp _ h rfl), Lib.replaceK, und_free hp]
    · have hp : ∀ x ∈ p, x ≠ 95 := hf p (by rw [h1]; simp)
      match n, hn with
      | 0, hn => rw [h2] at hn; simp at hn
      | n + 1, hn =>
        have ih := replace_und n r (by rw [h2, List.length_append, List.length_cons] at hn; omega)
        have hc : l.count 95 = r.count 95 + 1 := by rw [h2, List.count_append, List.count_cons_self, List.count_eq_zero.2 (fun h => hp _ h rfl)]; omega
        rw [hc, Lib.replaceK_hit _ _ _ _ p.length (by rw [Lib.index_one, h2]; exact indexByte_free p r 95 hp)]
        conv => lhs; rw [h2]
        rw [List.take_left, show p.length + ([95] : List UInt8).length = p.length + 1 from rfl, ← List.drop_drop, List.drop_left, List.drop_one, List.tail_cons, ih]
        rw [h2, List.map_append, List.map_cons, und_free hp, show und 95 = 32 from rfl]; simp
theorem hasPre_any (s : ByteArray) (w : World) : Calls Try.prog 24 #[.string s, .string ⟨#[32]⟩] w fun e w' => e = .returned (.bool (decide (s.data.toList.head? = some 32))) ∧ w' = w := by
  refine (Try.strings_HasPrefix s ⟨#[32]⟩ w).mono ?_
  rintro e w' ⟨rfl, rfl⟩
  exact ⟨ret_bool (pre_32 _), rfl⟩
theorem hasSuf_any (s : ByteArray) (w : World) (hs : s.size ≤ 1073741824) : Calls Try.prog 25 #[.string s, .string ⟨#[32]⟩] w fun e w' => e = .returned (.bool (decide (s.data.toList.getLast? = some 32))) ∧ w' = w := by
  refine (Try.strings_HasSuffix s ⟨#[32]⟩ w (by omega)).mono ?_
  rintro e w' ⟨rfl, rfl⟩
  exact ⟨ret_bool (suf_32 _), rfl⟩
theorem hasQ_any (s : ByteArray) (w : World) (hmx : ∃ m, w.cell? ⟨0, 0, none⟩ = some (.int .i64 m)) (hs : s.size ≤ 1073741824) : Calls Try.prog 26 #[.string s, .string ⟨#[61, 63]⟩] w fun e w' => e = .returned (.bool (hasQ s.data.toList)) ∧ w' = w := by
  obtain ⟨m, hm⟩ := hmx
  refine (Try.strings_Contains s ⟨#[61, 63]⟩ m w (by omega) hm).mono ?_
  rintro e w' ⟨rfl, rfl⟩
  exact ⟨ret_bool (con_q _), rfl⟩
end Go.Proofs.Ytboopbjdehdhgab
