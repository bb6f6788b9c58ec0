/-
  Parts between boundaries: splitting line by line; fresh boundaries. No statement is proved here.
-/
import Derived.Test.YtcdmjckkencgoaaGreatDoorPartM
import Derived.Lib.ItoaNum
namespace Go.Proofs.YtcdmjckkencgoaaGreatDoor
open Go.RowKit

/-! Splitting line by line: k lines are read, ps are the parts that have been begun (the last one is open). -/
def goesP (b : List UInt8) (ls : List (List UInt8)) (k : Nat) (ps : List (List (List UInt8))) : Prop :=
  (ps = [] ∧ splB b ls = splB b (ls.drop k)) ∨ ∃ qs cur, ps = qs ++ [cur] ∧ splB b ls = (splG b cur (ls.drop k)).map (qs ++ ·)
theorem goesP_start (b : List UInt8) (ls : List (List UInt8)) : goesP b ls 0 [] := .inl ⟨rfl, rfl⟩
theorem goesP_beg {b : List UInt8} {ls : List (List UInt8)} {k : Nat} {ps : List (List (List UInt8))} (h : goesP b ls k ps) (hk : k < ls.length) (hb : ls[k] = begL b) : goesP b ls (k + 1) (ps ++ [[]]) := by
  have hd : ls.drop k = ls[k] :: ls.drop (k + 1) := List.drop_eq_getElem_cons hk
  refine .inr ⟨ps, [], rfl, ?_⟩
  rcases h with ⟨rfl, h⟩ | ⟨qs, cur, rfl, h⟩
  · rw [h, hd, splB, if_pos hb]
    simp
  · rw [h, hd, splG, if_pos hb, Option.map_map]
    congr 1
    funext x
    simp
theorem goesP_skip {b : List UInt8} {ls : List (List UInt8)} {k : Nat} (h : goesP b ls k []) (hk : k < ls.length) (hb : ls[k] ≠ begL b) : goesP b ls (k + 1) [] := by
  have hd : ls.drop k = ls[k] :: ls.drop (k + 1) := List.drop_eq_getElem_cons hk
  rcases h with ⟨_, h⟩ | ⟨qs, cur, hq, _⟩
  · exact .inl ⟨rfl, by rw [h, hd, splB, if_neg hb]⟩
  · simp at hq
theorem goesP_end {b : List UInt8} {ls : List (List UInt8)} {k : Nat} {ps : List (List (List UInt8))} (h : goesP b ls k ps) (hn : ps ≠ []) (hk : k < ls.length) (he : ls[k] = endL b) : splB b ls = some ps := by
  have hd : ls.drop k = ls[k] :: ls.drop (k + 1) := List.drop_eq_getElem_cons hk
  rcases h with ⟨rfl, _⟩ | ⟨qs, cur, rfl, h⟩
  · exact absurd rfl hn
  · rw [h, hd, splG, if_neg (by rw [he]; exact fun e => beg_ne_end b e.symm), if_pos he]; rfl
theorem goesP_line {b : List UInt8} {ls : List (List UInt8)} {k : Nat} {qs : List (List (List UInt8))} {cur : List (List UInt8)} (h : goesP b ls k (qs ++ [cur])) (hk : k < ls.length) (hb : ls[k] ≠ begL b) (he : ls[k] ≠ endL b) : goesP b ls (k + 1) (qs ++ [cur ++ [ls[k]]]) := by
  have hd : ls.drop k = ls[k] :: ls.drop (k + 1) := List.drop_eq_getElem_cons hk
  rcases h with ⟨h0, _⟩ | ⟨qs', cur', hq, h⟩
  · simp at h0
  · obtain ⟨rfl, hc⟩ := List.append_inj' hq rfl
    obtain rfl : cur = cur' := by simpa using hc
    exact .inr ⟨qs, _, rfl, by rw [h, hd, splG, if_neg hb, if_neg he]⟩
theorem goesP_out {b : List UInt8} {ls : List (List UInt8)} {k : Nat} {ps : List (List (List UInt8))} (h : goesP b ls k ps) (hk : ls.length ≤ k) : splB b ls = none := by
  rcases h with ⟨_, h⟩ | ⟨qs, cur, _, h⟩
  · rw [h, List.drop_eq_nil_of_le hk]; rfl
  · rw [h, List.drop_eq_nil_of_le hk]; rfl
theorem splG_app (b : List UInt8) : ∀ (ls m cur : List (List UInt8)) (ps : List (List (List UInt8))), splG b cur ls = some ps → splG b cur (ls ++ m) = some ps
  | [], m, cur, ps, h => by simp [splG] at h
  | l :: ls, m, cur, ps, h => by
    rw [splG] at h
    rw [List.cons_append, splG]
    by_cases h1 : l = begL b
    · rw [if_pos h1] at h ⊢
      obtain ⟨qs, hq, rfl⟩ := Option.map_eq_some_iff.1 h
      rw [splG_app b ls m [] qs hq]; rfl
    · rw [if_neg h1] at h ⊢
      by_cases h2 : l = endL b
      · rw [if_pos h2] at h ⊢; exact h
      · rw [if_neg h2] at h ⊢; exact splG_app b ls m _ ps h
theorem splB_app (b : List UInt8) : ∀ (ls m : List (List UInt8)) (ps : List (List (List UInt8))), splB b ls = some ps → splB b (ls ++ m) = some ps
  | [], m, ps, h => by simp [splB] at h
  | l :: ls, m, ps, h => by
    rw [splB] at h
    rw [List.cons_append, splB]
    by_cases h1 : l = begL b
    · rw [if_pos h1] at h ⊢; exact splG_app b ls m [] ps h
    · rw [if_neg h1] at h ⊢; exact splB_app b ls m ps h
/-- How many lines parts have, with one more for each of them. -/
def sumP (ps : List (List (List UInt8))) : Nat := (ps.map fun p => p.length + 1).sum
theorem sumP_nil : sumP [] = 0 := rfl
theorem sumP_cons (p : List (List UInt8)) (ps : List (List (List UInt8))) : sumP (p :: ps) = p.length + 1 + sumP ps := rfl
theorem sumP_app (ps qs : List (List (List UInt8))) : sumP (ps ++ qs) = sumP ps + sumP qs := by unfold sumP; simp
theorem sumP_len (ps : List (List (List UInt8))) : ps.length ≤ sumP ps := by
  induction ps with
  | nil => exact Nat.le_refl _
  | cons p ps ih => rw [sumP_cons, List.length_cons]; omega
theorem sumP_mem {ps : List (List (List UInt8))} {p : List (List UInt8)} (h : p ∈ ps) : p.length + 1 ≤ sumP ps := by
  induction ps with
  | nil => cases h
  | cons q ps ih =>
    rw [sumP_cons]
    rcases List.mem_cons.1 h with rfl | h
    · omega
    · have := ih h; omega
theorem sumP_take (ps : List (List (List UInt8))) (k : Nat) : sumP (ps.take k) ≤ sumP ps := by
  have := sumP_app (ps.take k) (ps.drop k)
  rw [List.take_append_drop] at this; omega
theorem sumP_succ (ps : List (List (List UInt8))) (k : Nat) (h : k < ps.length) : sumP (ps.take (k + 1)) = sumP (ps.take k) + (ps[k].length + 1) := by
  rw [List.take_succ_eq_append_getElem h, sumP_app]; rfl
theorem splG_len (b : List UInt8) : ∀ (ls cur : List (List UInt8)) (ps : List (List (List UInt8))), splG b cur ls = some ps → sumP ps ≤ ls.length + cur.length
  | [], cur, ps, h => by simp [splG] at h
  | l :: ls, cur, ps, h => by
    rw [splG] at h
    by_cases h1 : l = begL b
    · rw [if_pos h1] at h
      obtain ⟨qs, hq, rfl⟩ := Option.map_eq_some_iff.1 h
      have := splG_len b ls [] qs hq
      rw [List.length_nil] at this
      rw [sumP_cons, List.length_cons]; omega
    · rw [if_neg h1] at h
      by_cases h2 : l = endL b
      · rw [if_pos h2] at h
        injection h with h
        subst h
        rw [sumP_cons, sumP_nil, List.length_cons]; omega
      · rw [if_neg h2] at h
        have := splG_len b ls _ ps h
        rw [List.length_append, List.length_singleton] at this
        rw [List.length_cons]; omega
/-- Parts have no more lines than there are. -/
theorem splB_len (b : List UInt8) : ∀ (ls : List (List UInt8)) (ps : List (List (List UInt8))), splB b ls = some ps → sumP ps + 1 ≤ ls.length
  | [], ps, h => by simp [splB] at h
  | l :: ls, ps, h => by
    rw [splB] at h
    rw [List.length_cons]
    by_cases h1 : l = begL b
    · rw [if_pos h1] at h
      have := splG_len b ls [] ps h
      rw [List.length_nil] at this; omega
    · rw [if_neg h1] at h
      have := splB_len b ls ps h; omega
theorem splitP_some {ls : List (List UInt8)} {b : List UInt8} {ps : List (List (List UInt8))} (h : splitP ls b = some ps) : isBnd b = true ∧ splB b ls = some ps := by
  unfold splitP at h
  split at h
  · rename_i hb; exact ⟨hb, h⟩
  · cases h
theorem splitP_no {ls : List (List UInt8)} {b : List UInt8} (h : isBnd b = false) : splitP ls b = none := by unfold splitP; rw [if_neg (by simp [h])]
theorem splitP_yes {ls : List (List UInt8)} {b : List UInt8} (h : isBnd b = true) : splitP ls b = splB b ls := by unfold splitP; rw [if_pos h]
theorem splitP_line {ls : List (List UInt8)} {b : List UInt8} {ps : List (List (List UInt8))} (h : splitP ls b = some ps) {p : List (List UInt8)} (hp : p ∈ ps) {l : List UInt8} (hl : l ∈ p) : l ≠ begL b ∧ l ≠ endL b := by
  obtain ⟨hb, h⟩ := splitP_some h
  have := (splB_ok b ls ps h).2
  unfold okParts at this
  have h1 := List.all_eq_true.1 (List.all_eq_true.1 this p hp) l hl
  exact looks_f.1 (by simpa using h1)
/-- What stands before and behind does not matter. -/
theorem splitP_before {ls pre post : List (List UInt8)} {b : List UInt8} {ps : List (List (List UInt8))} (h : splitP ls b = some ps) (hp : ∀ l ∈ pre, l ≠ begL b) : splitP (pre ++ ls ++ post) b = some ps := by
  obtain ⟨hb, h⟩ := splitP_some h
  rw [splitP_yes hb, List.append_assoc, splB_skip b pre _ hp]
  exact splB_app b ls post ps h
/-! Joining line by line. -/
theorem joinsP_eq (ps : List (List (List UInt8))) (b : List UInt8) : joinsP ps b = ps.flatMap (begL b :: ·) ++ [endL b] := rfl
def partsL (b : List UInt8) (ps : List (List (List UInt8))) : List (List UInt8) := ps.flatMap (begL b :: ·)
theorem partsL_nil (b : List UInt8) : partsL b [] = [] := rfl
theorem partsL_snoc (b : List UInt8) (ps : List (List (List UInt8))) (p : List (List UInt8)) : partsL b (ps ++ [p]) = partsL b ps ++ begL b :: p := by unfold partsL; simp
theorem partsL_succ (b : List UInt8) (ps : List (List (List UInt8))) (k : Nat) (h : k < ps.length) : partsL b (ps.take (k + 1)) = (partsL b (ps.take k) ++ [begL b]) ++ ps[k] := by
  rw [List.take_succ_eq_append_getElem h, partsL_snoc]; simp
theorem partsL_len (b : List UInt8) (ps : List (List (List UInt8))) : (partsL b ps).length = sumP ps := by
  unfold partsL sumP; rw [List.length_flatMap]; simp
theorem joinsP_sum (ps : List (List (List UInt8))) (b : List UInt8) : (joinsP ps b).length = sumP ps + 1 := joinsP_len ps b
def freeB (b : List UInt8) (ls : List (List UInt8)) : Bool := ls.all fun l => !looksB b l
theorem freeB_f {b : List UInt8} {ls : List (List UInt8)} {k : Nat} (hk : k < ls.length) (h : looksB b ls[k] = true) : freeB b ls = false := by
  unfold freeB; rw [List.all_eq_false]; exact ⟨_, List.getElem_mem hk, by simp [h]⟩
theorem freeB_t {b : List UInt8} {ls : List (List UInt8)} (h : ∀ k, (hk : k < ls.length) → looksB b ls[k] = false) : freeB b ls = true := by
  unfold freeB; rw [List.all_eq_true]; intro x hx
  obtain ⟨j, hj, rfl⟩ := List.getElem_of_mem hx
  simp [h j hj]
theorem freeB_mem {b : List UInt8} {ls : List (List UInt8)} (h : freeB b ls = true) : ∀ l ∈ ls, looksB b l = false := fun l hl => by
  have := List.all_eq_true.1 h l hl; simpa using this
theorem freeB_any (b : List UInt8) (ls : List (List UInt8)) : freeB b ls = !(ls.contains (begL b) || ls.contains (endL b)) := by
  rw [Bool.eq_iff_iff]
  unfold freeB
  rw [List.all_eq_true, Bool.not_eq_true', Bool.or_eq_false_iff]
  constructor
  · intro h
    refine ⟨?_, ?_⟩
    · rw [← Bool.not_eq_true, List.contains_iff_mem]; intro hm
      have := h _ hm; simp [looksB] at this
    · rw [← Bool.not_eq_true, List.contains_iff_mem]; intro hm
      have := h _ hm; simp [looksB] at this
  · rintro ⟨h1, h2⟩ l hl
    rw [← Bool.not_eq_true, List.contains_iff_mem] at h1 h2
    simp only [Bool.not_eq_true']
    exact looks_f.2 ⟨fun e => h1 (e ▸ hl), fun e => h2 (e ▸ hl)⟩
theorem okParts_bad {ps : List (List (List UInt8))} {b : List UInt8} {k : Nat} (hk : k < ps.length) (h : freeB b ps[k] = false) : okParts ps b = false := by
  unfold okParts; rw [List.all_eq_false]; exact ⟨_, List.getElem_mem hk, by unfold freeB at h; simp [h]⟩
theorem okParts_good {ps : List (List (List UInt8))} {b : List UInt8} (h : ∀ k, (hk : k < ps.length) → freeB b ps[k] = true) : okParts ps b = true := by
  unfold okParts; rw [List.all_eq_true]; intro x hx
  obtain ⟨j, hj, rfl⟩ := List.getElem_of_mem hx
  exact h j hj
theorem joinP_bad {ps : List (List (List UInt8))} {b : List UInt8} (h : okParts ps b = false) : joinP ps b = none := by unfold joinP; rw [if_neg (fun c => by rw [h] at c; cases c.2.2)]
theorem joinP_no {ps : List (List (List UInt8))} {b : List UInt8} (h : isBnd b = false) : joinP ps b = none := by unfold joinP; rw [if_neg (fun c => by rw [h] at c; cases c.1)]
theorem joinP_nil (b : List UInt8) : joinP [] b = none := by unfold joinP; rw [if_neg (fun c => c.2.1 rfl)]
theorem joinP_yes {ps : List (List (List UInt8))} {b : List UInt8} (h : isBnd b = true) (hn : ps ≠ []) (h2 : okParts ps b = true) : joinP ps b = some (joinsP ps b) := by unfold joinP; rw [if_pos ⟨h, hn, h2⟩]
/-! Fresh boundaries. -/
def bName (n : Nat) : List UInt8 := 98 :: Lib.decDigits n
def freshB (ls : List (List UInt8)) : Option (List UInt8) := ((List.range 100).find? fun n => freeB (bName n) ls).map bName
theorem freshB_at {ls : List (List UInt8)} {k : Nat} (hk : k < 100) (h : freeB (bName k) ls = true) (h2 : ∀ j, j < k → freeB (bName j) ls = false) : freshB ls = some (bName k) := by
  unfold freshB
  have : (List.range 100).find? (fun n => freeB (bName n) ls) = some k := by
    rw [List.find?_range_eq_some]
    exact ⟨h, List.mem_range.2 hk, fun j hj => by simp [h2 j hj]⟩
  rw [this]; rfl
theorem freshB_none {ls : List (List UInt8)} (h : ∀ j, j < 100 → freeB (bName j) ls = false) : freshB ls = none := by
  unfold freshB
  have : (List.range 100).find? (fun n => freeB (bName n) ls) = none := by
    rw [List.find?_eq_none]
    intro x hx
    simp [h x (List.mem_range.1 hx)]
  rw [this]; rfl
theorem freshB_some {ls : List (List UInt8)} {b : List UInt8} (h : freshB ls = some b) : ∃ k, k < 100 ∧ b = bName k ∧ freeB b ls = true ∧ ∀ j, j < k → freeB (bName j) ls = false := by
  unfold freshB at h
  obtain ⟨k, hk, rfl⟩ := Option.map_eq_some_iff.1 h
  rw [List.find?_range_eq_some] at hk
  obtain ⟨h1, h2, h3⟩ := hk
  exact ⟨k, List.mem_range.1 h2, rfl, h1, fun j hj => by have := h3 j hj; simpa using this⟩
def digN (n : Nat) : UInt8 := UInt8.ofNat (48 + n)
theorem digN_alnum : ∀ n, n < 10 → alnumB (digN n) = true := by decide +kernel
theorem decN_one {n : Nat} (h : n < 10) : Lib.decDigits n = [digN n] := Lib.decDigits_one h
theorem decN_two {n : Nat} (h : ¬ n < 10) (h1 : n < 100) : Lib.decDigits n = [digN (n / 10), digN (n % 10)] := Lib.decDigits_two h h1
theorem bName_bnd {n : Nat} (h : n < 100) : isBnd (bName n) = true := by
  unfold bName
  by_cases h1 : n < 10
  · rw [decN_one h1]; unfold isBnd
    simp only [List.all_cons, List.all_nil, digN_alnum n h1, List.length_cons, List.length_nil]; rfl
  · rw [decN_two h1 h]; unfold isBnd
    simp only [List.all_cons, List.all_nil, digN_alnum (n / 10) (by omega), digN_alnum (n % 10) (by omega), List.length_cons, List.length_nil]; rfl
theorem bName_len {n : Nat} (h : n < 100) : (bName n).length = (if n < 10 then 2 else 3) := by
  unfold bName
  split
  · rename_i h1; rw [decN_one h1]; rfl
  · rename_i h1; rw [decN_two h1 h]; rfl
/-- With a fresh boundary all lines can be a part, twice. -/
theorem fresh_join {ls : List (List UInt8)} {b : List UInt8} (h : freshB ls = some b) : joinP [ls, ls] b = some (joinsP [ls, ls] b) ∧ splitP (joinsP [ls, ls] b) b = some [ls, ls] := by
  obtain ⟨k, hk, rfl, h1, _⟩ := freshB_some h
  have hj : joinP [ls, ls] (bName k) = some (joinsP [ls, ls] (bName k)) := joinP_yes (bName_bnd hk) (by simp) (okParts_good fun i hi => by
    match i, hi with
    | 0, _ => exact h1
    | 1, _ => exact h1)
  exact ⟨hj, split_joinP hj⟩
end Go.Proofs.YtcdmjckkencgoaaGreatDoor
