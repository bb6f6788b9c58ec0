/-
  Parts between boundaries, as plain functions on lists of lines, and that what is joined is split again. No statement is proved here.
-/
import Derived.Test.YtcdmjckkencgoaaGreatDoorWordsM
namespace Go.Proofs.YtcdmjckkencgoaaGreatDoor
open Go.RowKit

/-! Boundaries. -/
def isBnd (b : List UInt8) : Bool := b.all alnumB && (decide (1 ≤ b.length) && decide (b.length ≤ 20))
/-- The line that begins a part, and the one that ends all of them. -/
def begL (b : List UInt8) : List UInt8 := 45 :: 45 :: b
def endL (b : List UInt8) : List UInt8 := 45 :: 45 :: (b ++ [45, 45])
theorem beg_ne_end (b : List UInt8) : begL b ≠ endL b := by
  intro h
  have := congrArg List.length h
  simp [begL, endL] at this
def looksB (b l : List UInt8) : Bool := decide (l = begL b) || decide (l = endL b)
theorem looks_f {b l : List UInt8} : looksB b l = false ↔ l ≠ begL b ∧ l ≠ endL b := by unfold looksB; simp
/-- The parts from a line on behind the beginning of a part of which some lines are read. -/
def splG (b : List UInt8) : List (List UInt8) → List (List UInt8) → Option (List (List (List UInt8)))
  | _, [] => none
  | cur, l :: ls => if l = begL b then (splG b [] ls).map (cur :: ·) else if l = endL b then some [cur] else splG b (cur ++ [l]) ls
def splB (b : List UInt8) : List (List UInt8) → Option (List (List (List UInt8)))
  | [] => none
  | l :: ls => if l = begL b then splG b [] ls else splB b ls
def splitP (ls : List (List UInt8)) (b : List UInt8) : Option (List (List (List UInt8))) := if isBnd b then splB b ls else none
def joinsP (ps : List (List (List UInt8))) (b : List UInt8) : List (List UInt8) := ps.flatMap (begL b :: ·) ++ [endL b]
def okParts (ps : List (List (List UInt8))) (b : List UInt8) : Bool := ps.all fun p => p.all fun l => !looksB b l
def joinP (ps : List (List (List UInt8))) (b : List UInt8) : Option (List (List UInt8)) := if isBnd b = true ∧ ps ≠ [] ∧ okParts ps b = true then some (joinsP ps b) else none
theorem splG_lines (b : List UInt8) : ∀ (p cur ls : List (List UInt8)), (∀ l ∈ p, looksB b l = false) → splG b cur (p ++ ls) = splG b (cur ++ p) ls
  | [], cur, ls, _ => by simp
  | l :: p, cur, ls, h => by
    obtain ⟨h1, h2⟩ := looks_f.1 (h l (by simp))
    rw [List.cons_append, splG, if_neg h1, if_neg h2, splG_lines b p (cur ++ [l]) ls (fun x hx => h x (by simp [hx]))]
    simp
theorem splG_join (b : List UInt8) : ∀ (ps : List (List (List UInt8))) (cur : List (List UInt8)), okParts ps b = true → splG b cur (joinsP ps b) = some (cur :: ps)
  | [], cur, _ => by
    unfold joinsP
    rw [List.flatMap_nil, List.nil_append, splG, if_neg (fun h => beg_ne_end b h.symm), if_pos rfl]
  | p :: ps, cur, h => by
    unfold okParts at h
    rw [List.all_cons, Bool.and_eq_true] at h
    have hp : ∀ l ∈ p, looksB b l = false := fun l hl => by have := List.all_eq_true.1 h.1 l hl; simpa using this
    have ih := splG_join b ps p h.2
    have e : joinsP (p :: ps) b = begL b :: (p ++ joinsP ps b) := by unfold joinsP; simp
    rw [e, splG, if_pos rfl, splG_lines b p [] _ hp, List.nil_append, ih]; rfl
theorem joinP_some {ps : List (List (List UInt8))} {b : List UInt8} {ls : List (List UInt8)} (h : joinP ps b = some ls) : isBnd b = true ∧ ps ≠ [] ∧ okParts ps b = true ∧ ls = joinsP ps b := by
  unfold joinP at h
  split at h
  · rename_i c; injection h with h; exact ⟨c.1, c.2.1, c.2.2, h.symm⟩
  · cases h
/-- Parts are split again. -/
theorem split_joinP {ps : List (List (List UInt8))} {b : List UInt8} {ls : List (List UInt8)} (h : joinP ps b = some ls) : splitP ls b = some ps := by
  obtain ⟨hb, hne, hok, rfl⟩ := joinP_some h
  match ps, hne with
  | p :: ps, _ =>
    unfold okParts at hok
    rw [List.all_cons, Bool.and_eq_true] at hok
    have hp : ∀ l ∈ p, looksB b l = false := fun l hl => by have := List.all_eq_true.1 hok.1 l hl; simpa using this
    have e : joinsP (p :: ps) b = begL b :: (p ++ joinsP ps b) := by unfold joinsP; simp
    unfold splitP
    rw [if_pos hb, e, splB, if_pos rfl, splG_lines b p [] _ hp, List.nil_append]
    exact splG_join b ps p hok.2
theorem splG_ok (b : List UInt8) : ∀ (ls cur : List (List UInt8)) (ps : List (List (List UInt8))), (∀ l ∈ cur, looksB b l = false) → splG b cur ls = some ps → ps ≠ [] ∧ okParts ps b = true
  | [], cur, ps, _, h => by simp [splG] at h
  | l :: ls, cur, ps, hc, h => by
    rw [splG] at h
    by_cases h1 : l = begL b
    · rw [if_pos h1] at h
      obtain ⟨qs, hq, rfl⟩ := Option.map_eq_some_iff.1 h
      obtain ⟨_, h2⟩ := splG_ok b ls [] qs (fun x hx => by cases hx) hq
      refine ⟨by simp, ?_⟩
      unfold okParts at h2 ⊢
      rw [List.all_cons, Bool.and_eq_true]
      exact ⟨List.all_eq_true.2 fun x hx => by simp [hc x hx], h2⟩
    · rw [if_neg h1] at h
      by_cases h2 : l = endL b
      · rw [if_pos h2] at h
        injection h with h
        subst h
        refine ⟨by simp, ?_⟩
        unfold okParts
        rw [List.all_cons, List.all_nil, Bool.and_true]
        exact List.all_eq_true.2 fun x hx => by simp [hc x hx]
      · rw [if_neg h2] at h
        refine splG_ok b ls (cur ++ [l]) ps (fun x hx => ?_) h
        rcases List.mem_append.1 hx with hx | hx
        · exact hc x hx
        · rw [List.mem_singleton.1 hx]; exact looks_f.2 ⟨h1, h2⟩
theorem splB_ok (b : List UInt8) : ∀ (ls : List (List UInt8)) (ps : List (List (List UInt8))), splB b ls = some ps → ps ≠ [] ∧ okParts ps b = true
  | [], ps, h => by simp [splB] at h
  | l :: ls, ps, h => by
    rw [splB] at h
    by_cases h1 : l = begL b
    · rw [if_pos h1] at h; exact splG_ok b ls [] ps (fun x hx => by cases hx) h
    · rw [if_neg h1] at h; exact splB_ok b ls ps h
/-- Splitting is settled: what is split is joined, and split again. -/
theorem join_splitP {ps : List (List (List UInt8))} {b : List UInt8} {ls : List (List UInt8)} (h : splitP ls b = some ps) : joinP ps b = some (joinsP ps b) := by
  unfold splitP at h
  split at h
  · rename_i hb
    obtain ⟨h1, h2⟩ := splB_ok b ls ps h
    unfold joinP; rw [if_pos ⟨hb, h1, h2⟩]
  · cases h
/-- Lines ahead of the first beginning are left out. -/
theorem splB_skip (b : List UInt8) : ∀ (p ls : List (List UInt8)), (∀ l ∈ p, l ≠ begL b) → splB b (p ++ ls) = splB b ls
  | [], ls, _ => rfl
  | l :: p, ls, h => by rw [List.cons_append, splB, if_neg (h l (by simp)), splB_skip b p ls (fun x hx => h x (by simp [hx]))]
theorem joinsP_len (ps : List (List (List UInt8))) (b : List UInt8) : (joinsP ps b).length = (ps.map fun p => p.length + 1).sum + 1 := by
  unfold joinsP
  rw [List.length_append, List.length_singleton, List.length_flatMap]
  simp
end Go.Proofs.YtcdmjckkencgoaaGreatDoor
