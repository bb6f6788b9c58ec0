/-
  Lists of words: what the program's functions that join return. No statement is proved here.
-/
import Derived.Test.YtbfjbabpeigloabDoorSplit
namespace Go.Proofs.YtbfjbabpeigloabDoor
open Go.RowKit

theorem joinAll_succ (xs : List (List UInt8)) (k : Nat) (h : k < xs.length) : joinAll (xs.take (k + 1)) = if k = 0 then quoteW xs[k] else joinAll (xs.take k) ++ 32 :: quoteW xs[k] := by
  rw [List.take_succ_eq_append_getElem h, joinAll_snoc]
  by_cases hk : k = 0
  · subst hk; simp
  · rw [if_neg hk, if_neg (by intro e; have h2 : (xs.take k).length = 0 := (by rw [e]; rfl); rw [List.length_take] at h2; omega)]
theorem joinW_bad {xs : List (List UInt8)} {k : Nat} (h : k < xs.length) (hx : isText xs[k] = false) : joinW xs = [] := by
  unfold joinW
  rw [if_neg]
  rw [Bool.and_eq_true, List.all_eq_true]
  intro hc
  have := hc.1 _ (List.getElem_mem h)
  rw [hx] at this; cases this
theorem joinW_long {xs : List (List UInt8)} {k : Nat} (h : 200 < (joinAll (xs.take k)).length) : joinW xs = [] := by
  unfold joinW
  rw [if_neg]
  rw [Bool.and_eq_true, decide_eq_true_eq]
  intro hc
  have := joinAll_take xs k
  omega
theorem joinW_all {xs : List (List UInt8)} (h : ∀ j, (hj : j < xs.length) → isText xs[j] = true) (hl : (joinAll xs).length ≤ 200) : joinW xs = joinAll xs := by
  unfold joinW
  rw [if_pos]
  rw [Bool.and_eq_true, decide_eq_true_eq, List.all_eq_true]
  refine ⟨fun x hx => ?_, hl⟩
  obtain ⟨j, hj, rfl⟩ := List.getElem_of_mem hx
  exact h j hj
theorem take_full {α : Type} (xs : List α) : xs.take xs.length = xs := List.take_length
end Go.Proofs.YtbfjbabpeigloabDoor
