/-
  The laws of chapter 5 on all ways: each law's walk. For every input of the law: it returns true, and the input reads as it did. Conditions: none but the statement's own.
-/
import Derived.Test.YtdaoeoociamdnabDoorLaw0c
import Derived.Test.YtdaoeoociamdnabDoorDrawC
import Derived.Test.YtdaoeoociamdnabDoorDraw2
import Derived.Test.YtdaoeoociamdnabDoorCodZ
namespace Go.Proofs.YtdaoeoociamdnabDoor
open Go.ChangeShapes Go.WideShapes Go.ChangeAt Go.RowKit
open Go.ChangeMaps (open_string shut_string)

theorem ownL_cap {B : Nat} {a : Option Addr} {n c : Nat} {xs : List (List UInt8)} {w : World} (h : OwnL B (.slice a n c) xs w) : n ≤ c := by
  rcases h.2 with ⟨hv, h0⟩ | ⟨g, cap, cur, hv, _, _, hq, _⟩
  · injection hv with _ h2 _; omega
  · injection hv with _ h2 h3; omega
theorem decW_encW {b : List UInt8} {k : Int} {ls : List (List UInt8)} (h : encW b k = some ls) : decW ls k = some b ∧ ls ≠ [] ∧ b.length ≤ 300 := by
  unfold encW at h
  unfold decW
  split at h
  · rename_i h0
    rw [if_pos h0]
    obtain ⟨h1, h2⟩ := decP_encP h
    refine ⟨h1, ?_, h2⟩
    rintro rfl
    unfold decP at h1
    simp at h1
  · rename_i h0
    rw [if_neg h0]
    split at h
    · rename_i h1
      rw [if_pos h1]
      unfold encQ at h
      split at h
      · rename_i h3
        injection h with h; subst h
        exact ⟨decQ_qgo h3, by have := (qgo_count b []).2; intro e; rw [e] at this; simp at this, h3⟩
      · cases h
    · rename_i h1
      rw [if_neg h1]
      split at h
      · rename_i h2
        rw [if_pos h2]
        by_cases h3 : b.length ≤ 300
        · rw [encB_in h3] at h
          injection h with h; subst h
          refine ⟨decB_encB h3, ?_, h3⟩
          intro e
          by_cases h40 : 40 < (b64 b).length
          · rw [chop_long h40] at e; cases e
          · rw [chop_short (by omega)] at e; cases e
        · rw [encB_out (by omega)] at h; cases h
      · cases h
end Go.Proofs.YtdaoeoociamdnabDoor
