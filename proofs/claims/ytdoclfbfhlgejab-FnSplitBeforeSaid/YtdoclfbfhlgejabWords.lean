/-
  Words: what the program's functions of chapter 1 return, one theorem a function. No statement is proved here.
-/
import Derived.Test.YtdoclfbfhlgejabProg
import Derived.Test.YtdoclfbfhlgejabChecked
import Derived.Test.YtdoclfbfhlgejabWordsM
namespace Go.Proofs.Ytdoclfbfhlgejab
open Go.RowKit

theorem isCapital_any (c : UInt8) (w : World) : Calls Try.prog 30 #[.int .u8 c.toNat] w fun e w' => e = .returned (.bool (capB c)) ∧ w = w' := by
  by_cases h : (65 : Int) ≤ c.toNat
  all_goals
    go_enter Try.func30, Try.ntmps30
    go_wp2
    go_ret
    exact ⟨ret_bool (by rw [Bool.eq_iff_iff]; simp [capB]; omega), rfl⟩
end Go.Proofs.Ytdoclfbfhlgejab
