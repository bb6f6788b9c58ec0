/-
  Words: what the program's functions of chapter 1 return, one theorem a function. No statement is proved here.
-/
import Derived.Test.YtdoclfbfhlgejadProg
import Derived.Test.YtdoclfbfhlgejadChecked
import Derived.Test.YtdoclfbfhlgejadWordsM
namespace Go.Proofs.Ytdoclfbfhlgejad
open Go.RowKit

theorem isCapital_any (c : UInt8) (w : World) : Calls Try.prog 31 #[.int .u8 c.toNat] w fun e w' => e = .returned (.bool (capB c)) ∧ w = w' := by
  by_cases h : (65 : Int) ≤ c.toNat
  all_goals
    go_enter Try.func31, Try.ntmps31
    go_wp2
    go_ret
    exact ⟨ret_bool (by rw [Bool.eq_iff_iff]; simp [capB]; omega), rfl⟩
end Go.Proofs.Ytdoclfbfhlgejad
