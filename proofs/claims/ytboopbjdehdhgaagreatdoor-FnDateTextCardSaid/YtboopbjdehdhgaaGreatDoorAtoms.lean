/-
  Atoms: what the program's functions on the bytes of atoms return; the table of atoms' other bytes is a premise. No statement is proved here.
-/
import Derived.Test.YtboopbjdehdhgaaGreatDoorWords
import Derived.Deep.MidRow
namespace Go.Proofs.YtboopbjdehdhgaaGreatDoor
open Go.RowKit

theorem isDigit_any (c : UInt8) (w : World) : Calls Tryz.prog 76 #[.int .u8 c.toNat] w fun e w' => e = .returned (.bool (digB c)) ∧ w = w' := by
  by_cases h2 : (48 : Int) ≤ c.toNat
  all_goals
    go_enter Tryz.func76, Tryz.ntmps76
    go_wp2
    go_ret
    exact ⟨ret_bool (by rw [Bool.eq_iff_iff]; simp [digB]; omega), rfl⟩
end Go.Proofs.YtboopbjdehdhgaaGreatDoor
