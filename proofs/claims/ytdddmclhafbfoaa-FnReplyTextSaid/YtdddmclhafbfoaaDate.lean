/-
  Dates: what the program's functions on numbers return. No statement is proved here.
-/
import Derived.Test.YtdddmclhafbfoaaDateM
import Derived.Test.YtdddmclhafbfoaaChecked
import Derived.Deep.QuietTactic
import Derived.BigQuiet
import Derived.WalkSmall
import Derived.IntWalk
import Derived.Deep.RegionHeld3
namespace Go.Proofs.Ytdddmclhafbfoaa
open Go.RowKit

/-- A date as a value. -/
def datV (D : Dat) : Value := .agg #[.int .i64 D.y, .int .i64 D.mo, .int .i64 D.d, .int .i64 D.h, .int .i64 D.mi, .int .i64 D.s, .int .i64 D.z]
/-- Whole numbers of 64 bits. -/
def I64 (n : Int) : Prop := -9223372036854775808 ≤ n ∧ n ≤ 9223372036854775807
def In64 (D : Dat) : Prop := I64 D.y ∧ I64 D.mo ∧ I64 D.d ∧ I64 D.h ∧ I64 D.mi ∧ I64 D.s ∧ I64 D.z
theorem leapT {y : Int} (h4 : y % 4 = 0) (h : ¬ y % 100 = 0 ∨ y % 400 = 0) : decide (Leap y) = true := decide_eq_true ⟨h4, h⟩
theorem leapF {y : Int} (h : ¬ (y % 4 = 0 ∧ (¬ y % 100 = 0 ∨ y % 400 = 0))) : decide (Leap y) = false := decide_eq_false h

end Go.Proofs.Ytdddmclhafbfoaa
