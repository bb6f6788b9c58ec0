/-
  The laws of chapter 2 on addresses: each law's walk. For every input of the law: it returns true, and the input reads as it did. Conditions: none but the statement's own.
-/
import Derived.Test.YthcmdmjijdafoaaLaw0
import Derived.Test.YthcmdmjijdafoaaDrawA
import Derived.Test.YthcmdmjijdafoaaBoxA
namespace Go.Proofs.Ythcmdmjijdafoaa
open Go.ChangeShapes Go.WideShapes Go.ChangeAt Go.RowKit
open Go.ChangeMaps (open_string shut_string)

/-- A new block, behind whatever else was made. -/
theorem parse_fmtA {a : Adr} (h : isAdr a = true) : parseA (fmtA a) = some a := by rw [fmtA_val h]; exact parse_fmt h
end Go.Proofs.Ythcmdmjijdafoaa
