/-
  Laws of chapter 2 on repeated addresses: each law's walk. For every input of the law: it returns true, and the input reads as it did. Conditions: none but the statement's own.
-/
import Derived.Test.YthcmdmjijdafoaaLaw2
import Derived.Test.YthcmdmjijdafoaaDrawA3
import Derived.Test.YthcmdmjijdafoaaDrop
import Derived.Test.YthcmdmjijdafoaaMwA
namespace Go.Proofs.Ythcmdmjijdafoaa
open Go.ChangeShapes Go.WideShapes Go.ChangeAt Go.RowKit
open Go.ChangeMaps (open_string shut_string)

theorem dropR_small {xs : List Adr} {M : Nat} (h : ∀ x ∈ xs, SmallA M x) : ∀ x ∈ dropR xs, SmallA M x := fun x hx => h x (dropR_mem hx)
end Go.Proofs.Ythcmdmjijdafoaa
