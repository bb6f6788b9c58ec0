/-
  Mails in the exact laws: how a mail that came in reads, sizes, copies. No statement is proved here.
-/
import Derived.Test.YtdddmclhafbfoaaDoorMalS
import Derived.Test.YtdddmclhafbfoaaDoorOnly
import Derived.Test.YtdddmclhafbfoaaDoorRowS
import Derived.Test.YtdddmclhafbfoaaDoorLawL
import Derived.Deep.Cut
namespace Go.Proofs.YtdddmclhafbfoaaDoor
open Go.ChangeShapes Go.WideShapes Go.ChangeAt Go.RowKit
open Go.ChangeMaps (open_string shut_string)
open Go.Deep

end Go.Proofs.YtdddmclhafbfoaaDoor
