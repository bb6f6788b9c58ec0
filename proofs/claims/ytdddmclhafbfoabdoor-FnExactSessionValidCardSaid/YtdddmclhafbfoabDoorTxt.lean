/-
  Lists of texts, compared. No statement is proved here.
-/
import Derived.Test.YtdddmclhafbfoabDoorLists
namespace Go.Proofs.YtdddmclhafbfoabDoor
open Go.RowKit

end Go.Proofs.YtdddmclhafbfoabDoor
