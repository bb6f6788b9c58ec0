/-
  Lists of words: what the verifier's functions that split return. No statement is proved here.
-/
import Derived.Test.YtdddmclhafbfoabDoorSplit
namespace Go.Proofs.YtdddmclhafbfoabDoor
open Go.RowKit

end Go.Proofs.YtdddmclhafbfoabDoor
