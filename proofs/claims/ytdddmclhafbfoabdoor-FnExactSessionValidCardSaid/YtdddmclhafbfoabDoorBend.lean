/-
  Draws: a text that is bent in one place. No statement is proved here.
-/
import Derived.Test.YtdddmclhafbfoabDoorDraw
import Derived.Deep.RegionWith
import Derived.IntWalk
namespace Go.Proofs.YtdddmclhafbfoabDoor
open Go.RowKit

end Go.Proofs.YtdddmclhafbfoabDoor
