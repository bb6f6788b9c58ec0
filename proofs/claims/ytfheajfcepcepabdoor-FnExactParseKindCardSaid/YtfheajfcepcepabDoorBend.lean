/-
  Draws: a text that is bent in one place. No statement is proved here.
-/
import Derived.Test.YtfheajfcepcepabDoorDraw
import Derived.Deep.RegionWith
import Derived.IntWalk
namespace Go.Proofs.YtfheajfcepcepabDoor
open Go.RowKit

end Go.Proofs.YtfheajfcepcepabDoor
