/-
  Draws: a text that is bent in one place. No statement is proved here.
-/
import Derived.Test.YtmkcjaceglkloabDoorDraw
import Derived.Deep.RegionWith
import Derived.IntWalk
namespace Go.Proofs.YtmkcjaceglkloabDoor
open Go.RowKit

end Go.Proofs.YtmkcjaceglkloabDoor
