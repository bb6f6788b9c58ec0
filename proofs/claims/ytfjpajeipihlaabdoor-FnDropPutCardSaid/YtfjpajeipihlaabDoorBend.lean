/-
  Draws: a text that is bent in one place. No statement is proved here.
-/
import Derived.Test.YtfjpajeipihlaabDoorDraw
import Derived.Deep.RegionWith
import Derived.IntWalk
namespace Go.Proofs.YtfjpajeipihlaabDoor
open Go.RowKit

end Go.Proofs.YtfjpajeipihlaabDoor
