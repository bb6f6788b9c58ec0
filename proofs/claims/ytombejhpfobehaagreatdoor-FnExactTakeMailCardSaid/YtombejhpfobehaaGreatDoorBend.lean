/-
  Draws: a text that is bent in one place. No statement is proved here.
-/
import Derived.Test.YtombejhpfobehaaGreatDoorDraw
import Derived.Deep.RegionWith
import Derived.IntWalk
namespace Go.Proofs.YtombejhpfobehaaGreatDoor
open Go.RowKit

end Go.Proofs.YtombejhpfobehaaGreatDoor
