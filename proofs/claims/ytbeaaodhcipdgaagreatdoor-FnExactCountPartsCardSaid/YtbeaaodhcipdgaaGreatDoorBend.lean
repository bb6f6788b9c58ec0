/-
  Draws: a text that is bent in one place. No statement is proved here.
-/
import Derived.Test.YtbeaaodhcipdgaaGreatDoorDraw
import Derived.Deep.RegionWith
import Derived.IntWalk
namespace Go.Proofs.YtbeaaodhcipdgaaGreatDoor
open Go.RowKit

end Go.Proofs.YtbeaaodhcipdgaaGreatDoor
