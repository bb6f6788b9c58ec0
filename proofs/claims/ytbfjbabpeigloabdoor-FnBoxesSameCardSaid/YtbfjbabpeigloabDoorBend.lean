/-
  Draws: a text that is bent in one place. No statement is proved here.
-/
import Derived.Test.YtbfjbabpeigloabDoorDraw
import Derived.Deep.RegionWith
import Derived.IntWalk
namespace Go.Proofs.YtbfjbabpeigloabDoor
open Go.RowKit

end Go.Proofs.YtbfjbabpeigloabDoor
