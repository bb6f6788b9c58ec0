/-
  Draws: a text that is bent in one place. No statement is proved here.
-/
import Derived.Test.YtdaoeoociamdnabDoorDraw
import Derived.Deep.RegionWith
import Derived.IntWalk
namespace Go.Proofs.YtdaoeoociamdnabDoor
open Go.RowKit

end Go.Proofs.YtdaoeoociamdnabDoor
