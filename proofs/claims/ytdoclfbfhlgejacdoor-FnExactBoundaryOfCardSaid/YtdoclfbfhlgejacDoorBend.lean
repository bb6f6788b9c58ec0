/-
  Draws: a text that is bent in one place. No statement is proved here.
-/
import Derived.Test.YtdoclfbfhlgejacDoorDraw
import Derived.Deep.RegionWith
import Derived.IntWalk
namespace Go.Proofs.YtdoclfbfhlgejacDoor
open Go.RowKit

end Go.Proofs.YtdoclfbfhlgejacDoor
