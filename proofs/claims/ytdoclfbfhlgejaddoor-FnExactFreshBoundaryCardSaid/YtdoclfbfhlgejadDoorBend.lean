/-
  Draws: a text that is bent in one place. No statement is proved here.
-/
import Derived.Test.YtdoclfbfhlgejadDoorDraw
import Derived.Deep.RegionWith
import Derived.IntWalk
namespace Go.Proofs.YtdoclfbfhlgejadDoor
open Go.RowKit

end Go.Proofs.YtdoclfbfhlgejadDoor
