/-
  Draws: a text that is bent in one place. No statement is proved here.
-/
import Derived.Test.YtdoclfbfhlgejabDoorDraw
import Derived.Deep.RegionWith
import Derived.IntWalk
namespace Go.Proofs.YtdoclfbfhlgejabDoor
open Go.RowKit

end Go.Proofs.YtdoclfbfhlgejabDoor
