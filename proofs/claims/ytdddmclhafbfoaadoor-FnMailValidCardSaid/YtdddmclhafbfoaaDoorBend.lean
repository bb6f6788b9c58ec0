/-
  Draws: a text that is bent in one place. No statement is proved here.
-/
import Derived.Test.YtdddmclhafbfoaaDoorDraw
import Derived.Deep.RegionWith
import Derived.IntWalk
namespace Go.Proofs.YtdddmclhafbfoaaDoor
open Go.RowKit

end Go.Proofs.YtdddmclhafbfoaaDoor
