/-
  Draws: a text that is bent in one place. No statement is proved here.
-/
import Derived.Test.YthcmdmjijdafoaaDoorDraw
import Derived.Deep.RegionWith
import Derived.IntWalk
namespace Go.Proofs.YthcmdmjijdafoaaDoor
open Go.RowKit

end Go.Proofs.YthcmdmjijdafoaaDoor
