/-
  Draws: a text that is bent in one place. No statement is proved here.
-/
import Derived.Test.YthcmdmjijdafoaaDraw
import Derived.Deep.RegionWith
import Derived.IntWalk
namespace Go.Proofs.Ythcmdmjijdafoaa
open Go.RowKit

end Go.Proofs.Ythcmdmjijdafoaa
