/-
  Draws: a text that is bent in one place. No statement is proved here.
-/
import Derived.Test.YtepjnahliojnjabDraw
import Derived.Deep.RegionWith
import Derived.IntWalk
namespace Go.Proofs.Ytepjnahliojnjab
open Go.RowKit

end Go.Proofs.Ytepjnahliojnjab
