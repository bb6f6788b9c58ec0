/-
  Draws: a text that is bent in one place. No statement is proved here.
-/
import Derived.Test.YtnlnkcjphioehabDraw
import Derived.Deep.RegionWith
import Derived.IntWalk
namespace Go.Proofs.Ytnlnkcjphioehab
open Go.RowKit

end Go.Proofs.Ytnlnkcjphioehab
