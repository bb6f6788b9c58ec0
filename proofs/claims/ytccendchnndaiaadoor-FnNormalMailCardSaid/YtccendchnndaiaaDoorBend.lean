/-
  Draws: a text that is bent in one place. No statement is proved here.
-/
import Derived.Test.YtccendchnndaiaaDoorDraw
import Derived.Deep.RegionWith
import Derived.IntWalk
namespace Go.Proofs.YtccendchnndaiaaDoor
open Go.RowKit

end Go.Proofs.YtccendchnndaiaaDoor
