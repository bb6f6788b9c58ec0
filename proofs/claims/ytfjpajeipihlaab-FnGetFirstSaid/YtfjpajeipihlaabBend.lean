/-
  Draws: a text that is bent in one place. No statement is proved here.
-/
import Derived.Test.YtfjpajeipihlaabDraw
import Derived.Deep.RegionWith
import Derived.IntWalk
namespace Go.Proofs.Ytfjpajeipihlaab
open Go.RowKit

end Go.Proofs.Ytfjpajeipihlaab
