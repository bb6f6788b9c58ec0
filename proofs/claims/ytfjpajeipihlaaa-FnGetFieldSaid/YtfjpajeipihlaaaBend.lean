/-
  Draws: a text that is bent in one place. No statement is proved here.
-/
import Derived.Test.YtfjpajeipihlaaaDraw
import Derived.Deep.RegionWith
import Derived.IntWalk
namespace Go.Proofs.Ytfjpajeipihlaaa
open Go.RowKit

end Go.Proofs.Ytfjpajeipihlaaa
