/-
  Draws: a text that is bent in one place. No statement is proved here.
-/
import Derived.Test.YtboopbjdehdhgacDraw
import Derived.Deep.RegionWith
import Derived.IntWalk
namespace Go.Proofs.Ytboopbjdehdhgac
open Go.RowKit

end Go.Proofs.Ytboopbjdehdhgac
