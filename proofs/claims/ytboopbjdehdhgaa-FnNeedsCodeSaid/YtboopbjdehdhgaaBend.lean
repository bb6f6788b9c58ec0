/-
  Draws: a text that is bent in one place. No statement is proved here.
-/
import Derived.Test.YtboopbjdehdhgaaDraw
import Derived.Deep.RegionWith
import Derived.IntWalk
namespace Go.Proofs.Ytboopbjdehdhgaa
open Go.RowKit

end Go.Proofs.Ytboopbjdehdhgaa
