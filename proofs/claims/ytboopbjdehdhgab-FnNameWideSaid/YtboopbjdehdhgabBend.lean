/-
  Draws: a text that is bent in one place. No statement is proved here.
-/
import Derived.Test.YtboopbjdehdhgabDraw
import Derived.Deep.RegionWith
import Derived.IntWalk
namespace Go.Proofs.Ytboopbjdehdhgab
open Go.RowKit

end Go.Proofs.Ytboopbjdehdhgab
