/-
  Draws: a text that is bent in one place. No statement is proved here.
-/
import Derived.Test.YtfiaankfmdpmkaaDoorDraw
import Derived.Deep.RegionWith
import Derived.IntWalk
namespace Go.Proofs.YtfiaankfmdpmkaaDoor
open Go.RowKit

end Go.Proofs.YtfiaankfmdpmkaaDoor
