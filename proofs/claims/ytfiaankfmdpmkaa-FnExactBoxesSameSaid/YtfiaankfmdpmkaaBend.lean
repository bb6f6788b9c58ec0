/-
  Draws: a text that is bent in one place. No statement is proved here.
-/
import Derived.Test.YtfiaankfmdpmkaaDraw
import Derived.Deep.RegionWith
import Derived.IntWalk
namespace Go.Proofs.Ytfiaankfmdpmkaa
open Go.RowKit

end Go.Proofs.Ytfiaankfmdpmkaa
