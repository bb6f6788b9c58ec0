/-
  Draws: a text that is bent in one place. No statement is proved here.
-/
import Derived.Test.YtdddmclhafbfoaaDraw
import Derived.Deep.RegionWith
import Derived.IntWalk
namespace Go.Proofs.Ytdddmclhafbfoaa
open Go.RowKit

end Go.Proofs.Ytdddmclhafbfoaa
