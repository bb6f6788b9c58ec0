/-
  Draws: a text that is bent in one place. No statement is proved here.
-/
import Derived.Test.YtdddmclhafbfoabDraw
import Derived.Deep.RegionWith
import Derived.IntWalk
namespace Go.Proofs.Ytdddmclhafbfoab
open Go.RowKit

end Go.Proofs.Ytdddmclhafbfoab
