/-
  Draws: a text that is bent in one place. No statement is proved here.
-/
import Derived.Test.YtdaoeoociamdnabDraw
import Derived.Deep.RegionWith
import Derived.IntWalk
namespace Go.Proofs.Ytdaoeoociamdnab
open Go.RowKit

end Go.Proofs.Ytdaoeoociamdnab
