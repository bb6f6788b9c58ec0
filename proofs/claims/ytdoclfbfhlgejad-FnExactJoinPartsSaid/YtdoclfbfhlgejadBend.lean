/-
  Draws: a text that is bent in one place. No statement is proved here.
-/
import Derived.Test.YtdoclfbfhlgejadDraw
import Derived.Deep.RegionWith
import Derived.IntWalk
namespace Go.Proofs.Ytdoclfbfhlgejad
open Go.RowKit

end Go.Proofs.Ytdoclfbfhlgejad
