/-
  Draws: a text that is bent in one place. No statement is proved here.
-/
import Derived.Test.YtdoclfbfhlgejabDraw
import Derived.Deep.RegionWith
import Derived.IntWalk
namespace Go.Proofs.Ytdoclfbfhlgejab
open Go.RowKit

end Go.Proofs.Ytdoclfbfhlgejab
