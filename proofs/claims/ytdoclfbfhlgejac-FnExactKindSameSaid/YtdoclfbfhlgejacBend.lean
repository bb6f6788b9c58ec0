/-
  Draws: a text that is bent in one place. No statement is proved here.
-/
import Derived.Test.YtdoclfbfhlgejacDraw
import Derived.Deep.RegionWith
import Derived.IntWalk
namespace Go.Proofs.Ytdoclfbfhlgejac
open Go.RowKit

end Go.Proofs.Ytdoclfbfhlgejac
