/-
  Draws: a text that is bent in one place. No statement is proved here.
-/
import Derived.Test.YtdoclfbfhlgejaaDraw
import Derived.Deep.RegionWith
import Derived.IntWalk
namespace Go.Proofs.Ytdoclfbfhlgejaa
open Go.RowKit

end Go.Proofs.Ytdoclfbfhlgejaa
