/-
  Draws: a text that is bent in one place. No statement is proved here.
-/
import Derived.Test.YtejplhhlecnagabDraw
import Derived.Deep.RegionWith
import Derived.IntWalk
namespace Go.Proofs.Ytejplhhlecnagab
open Go.RowKit

end Go.Proofs.Ytejplhhlecnagab
