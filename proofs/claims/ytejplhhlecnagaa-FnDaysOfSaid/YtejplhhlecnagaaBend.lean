/-
  Draws: a text that is bent in one place. No statement is proved here.
-/
import Derived.Test.YtejplhhlecnagaaDraw
import Derived.Deep.RegionWith
import Derived.IntWalk
namespace Go.Proofs.Ytejplhhlecnagaa
open Go.RowKit

end Go.Proofs.Ytejplhhlecnagaa
