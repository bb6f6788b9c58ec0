/-
  Lists of words: what the verifier's functions that split return. No statement is proved here.
-/
import Derived.Test.YtdddmclhafbfoaaDoorSplit
namespace Go.Proofs.YtdddmclhafbfoaaDoor
open Go.RowKit

end Go.Proofs.YtdddmclhafbfoaaDoor
