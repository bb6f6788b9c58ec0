/-
  Lists of words: what the verifier's functions that split return. No statement is proved here.
-/
import Derived.Test.YthcmdmjijdafoaaDoorSplit
namespace Go.Proofs.YthcmdmjijdafoaaDoor
open Go.RowKit

end Go.Proofs.YthcmdmjijdafoaaDoor
