/-
  Lists of words: what the verifier's functions that split return. No statement is proved here.
-/
import Derived.Test.YtdaoeoociamdnaaDoorSplit
namespace Go.Proofs.YtdaoeoociamdnaaDoor
open Go.RowKit

end Go.Proofs.YtdaoeoociamdnaaDoor
