/-
  Lists of words: what the verifier's functions that split return. No statement is proved here.
-/
import Derived.Test.YtccendchnndaiaaDoorSplit
namespace Go.Proofs.YtccendchnndaiaaDoor
open Go.RowKit

end Go.Proofs.YtccendchnndaiaaDoor
