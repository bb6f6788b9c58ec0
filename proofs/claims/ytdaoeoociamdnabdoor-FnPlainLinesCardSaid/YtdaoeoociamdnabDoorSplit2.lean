/-
  Lists of words: what the verifier's functions that split return. No statement is proved here.
-/
import Derived.Test.YtdaoeoociamdnabDoorSplit
namespace Go.Proofs.YtdaoeoociamdnabDoor
open Go.RowKit

end Go.Proofs.YtdaoeoociamdnabDoor
