/-
  Lists of words: what the verifier's functions that split return. No statement is proved here.
-/
import Derived.Test.YtboopbjdehdhgabDoorSplit
namespace Go.Proofs.YtboopbjdehdhgabDoor
open Go.RowKit

end Go.Proofs.YtboopbjdehdhgabDoor
