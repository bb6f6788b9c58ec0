/-
  Lists of words: what the verifier's functions that split return. No statement is proved here.
-/
import Derived.Test.YtboopbjdehdhgacDoorSplit
namespace Go.Proofs.YtboopbjdehdhgacDoor
open Go.RowKit

end Go.Proofs.YtboopbjdehdhgacDoor
