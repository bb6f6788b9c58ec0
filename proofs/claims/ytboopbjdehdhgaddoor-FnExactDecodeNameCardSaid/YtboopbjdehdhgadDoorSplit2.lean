/-
  Lists of words: what the verifier's functions that split return. No statement is proved here.
-/
import Derived.Test.YtboopbjdehdhgadDoorSplit
namespace Go.Proofs.YtboopbjdehdhgadDoor
open Go.RowKit

end Go.Proofs.YtboopbjdehdhgadDoor
