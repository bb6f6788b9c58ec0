/-
  Lists of words: what the verifier's functions that split return. No statement is proved here.
-/
import Derived.Test.YtboopbjdehdhgaaGreatDoorSplit
namespace Go.Proofs.YtboopbjdehdhgaaGreatDoor
open Go.RowKit

end Go.Proofs.YtboopbjdehdhgaaGreatDoor
