/-
  Lists of words: what the verifier's functions that split return. No statement is proved here.
-/
import Derived.Test.YtboopbjdehdhgaaDoorSplit
namespace Go.Proofs.YtboopbjdehdhgaaDoor
open Go.RowKit

end Go.Proofs.YtboopbjdehdhgaaDoor
