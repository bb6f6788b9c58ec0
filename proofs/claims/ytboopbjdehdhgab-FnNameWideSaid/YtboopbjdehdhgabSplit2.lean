/-
  Lists of words: what the verifier's functions that split return. No statement is proved here.
-/
import Derived.Test.YtboopbjdehdhgabSplit
namespace Go.Proofs.Ytboopbjdehdhgab
open Go.RowKit

end Go.Proofs.Ytboopbjdehdhgab
