/-
  Lists of words: what the verifier's functions that split return. No statement is proved here.
-/
import Derived.Test.YtboopbjdehdhgacSplit
namespace Go.Proofs.Ytboopbjdehdhgac
open Go.RowKit

end Go.Proofs.Ytboopbjdehdhgac
