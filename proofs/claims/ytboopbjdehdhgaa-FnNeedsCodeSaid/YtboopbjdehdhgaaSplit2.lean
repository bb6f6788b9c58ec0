/-
  Lists of words: what the verifier's functions that split return. No statement is proved here.
-/
import Derived.Test.YtboopbjdehdhgaaSplit
namespace Go.Proofs.Ytboopbjdehdhgaa
open Go.RowKit

end Go.Proofs.Ytboopbjdehdhgaa
