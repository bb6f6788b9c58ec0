/-
  Addresses: what the model's functions on mailboxes, domains and names return. No statement is proved here.
-/
import Derived.Test.YtboopbjdehdhgabAddr2
import Derived.Test.YtboopbjdehdhgabSplit2
namespace Go.Proofs.Ytboopbjdehdhgab
open Go.RowKit

end Go.Proofs.Ytboopbjdehdhgab
