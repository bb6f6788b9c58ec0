/-
  Addresses: what the model's functions on mailboxes, domains and names return. No statement is proved here.
-/
import Derived.Test.YtboopbjdehdhgacAddr2
import Derived.Test.YtboopbjdehdhgacSplit2
namespace Go.Proofs.Ytboopbjdehdhgac
open Go.RowKit

end Go.Proofs.Ytboopbjdehdhgac
