/-
  Addresses: what the model's functions on mailboxes, domains and names return. No statement is proved here.
-/
import Derived.Test.YtboopbjdehdhgaaAddr2
import Derived.Test.YtboopbjdehdhgaaSplit2
namespace Go.Proofs.Ytboopbjdehdhgaa
open Go.RowKit

end Go.Proofs.Ytboopbjdehdhgaa
