/-
  Addresses: what the model's functions on mailboxes, domains and names return. No statement is proved here.
-/
import Derived.Test.YtfjpajeipihlaabDoorAddr2
import Derived.Test.YtfjpajeipihlaabDoorSplit2
namespace Go.Proofs.YtfjpajeipihlaabDoor
open Go.RowKit

end Go.Proofs.YtfjpajeipihlaabDoor
