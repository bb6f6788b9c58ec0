/-
  Addresses: what the model's functions on mailboxes, domains and names return. No statement is proved here.
-/
import Derived.Test.YtfjpajeipihlaaaDoorAddr2
import Derived.Test.YtfjpajeipihlaaaDoorSplit2
namespace Go.Proofs.YtfjpajeipihlaaaDoor
open Go.RowKit

end Go.Proofs.YtfjpajeipihlaaaDoor
