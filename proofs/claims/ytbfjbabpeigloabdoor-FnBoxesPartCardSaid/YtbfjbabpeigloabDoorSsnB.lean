/-
  Sessions in memory, compared. No statement is proved here.
-/
import Derived.Test.YtbfjbabpeigloabDoorSsn
namespace Go.Proofs.YtbfjbabpeigloabDoor
open Go.RowKit

end Go.Proofs.YtbfjbabpeigloabDoor
