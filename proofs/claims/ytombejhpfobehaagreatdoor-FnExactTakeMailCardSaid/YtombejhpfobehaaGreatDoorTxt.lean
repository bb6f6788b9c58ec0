/-
  Lists of texts, compared. No statement is proved here.
-/
import Derived.Test.YtombejhpfobehaaGreatDoorLists
namespace Go.Proofs.YtombejhpfobehaaGreatDoor
open Go.RowKit

end Go.Proofs.YtombejhpfobehaaGreatDoor
