/-
  Lists of words: what the verifier's functions that split return. No statement is proved here.
-/
import Derived.Test.YtfjpajeipihlaabDoorSplit
namespace Go.Proofs.YtfjpajeipihlaabDoor
open Go.RowKit

end Go.Proofs.YtfjpajeipihlaabDoor
