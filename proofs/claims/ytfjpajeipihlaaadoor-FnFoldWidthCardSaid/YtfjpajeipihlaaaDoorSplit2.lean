/-
  Lists of words: what the verifier's functions that split return. No statement is proved here.
-/
import Derived.Test.YtfjpajeipihlaaaDoorSplit
namespace Go.Proofs.YtfjpajeipihlaaaDoor
open Go.RowKit

end Go.Proofs.YtfjpajeipihlaaaDoor
