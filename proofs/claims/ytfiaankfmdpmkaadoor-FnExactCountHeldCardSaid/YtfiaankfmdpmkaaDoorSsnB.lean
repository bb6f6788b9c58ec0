/-
  Sessions in memory, compared. No statement is proved here.
-/
import Derived.Test.YtfiaankfmdpmkaaDoorSsn
namespace Go.Proofs.YtfiaankfmdpmkaaDoor
open Go.RowKit

end Go.Proofs.YtfiaankfmdpmkaaDoor
