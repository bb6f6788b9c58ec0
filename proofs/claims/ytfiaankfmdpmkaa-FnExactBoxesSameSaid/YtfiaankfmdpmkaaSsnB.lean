/-
  Sessions in memory, compared. No statement is proved here.
-/
import Derived.Test.YtfiaankfmdpmkaaSsn
namespace Go.Proofs.Ytfiaankfmdpmkaa
open Go.RowKit

end Go.Proofs.Ytfiaankfmdpmkaa
