/-
  Lists of texts, compared. No statement is proved here.
-/
import Derived.Test.YtfiaankfmdpmkaaDoorLists
namespace Go.Proofs.YtfiaankfmdpmkaaDoor
open Go.RowKit

end Go.Proofs.YtfiaankfmdpmkaaDoor
