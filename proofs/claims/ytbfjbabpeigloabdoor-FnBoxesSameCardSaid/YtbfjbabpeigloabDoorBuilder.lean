/-
  The library's strings.Builder over this translation: what its writing methods do to a builder that the call has made. After the shelf's own proofs, at this translation. No statement is proved here.
-/
import Derived.Test.YtbfjbabpeigloabDoorWords
namespace Go.Proofs.YtbfjbabpeigloabDoor
open Go.RowKit

end Go.Proofs.YtbfjbabpeigloabDoor
