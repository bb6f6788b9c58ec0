/-
  Lists of strings in the exact laws: their sizes, copies and comparisons. No statement is proved here.
-/
import Derived.Test.YtbfjbabpeigloabDoorDraw2
import Derived.Deep.QuietTactic
import Derived.BigQuiet
import Derived.Deep.RegionWith
namespace Go.Proofs.YtbfjbabpeigloabDoor
open Go.RowKit

end Go.Proofs.YtbfjbabpeigloabDoor
