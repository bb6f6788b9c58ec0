/-
  Draws of chapter 3: fields. No statement is proved here.
-/
import Derived.Test.YtfheajfcepcepabDoorDraw1
import Derived.Test.YtfheajfcepcepabDoorRows2
import Derived.Test.YtfheajfcepcepabDoorFldV
import Derived.Test.YtfheajfcepcepabDoorDrawA
namespace Go.Proofs.YtfheajfcepcepabDoor
open Go.RowKit

end Go.Proofs.YtfheajfcepcepabDoor
