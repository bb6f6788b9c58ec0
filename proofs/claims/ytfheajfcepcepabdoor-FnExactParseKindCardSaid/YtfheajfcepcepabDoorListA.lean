/-
  Lists of addresses: what the program's functions return. No statement is proved here.
-/
import Derived.Test.YtfheajfcepcepabDoorParse2
import Derived.Test.YtfheajfcepcepabDoorAdrV
namespace Go.Proofs.YtfheajfcepcepabDoor
open Go.RowKit

end Go.Proofs.YtfheajfcepcepabDoor
