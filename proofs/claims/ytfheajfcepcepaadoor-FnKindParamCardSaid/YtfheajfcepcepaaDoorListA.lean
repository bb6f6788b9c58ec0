/-
  Lists of addresses: what the program's functions return. No statement is proved here.
-/
import Derived.Test.YtfheajfcepcepaaDoorParse2
import Derived.Test.YtfheajfcepcepaaDoorAdrV
namespace Go.Proofs.YtfheajfcepcepaaDoor
open Go.RowKit

end Go.Proofs.YtfheajfcepcepaaDoor
