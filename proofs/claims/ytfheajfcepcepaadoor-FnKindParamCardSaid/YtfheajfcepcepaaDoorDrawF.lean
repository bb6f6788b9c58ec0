/-
  Draws of chapter 3: fields. No statement is proved here.
-/
import Derived.Test.YtfheajfcepcepaaDoorDraw1
import Derived.Test.YtfheajfcepcepaaDoorRows2
import Derived.Test.YtfheajfcepcepaaDoorFldV
import Derived.Test.YtfheajfcepcepaaDoorDrawA
namespace Go.Proofs.YtfheajfcepcepaaDoor
open Go.RowKit

end Go.Proofs.YtfheajfcepcepaaDoor
