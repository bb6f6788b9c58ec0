/-
  Lists of addresses: what the program's functions return. No statement is proved here.
-/
import Derived.Test.YtbeaaodhcipdgaaGreatDoorParse2
import Derived.Test.YtbeaaodhcipdgaaGreatDoorAdrV
namespace Go.Proofs.YtbeaaodhcipdgaaGreatDoor
open Go.RowKit

end Go.Proofs.YtbeaaodhcipdgaaGreatDoor
