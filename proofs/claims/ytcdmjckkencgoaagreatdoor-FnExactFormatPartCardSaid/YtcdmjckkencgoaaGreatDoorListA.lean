/-
  Lists of addresses: what the program's functions return. No statement is proved here.
-/
import Derived.Test.YtcdmjckkencgoaaGreatDoorParse2
import Derived.Test.YtcdmjckkencgoaaGreatDoorAdrV
namespace Go.Proofs.YtcdmjckkencgoaaGreatDoor
open Go.RowKit

end Go.Proofs.YtcdmjckkencgoaaGreatDoor
