/-
  Codes of bytes: quoted lines read: what the program's functions return. No statement is proved here.
-/
import Derived.Test.YtboopbjdehdhgabDoorCodU
import Derived.Outline
namespace Go.Proofs.YtboopbjdehdhgabDoor
open Go.RowKit

end Go.Proofs.YtboopbjdehdhgabDoor
