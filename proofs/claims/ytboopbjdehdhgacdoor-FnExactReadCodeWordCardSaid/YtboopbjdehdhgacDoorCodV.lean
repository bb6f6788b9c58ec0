/-
  Codes of bytes: quoted lines read: what the program's functions return. No statement is proved here.
-/
import Derived.Test.YtboopbjdehdhgacDoorCodU
import Derived.Outline
namespace Go.Proofs.YtboopbjdehdhgacDoor
open Go.RowKit

end Go.Proofs.YtboopbjdehdhgacDoor
