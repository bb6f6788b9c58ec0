/-
  Codes of bytes: quoted lines read: what the program's functions return. No statement is proved here.
-/
import Derived.Test.YtboopbjdehdhgadDoorCodU
import Derived.Outline
namespace Go.Proofs.YtboopbjdehdhgadDoor
open Go.RowKit

end Go.Proofs.YtboopbjdehdhgadDoor
