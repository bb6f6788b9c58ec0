/-
  Codes of bytes: quoted lines read: what the program's functions return. No statement is proved here.
-/
import Derived.Test.YtboopbjdehdhgaaDoorCodU
import Derived.Outline
namespace Go.Proofs.YtboopbjdehdhgaaDoor
open Go.RowKit

end Go.Proofs.YtboopbjdehdhgaaDoor
