/-
  Codes of bytes: quoted lines read: what the program's functions return. No statement is proved here.
-/
import Derived.Test.YtboopbjdehdhgacCodU
import Derived.Outline
namespace Go.Proofs.Ytboopbjdehdhgac
open Go.RowKit

end Go.Proofs.Ytboopbjdehdhgac
