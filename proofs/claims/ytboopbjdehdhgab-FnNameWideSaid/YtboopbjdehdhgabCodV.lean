/-
  Codes of bytes: quoted lines read: what the program's functions return. No statement is proved here.
-/
import Derived.Test.YtboopbjdehdhgabCodU
import Derived.Outline
namespace Go.Proofs.Ytboopbjdehdhgab
open Go.RowKit

end Go.Proofs.Ytboopbjdehdhgab
