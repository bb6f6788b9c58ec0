/-
  Codes of bytes: quoted lines read: what the program's functions return. No statement is proved here.
-/
import Derived.Test.YtboopbjdehdhgaaCodU
import Derived.Outline
namespace Go.Proofs.Ytboopbjdehdhgaa
open Go.RowKit

end Go.Proofs.Ytboopbjdehdhgaa
