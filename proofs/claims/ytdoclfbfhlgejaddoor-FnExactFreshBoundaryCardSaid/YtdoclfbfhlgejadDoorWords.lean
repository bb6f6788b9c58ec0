/-
  Words: what the program's functions of chapter 1 return, one theorem a function. No statement is proved here.
-/
import Derived.Test.YtdoclfbfhlgejadDoorProg
import Derived.Test.YtdoclfbfhlgejadDoorChecked
import Derived.Test.YtdoclfbfhlgejadDoorWordsM
namespace Go.Proofs.YtdoclfbfhlgejadDoor
open Go.RowKit

end Go.Proofs.YtdoclfbfhlgejadDoor
