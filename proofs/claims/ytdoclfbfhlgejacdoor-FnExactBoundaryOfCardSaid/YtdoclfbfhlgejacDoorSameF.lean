/-
  Lists of fields, compared: what the program's functions return. No statement is proved here.
-/
import Derived.Test.YtdoclfbfhlgejacDoorFldV
import Derived.Test.YtdoclfbfhlgejacDoorWords
import Derived.Deep.QuietTactic
import Derived.BigQuiet
namespace Go.Proofs.YtdoclfbfhlgejacDoor
open Go.RowKit

end Go.Proofs.YtdoclfbfhlgejacDoor
