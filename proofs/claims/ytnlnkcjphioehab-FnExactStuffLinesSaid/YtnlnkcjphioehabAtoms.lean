/-
  Atoms: what the program's functions on the bytes of atoms return; the table of atoms' other bytes is a premise. No statement is proved here.
-/
import Derived.Test.YtnlnkcjphioehabWords
import Derived.Deep.MidRow
namespace Go.Proofs.Ytnlnkcjphioehab
open Go.RowKit

end Go.Proofs.Ytnlnkcjphioehab
