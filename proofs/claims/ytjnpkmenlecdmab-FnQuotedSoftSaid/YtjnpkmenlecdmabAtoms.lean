/-
  Atoms: what the program's functions on the bytes of atoms return; the table of atoms' other bytes is a premise. No statement is proved here.
-/
import Derived.Test.YtjnpkmenlecdmabWords
import Derived.Deep.MidRow
namespace Go.Proofs.Ytjnpkmenlecdmab
open Go.RowKit

end Go.Proofs.Ytjnpkmenlecdmab
