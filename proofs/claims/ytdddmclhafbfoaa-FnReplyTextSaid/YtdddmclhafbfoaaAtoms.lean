/-
  Atoms: what the program's functions on the bytes of atoms return; the table of atoms' other bytes is a premise. No statement is proved here.
-/
import Derived.Test.YtdddmclhafbfoaaWords
import Derived.Deep.MidRow
namespace Go.Proofs.Ytdddmclhafbfoaa
open Go.RowKit

end Go.Proofs.Ytdddmclhafbfoaa
