/-
  Atoms: what the program's functions on the bytes of atoms return; the table of atoms' other bytes is a premise. No statement is proved here.
-/
import Derived.Test.YtdddmclhafbfoabWords
import Derived.Deep.MidRow
namespace Go.Proofs.Ytdddmclhafbfoab
open Go.RowKit

end Go.Proofs.Ytdddmclhafbfoab
