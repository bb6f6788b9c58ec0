/-
  Atoms: what the program's functions on the bytes of atoms return; the table of atoms' other bytes is a premise. No statement is proved here.
-/
import Derived.Test.YtfiaankfmdpmkaaWords
import Derived.Deep.MidRow
namespace Go.Proofs.Ytfiaankfmdpmkaa
open Go.RowKit

end Go.Proofs.Ytfiaankfmdpmkaa
