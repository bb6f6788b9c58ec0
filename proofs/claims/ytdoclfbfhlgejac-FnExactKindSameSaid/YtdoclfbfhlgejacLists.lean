/-
  Lists of strings in the exact laws: their sizes, copies and comparisons. No statement is proved here.
-/
import Derived.Test.YtdoclfbfhlgejacDraw2
import Derived.Deep.QuietTactic
import Derived.BigQuiet
import Derived.Deep.RegionWith
namespace Go.Proofs.Ytdoclfbfhlgejac
open Go.RowKit

end Go.Proofs.Ytdoclfbfhlgejac
