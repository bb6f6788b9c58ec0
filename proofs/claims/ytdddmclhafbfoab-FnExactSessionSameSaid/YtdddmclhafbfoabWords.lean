/-
  Words: what the program's functions of chapter 1 return, one theorem a function. No statement is proved here.
-/
import Derived.Test.YtdddmclhafbfoabProg
import Derived.Test.YtdddmclhafbfoabChecked
import Derived.Test.YtdddmclhafbfoabWordsM
namespace Go.Proofs.Ytdddmclhafbfoab
open Go.RowKit

end Go.Proofs.Ytdddmclhafbfoab
