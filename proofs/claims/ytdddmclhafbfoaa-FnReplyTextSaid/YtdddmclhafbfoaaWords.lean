/-
  Words: what the program's functions of chapter 1 return, one theorem a function. No statement is proved here.
-/
import Derived.Test.YtdddmclhafbfoaaProg
import Derived.Test.YtdddmclhafbfoaaChecked
import Derived.Test.YtdddmclhafbfoaaWordsM
namespace Go.Proofs.Ytdddmclhafbfoaa
open Go.RowKit

end Go.Proofs.Ytdddmclhafbfoaa
