/-
  Words: what the program's functions of chapter 1 return, one theorem a function. No statement is proved here.
-/
import Derived.Test.YtdaoeoociamdnaaProg
import Derived.Test.YtdaoeoociamdnaaChecked
import Derived.Test.YtdaoeoociamdnaaWordsM
namespace Go.Proofs.Ytdaoeoociamdnaa
open Go.RowKit

end Go.Proofs.Ytdaoeoociamdnaa
