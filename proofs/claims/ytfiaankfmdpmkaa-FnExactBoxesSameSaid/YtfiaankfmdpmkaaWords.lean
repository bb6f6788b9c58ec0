/-
  Words: what the program's functions of chapter 1 return, one theorem a function. No statement is proved here.
-/
import Derived.Test.YtfiaankfmdpmkaaProg
import Derived.Test.YtfiaankfmdpmkaaChecked
import Derived.Test.YtfiaankfmdpmkaaWordsM
namespace Go.Proofs.Ytfiaankfmdpmkaa
open Go.RowKit

end Go.Proofs.Ytfiaankfmdpmkaa
