/-
  Words: what the program's functions of chapter 1 return, one theorem a function. No statement is proved here.
-/
import Derived.Test.YtejplhhlecnagaaProg
import Derived.Test.YtejplhhlecnagaaChecked
import Derived.Test.YtejplhhlecnagaaWordsM
namespace Go.Proofs.Ytejplhhlecnagaa
open Go.RowKit

end Go.Proofs.Ytejplhhlecnagaa
