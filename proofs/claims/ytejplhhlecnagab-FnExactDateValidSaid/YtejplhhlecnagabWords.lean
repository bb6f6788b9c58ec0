/-
  Words: what the program's functions of chapter 1 return, one theorem a function. No statement is proved here.
-/
import Derived.Test.YtejplhhlecnagabProg
import Derived.Test.YtejplhhlecnagabChecked
import Derived.Test.YtejplhhlecnagabWordsM
namespace Go.Proofs.Ytejplhhlecnagab
open Go.RowKit

end Go.Proofs.Ytejplhhlecnagab
