/-
  Words: what the program's functions of chapter 1 return, one theorem a function. No statement is proved here.
-/
import Derived.Test.YtdoclfbfhlgejacProg
import Derived.Test.YtdoclfbfhlgejacChecked
import Derived.Test.YtdoclfbfhlgejacWordsM
namespace Go.Proofs.Ytdoclfbfhlgejac
open Go.RowKit

end Go.Proofs.Ytdoclfbfhlgejac
