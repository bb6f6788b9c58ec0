/-
  Draws of chapter 1: lists of texts. No statement is proved here.
-/
import Derived.Test.YtdoclfbfhlgejacDraw1
import Derived.Test.YtdoclfbfhlgejacJoin
namespace Go.Proofs.Ytdoclfbfhlgejac
open Go.RowKit

end Go.Proofs.Ytdoclfbfhlgejac
