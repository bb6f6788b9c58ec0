/-
  Parts joined: what the model's function returns; fresh boundaries. No statement is proved here.
-/
import Derived.Test.YtdoclfbfhlgejaaDoorPartS
namespace Go.Proofs.YtdoclfbfhlgejaaDoor
open Go.RowKit

end Go.Proofs.YtdoclfbfhlgejaaDoor
