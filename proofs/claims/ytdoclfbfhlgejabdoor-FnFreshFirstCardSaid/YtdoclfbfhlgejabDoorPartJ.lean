/-
  Parts joined: what the model's function returns; fresh boundaries. No statement is proved here.
-/
import Derived.Test.YtdoclfbfhlgejabDoorPartS
namespace Go.Proofs.YtdoclfbfhlgejabDoor
open Go.RowKit

end Go.Proofs.YtdoclfbfhlgejabDoor
