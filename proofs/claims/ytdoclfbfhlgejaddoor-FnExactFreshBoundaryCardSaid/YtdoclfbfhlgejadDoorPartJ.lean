/-
  Parts joined: what the model's function returns; fresh boundaries. No statement is proved here.
-/
import Derived.Test.YtdoclfbfhlgejadDoorPartS
namespace Go.Proofs.YtdoclfbfhlgejadDoor
open Go.RowKit

end Go.Proofs.YtdoclfbfhlgejadDoor
