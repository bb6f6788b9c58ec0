/-
  What the frames of the laws' proofs share where numbers are written: the library's tables that the rows list. No statement is proved here.
-/
import Derived.Test.YtdoclfbfhlgejaaDoorLaw0
import Derived.Deep.DeepLaidRun
namespace Go.Proofs.YtdoclfbfhlgejaaDoor
open Go.ChangeShapes Go.WideShapes Go.ChangeAt Go.RowKit

def layAtD (h : Array Obj) (g : Nat) (C : Array Value) : Array Obj := h.modify g fun
  | .cells _ t frozen => .cells C t frozen
  | o => o
def litValsD : DataW Unit → List Value
  | .agg l => l.map fun | .lit (.int k z) => .int k z | _ => undef
  | _ => []
/-- A world for the witness: the settled one, the three tables holding what their initialisers lay. -/
noncomputable def laidWorldD (os : Os) : World :=
  { World.holding Tryd.prog os ⟨#[], #[], []⟩ with heap := layAtD (layAtD (layAtD (World.holding Tryd.prog os ⟨#[], #[], []⟩).heap 3 (litValsD Rows.laid_internal_strconv_uint64pow10).toArray) 5 (litValsD Rows.laid_math_bits_deBruijn32tab).toArray) 6 (litValsD Rows.laid_math_bits_deBruijn64tab).toArray }
set_option maxRecDepth 100000 in
theorem metD (os : Os) (args : Array Value) : laidMet Tryd.prog [("math/bits.deBruijn32tab", Rows.laid_math_bits_deBruijn32tab), ("math/bits.deBruijn64tab", Rows.laid_math_bits_deBruijn64tab), ("internal/strconv.uint64pow10", Rows.laid_internal_strconv_uint64pow10)] ((laidWorldD os).forCall (fun _ _ => 0) ⟨#[], args, []⟩).memory :=
  laidMet_of_run3 8 (by kernel_rfl) (by kernel_rfl) (by kernel_rfl)
end Go.Proofs.YtdoclfbfhlgejaaDoor
