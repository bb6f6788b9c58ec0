/-
  What the frames of the laws' proofs share: the program's own facts; how an argument that came in reads. No statement is proved here.
-/
import Derived.Test.YtfiaankfmdpmkaaDraw1
import Derived.Test.YtfiaankfmdpmkaaRows
import Derived.ProofKit
import Derived.OpenShut
import Derived.ShutString
import Derived.ChangeOld
import Derived.WalkSmall
namespace Go.Proofs.Ytfiaankfmdpmkaa
open Go.ChangeShapes Go.WideShapes Go.ChangeAt Go.RowKit
open Go.ChangeMaps (open_string shut_string)

theorem own : ownKnob Try.prog.godebug = none := by kernel_rfl
theorem laidOut : laidOutB Try.prog = true := by kernel_rfl
end Go.Proofs.Ytfiaankfmdpmkaa
