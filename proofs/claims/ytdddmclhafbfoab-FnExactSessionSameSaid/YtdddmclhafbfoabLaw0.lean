/-
  What the frames of the laws' proofs share: the program's own facts; how an argument that came in reads. No statement is proved here.
-/
import Derived.Test.YtdddmclhafbfoabDraw1
import Derived.Test.YtdddmclhafbfoabRows
import Derived.ProofKit
import Derived.OpenShut
import Derived.ShutString
import Derived.ChangeOld
import Derived.WalkSmall
namespace Go.Proofs.Ytdddmclhafbfoab
open Go.ChangeShapes Go.WideShapes Go.ChangeAt Go.RowKit
open Go.ChangeMaps (open_string shut_string)

theorem own : ownKnob Try.prog.godebug = none := by kernel_rfl
theorem laidOut : laidOutB Try.prog = true := by kernel_rfl
end Go.Proofs.Ytdddmclhafbfoab
