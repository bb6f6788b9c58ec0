/-
  What the frames of the laws' proofs share: the program's own facts; how an argument that came in reads. No statement is proved here.
-/
import Derived.Test.YtdoclfbfhlgejadDoorDraw1
import Derived.Test.YtdoclfbfhlgejadDoorCards
import Derived.Test.YtdoclfbfhlgejadDoorTie
import Derived.Test.YtdoclfbfhlgejadDoorAtoms
import Derived.Deep.DeepHandedRow
import Derived.Lib.LaidTab
import Derived.Deep.DeepLaidRun
import Derived.ProofKit
import Derived.OpenShut
import Derived.ShutString
import Derived.ChangeOld
import Derived.WalkSmall
namespace Go.Proofs.YtdoclfbfhlgejadDoor
open Go.ChangeShapes Go.WideShapes Go.ChangeAt Go.RowKit
open Go.ChangeMaps (open_string shut_string)

theorem own : ownKnob Tryd.prog.godebug = none := by kernel_rfl
theorem laidOut : laidOutB Tryd.prog = true := by kernel_rfl
end Go.Proofs.YtdoclfbfhlgejadDoor
