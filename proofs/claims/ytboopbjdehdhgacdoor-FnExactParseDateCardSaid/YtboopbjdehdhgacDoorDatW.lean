/-
  Dates in the exact laws: copies, comparison; how a date that came in reads. No statement is proved here.
-/
import Derived.Test.YtboopbjdehdhgacDoorLaw0w
import Derived.Test.YtboopbjdehdhgacDoorDateQ
import Derived.Lib.SmallJoins
namespace Go.Proofs.YtboopbjdehdhgacDoor
open Go.ChangeShapes Go.WideShapes Go.ChangeAt Go.RowKit
open Go.ChangeMaps (open_string shut_string)

set_option maxRecDepth 100000 in
set_option maxHeartbeats 1000000 in
theorem eqDate_self (D : Dat) (w : World) : Calls Tryd.prog 7 #[datV D, datV D] w fun e w' => e = .returned (.bool true) ∧ Below w.heap.size w w' := by
  obtain ⟨y, m, d, h, mi, s, z⟩ := D
  unfold datV
  simp only
  have HB := Lib.hid (nx (laid7_below y m d h mi s z 23 w) (laid7_below y m d h mi s z 23 (w.alloc (.cells #[.int .i64 y, .int .i64 m, .int .i64 d, .int .i64 h, .int .i64 mi, .int .i64 s, .int .i64 z] 23))))
  go_enter Tryd.func7, Tryd.ntmps7
  go_wp2
  go_ret
  exact ⟨rfl, HB.out⟩
end Go.Proofs.YtboopbjdehdhgacDoor
