/-
  Dates: the functions' contracts in the cases that the laws part on. No statement is proved here.
-/
import Derived.Test.YtboopbjdehdhgacDoorDateS4
namespace Go.Proofs.YtboopbjdehdhgacDoor
open Go.RowKit

theorem secondsOf_ok {y m d h mi s z : Int} (o : OkDate ⟨y, m, d, h, mi, s, z⟩) (w : World) : Calls Tryd.prog 47 #[.agg #[.int .i64 y, .int .i64 m, .int .i64 d, .int .i64 h, .int .i64 mi, .int .i64 s, .int .i64 z]] w fun e w' => e = .returned (.tuple #[.int .i64 (secs ⟨y, m, d, h, mi, s, z⟩), .bool true]) ∧ Below w.heap.size w w' := by
  have := secondsOf_any ⟨y, m, d, h, mi, s, z⟩ w
  unfold SecRet at this
  rw [secR_ok o, okDB_ok o] at this; exact this
theorem secondsOf_no {y m d h mi s z : Int} (o : ¬ OkDate ⟨y, m, d, h, mi, s, z⟩) (w : World) : Calls Tryd.prog 47 #[.agg #[.int .i64 y, .int .i64 m, .int .i64 d, .int .i64 h, .int .i64 mi, .int .i64 s, .int .i64 z]] w fun e w' => e = .returned (.tuple #[.int .i64 0, .bool false]) ∧ Below w.heap.size w w' := by
  have := secondsOf_any ⟨y, m, d, h, mi, s, z⟩ w
  unfold SecRet at this
  rw [secR_no o, okDB_no o] at this; exact this
theorem dateValid_q {y m d h mi s z : Int} (q : Bool) (o : okDB ⟨y, m, d, h, mi, s, z⟩ = q) (w : World) : Calls Tryd.prog 25 #[.agg #[.int .i64 y, .int .i64 m, .int .i64 d, .int .i64 h, .int .i64 mi, .int .i64 s, .int .i64 z]] w fun e w' => e = .returned (.bool q) ∧ Below w.heap.size w w' := by
  rw [← o]; exact dateValid_any ⟨y, m, d, h, mi, s, z⟩ w
theorem dateValidS_q {y m d h mi s z : Int} (q : Bool) (o : okDB ⟨y, m, d, h, mi, s, z⟩ = q) (w : World) : Calls Tryd.prog 19 #[.agg #[.int .i64 y, .int .i64 m, .int .i64 d, .int .i64 h, .int .i64 mi, .int .i64 s, .int .i64 z]] w fun e w' => e = .returned (.bool q) ∧ Below w.heap.size w w' := by
  rw [← o]; exact dateValidS_any ⟨y, m, d, h, mi, s, z⟩ w
end Go.Proofs.YtboopbjdehdhgacDoor
