/-
  Dates: the functions' contracts in the cases that the laws part on. No statement is proved here.
-/
import Derived.Test.YtboopbjdehdhgaaGreatDoorDateS4
namespace Go.Proofs.YtboopbjdehdhgaaGreatDoor
open Go.RowKit

theorem dateOfS_none {n z : Int} (h : dateO n z = none) (w : World) : Calls Tryz.prog 66 #[.int .i64 n, .int .i64 z] w fun e w' => e = .returned (.tuple #[.agg #[.int .i64 0, .int .i64 0, .int .i64 0, .int .i64 0, .int .i64 0, .int .i64 0, .int .i64 0], .bool false]) ∧ Below w.heap.size w w' := by
  have := dateOfS_any n z w
  rw [h] at this; exact this
theorem dateOfS_some {n z y m d h mi s z' : Int} (e : dateO n z = some ⟨y, m, d, h, mi, s, z'⟩) (w : World) : Calls Tryz.prog 66 #[.int .i64 n, .int .i64 z] w fun e w' => e = .returned (.tuple #[.agg #[.int .i64 y, .int .i64 m, .int .i64 d, .int .i64 h, .int .i64 mi, .int .i64 s, .int .i64 z'], .bool true]) ∧ Below w.heap.size w w' := by
  have := dateOfS_any n z w
  rw [e] at this; exact this
theorem secondsOf_ok {y m d h mi s z : Int} (o : OkDate ⟨y, m, d, h, mi, s, z⟩) (w : World) : Calls Tryz.prog 21 #[.agg #[.int .i64 y, .int .i64 m, .int .i64 d, .int .i64 h, .int .i64 mi, .int .i64 s, .int .i64 z]] w fun e w' => e = .returned (.tuple #[.int .i64 (secs ⟨y, m, d, h, mi, s, z⟩), .bool true]) ∧ Below w.heap.size w w' := by
  have := secondsOf_any ⟨y, m, d, h, mi, s, z⟩ w
  unfold SecRet at this
  rw [secR_ok o, okDB_ok o] at this; exact this
theorem secondsOf_no {y m d h mi s z : Int} (o : ¬ OkDate ⟨y, m, d, h, mi, s, z⟩) (w : World) : Calls Tryz.prog 21 #[.agg #[.int .i64 y, .int .i64 m, .int .i64 d, .int .i64 h, .int .i64 mi, .int .i64 s, .int .i64 z]] w fun e w' => e = .returned (.tuple #[.int .i64 0, .bool false]) ∧ Below w.heap.size w w' := by
  have := secondsOf_any ⟨y, m, d, h, mi, s, z⟩ w
  unfold SecRet at this
  rw [secR_no o, okDB_no o] at this; exact this
theorem dateValid_q {y m d h mi s z : Int} (q : Bool) (o : okDB ⟨y, m, d, h, mi, s, z⟩ = q) (w : World) : Calls Tryz.prog 7 #[.agg #[.int .i64 y, .int .i64 m, .int .i64 d, .int .i64 h, .int .i64 mi, .int .i64 s, .int .i64 z]] w fun e w' => e = .returned (.bool q) ∧ Below w.heap.size w w' := by
  rw [← o]; exact dateValid_any ⟨y, m, d, h, mi, s, z⟩ w
theorem dateValidS_q {y m d h mi s z : Int} (q : Bool) (o : okDB ⟨y, m, d, h, mi, s, z⟩ = q) (w : World) : Calls Tryz.prog 8 #[.agg #[.int .i64 y, .int .i64 m, .int .i64 d, .int .i64 h, .int .i64 mi, .int .i64 s, .int .i64 z]] w fun e w' => e = .returned (.bool q) ∧ Below w.heap.size w w' := by
  rw [← o]; exact dateValidS_any ⟨y, m, d, h, mi, s, z⟩ w
end Go.Proofs.YtboopbjdehdhgaaGreatDoor
