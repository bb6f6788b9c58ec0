/-
  Dates: days before a day, the seconds of a date. No statement is proved here.
-/
import Derived.Test.YtdddmclhafbfoaaDate2
namespace Go.Proofs.Ytdddmclhafbfoaa
open Go.RowKit

theorem laid7_below (y m d h mi s z : Int) (t : TypeId) (w : World) : Below w.heap.size w (w.alloc (.cells #[.int .i64 y, .int .i64 m, .int .i64 d, .int .i64 h, .int .i64 mi, .int .i64 s, .int .i64 z] t)) := (Below.refl _ _).alloc (Nat.le_refl _) _
end Go.Proofs.Ytdddmclhafbfoaa
