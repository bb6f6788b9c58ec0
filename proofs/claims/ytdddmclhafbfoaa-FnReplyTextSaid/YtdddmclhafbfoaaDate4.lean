/-
  Dates: the day that so many days come before; the date of some seconds in a zone. No statement is proved here.
-/
import Derived.Test.YtdddmclhafbfoaaDate3
namespace Go.Proofs.Ytdddmclhafbfoaa
open Go.RowKit

/-- Two dates that a function has laid: at B one of zeros, behind it another one; nothing below B turned. -/
structure Two7 (B : Nat) (D : Dat) (w wr : World) : Prop where
  z : Laid7 B dat0 wr
  zf : ∀ i, wr.frozen? ⟨B, i, none⟩ = false
  c : Laid7 (B + 1) D wr
  cf : ∀ i, wr.frozen? ⟨B + 1, i, none⟩ = false
  b : Below B w wr
theorem two7_new (y m d h mi s z : Int) (t t2 : TypeId) (w : World) : Two7 w.heap.size ⟨y, m, d, h, mi, s, z⟩ w ((w.alloc (.cells #[.int .i64 0, .int .i64 0, .int .i64 0, .int .i64 0, .int .i64 0, .int .i64 0, .int .i64 0] t)).alloc (.cells #[.int .i64 y, .int .i64 m, .int .i64 d, .int .i64 h, .int .i64 mi, .int .i64 s, .int .i64 z] t2)) := by
  have hb0 := laid7_below 0 0 0 0 0 0 0 t w
  have hz := laid7_new 0 0 0 0 0 0 0 t w
  have hs : (w.alloc (.cells #[.int .i64 0, .int .i64 0, .int .i64 0, .int .i64 0, .int .i64 0, .int .i64 0, .int .i64 0] t)).heap.size = w.heap.size + 1 := by simp
  have hf : ∀ i, (w.alloc (.cells #[.int .i64 0, .int .i64 0, .int .i64 0, .int .i64 0, .int .i64 0, .int .i64 0, .int .i64 0] t)).frozen? ⟨w.heap.size, i, none⟩ = false := fun i => by rw [World.frozen?_alloc_at _ _ _ _ rfl]
  generalize w.alloc (.cells #[.int .i64 0, .int .i64 0, .int .i64 0, .int .i64 0, .int .i64 0, .int .i64 0, .int .i64 0] t) = w1 at *
  have hb1 := laid7_below y m d h mi s z t2 w1
  have hc := laid7_new y m d h mi s z t2 w1
  refine ⟨hz.below hb1, fun i => ?_, ?_, fun i => ?_, nx hb0 hb1⟩
  · rw [below_fz hb1 (by omega), hf]
  · rw [← hs]; exact hc
  · rw [← hs, World.frozen?_alloc_at _ _ _ _ rfl]
theorem Two7.set0 {B : Nat} {D : Dat} {w wr : World} (h : Two7 B D w wr) (v : Int) : Two7 B { D with y := v } w (wr.setCell ⟨B + 1, 0, none⟩ (.int .i64 v)) := by
  obtain ⟨⟨z0, z1, z2, z3, z4, z5, z6⟩, zf, ⟨c0, c1, c2, c3, c4, c5, c6⟩, cf, b⟩ := h
  refine ⟨⟨?_, ?_, ?_, ?_, ?_, ?_, ?_⟩, fun i => by rw [World.frozen?_setCell]; exact zf i, ⟨cell_same c0 _, ?_, ?_, ?_, ?_, ?_, ?_⟩, fun i => by rw [World.frozen?_setCell]; exact cf i, b.setCell (by simp) _⟩
  all_goals first
    | (rw [cell_blk (by omega)]; assumption)
    | (rw [cell_off (by omega)]; assumption)
theorem Two7.set1 {B : Nat} {D : Dat} {w wr : World} (h : Two7 B D w wr) (v : Int) : Two7 B { D with mo := v } w (wr.setCell ⟨B + 1, 1, none⟩ (.int .i64 v)) := by
  obtain ⟨⟨z0, z1, z2, z3, z4, z5, z6⟩, zf, ⟨c0, c1, c2, c3, c4, c5, c6⟩, cf, b⟩ := h
  refine ⟨⟨?_, ?_, ?_, ?_, ?_, ?_, ?_⟩, fun i => by rw [World.frozen?_setCell]; exact zf i, ⟨?_, cell_same c1 _, ?_, ?_, ?_, ?_, ?_⟩, fun i => by rw [World.frozen?_setCell]; exact cf i, b.setCell (by simp) _⟩
  all_goals first
    | (rw [cell_blk (by omega)]; assumption)
    | (rw [cell_off (by omega)]; assumption)
/-- What the two results of a date are. -/
def DateRet (o : Option Dat) (w : World) (e : Ending) (w' : World) : Prop := e = .returned (.tuple #[datV (o.getD dat0), .bool o.isSome]) ∧ Below w.heap.size w w'
theorem dateRet_none {o : Option Dat} {w w' : World} (h : o = none) (b : Below w.heap.size w w') : DateRet o w (.returned (.tuple #[.agg #[.int .i64 0, .int .i64 0, .int .i64 0, .int .i64 0, .int .i64 0, .int .i64 0, .int .i64 0], .bool false])) w' := by
  subst h; exact ⟨rfl, b⟩
theorem dateRet_some {o : Option Dat} {y m d h mi s z : Int} {w w' : World} (e : o = some ⟨y, m, d, h, mi, s, z⟩) (b : Below w.heap.size w w') : DateRet o w (.returned (.tuple #[.agg #[.int .i64 y, .int .i64 m, .int .i64 d, .int .i64 h, .int .i64 mi, .int .i64 s, .int .i64 z], .bool true])) w' := by
  subst e; exact ⟨rfl, b⟩
theorem dateRet_any {o : Option Dat} {y m d h mi s z : Int} {w w' : World} (e : o.getD dat0 = ⟨y, m, d, h, mi, s, z⟩) (b : Below w.heap.size w w') : DateRet o w (.returned (.tuple #[.agg #[.int .i64 y, .int .i64 m, .int .i64 d, .int .i64 h, .int .i64 mi, .int .i64 s, .int .i64 z], .bool o.isSome])) w' := by
  unfold DateRet; rw [e]; exact ⟨rfl, b⟩
theorem dateO_bad {n z : Int} (h : ¬ ((0 ≤ n ∧ n < 4102444800) ∧ (-720 ≤ z ∧ z ≤ 840) ∧ 0 ≤ n + z * 60 ∧ n + z * 60 < 4102444800)) : dateO n z = none := by
  rw [dateO_none]; rintro ⟨D, hD⟩
  have := dateO_need hD
  exact h ⟨this.1, this.2.1, this.2.2.1, this.2.2.2.1⟩
end Go.Proofs.Ytdddmclhafbfoaa
