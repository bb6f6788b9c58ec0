/-
  Dates: what a clock and a calendar show. No statement is proved here.
-/
import Derived.Test.YtboopbjdehdhgaaGreatDoorDate
namespace Go.Proofs.YtboopbjdehdhgaaGreatDoor
open Go.RowKit

/-- The seven cells of a date that has been laid. -/
def Laid7 (R : Nat) (D : Dat) (w : World) : Prop :=
  w.cell? ⟨R, 0, none⟩ = some (.int .i64 D.y) ∧ w.cell? ⟨R, 1, none⟩ = some (.int .i64 D.mo) ∧ w.cell? ⟨R, 2, none⟩ = some (.int .i64 D.d) ∧ w.cell? ⟨R, 3, none⟩ = some (.int .i64 D.h) ∧
  w.cell? ⟨R, 4, none⟩ = some (.int .i64 D.mi) ∧ w.cell? ⟨R, 5, none⟩ = some (.int .i64 D.s) ∧ w.cell? ⟨R, 6, none⟩ = some (.int .i64 D.z)
theorem laid7_new (y m d h mi s z : Int) (t : TypeId) (w : World) : Laid7 w.heap.size ⟨y, m, d, h, mi, s, z⟩ (w.alloc (.cells #[.int .i64 y, .int .i64 m, .int .i64 d, .int .i64 h, .int .i64 mi, .int .i64 s, .int .i64 z] t)) := by
  refine ⟨?_, ?_, ?_, ?_, ?_, ?_, ?_⟩ <;> (rw [World.cell?_alloc_at _ _ _ _ rfl]; rfl)
theorem Laid7.below {R : Nat} {D : Dat} {w w' : World} (h : Laid7 R D w) (b : Below w.heap.size w w') : Laid7 R D w' := by
  have hl := lt_of_cell h.1
  unfold Laid7 at h ⊢
  simp only [below_at b hl]; exact h
theorem isBetween_q (n a b : Int) (q : Bool) (w : World) (h : (decide (a ≤ n) && decide (n ≤ b)) = q) :
    Calls Tryz.prog 73 #[.int .i64 n, .int .i64 a, .int .i64 b] w fun e w' => e = .returned (.bool q) ∧ w' = w := by
  rw [← h]; exact isBetween_any n a b w
theorem zoneValid_q (z : Int) (q : Bool) (w : World) (h : (decide (-720 ≤ z) && decide (z ≤ 840)) = q) :
    Calls Tryz.prog 74 #[.int .i64 z] w fun e w' => e = .returned (.bool q) ∧ w' = w := by
  rw [← h]; exact zoneValid_any z w
theorem daysOf_q (y m M : Int) (w : World) (h : dim y m = M) : Calls Tryz.prog 72 #[.int .i64 y, .int .i64 m] w fun e w' => e = .returned (.int .i64 M) ∧ w' = w := by
  rw [← h]; exact daysOf_any y m w
set_option maxRecDepth 100000 in
set_option maxHeartbeats 400000 in
theorem shownByClock_any (D : Dat) (w : World) :
    Calls Tryz.prog 46 #[datV D] w fun e w' => e = .returned (.bool (decide (Shown D))) ∧ Below w.heap.size w w' := by
  rw [shown_bool D]
  obtain ⟨y, m, d, h, mi, s, z⟩ := D
  unfold datV
  have hb0 : Below w.heap.size w (w.alloc (.cells #[.int .i64 y, .int .i64 m, .int .i64 d, .int .i64 h, .int .i64 mi, .int .i64 s, .int .i64 z] 24)) := (Below.refl _ _).alloc (Nat.le_refl _) _
  have HB := Lib.hid hb0
  clear hb0
  simp only
  obtain ⟨M, H0⟩ : ∃ M, Hid (dim y m = M) := ⟨_, rfl⟩
  rw [H0.out]
  obtain ⟨q1, H1⟩ : ∃ q, Hid ((decide (1 ≤ d) && decide (d ≤ M)) = q) := ⟨_, rfl⟩
  obtain ⟨q2, H2⟩ : ∃ q, Hid ((decide (0 ≤ h) && decide (h ≤ 23)) = q) := ⟨_, rfl⟩
  obtain ⟨q3, H3⟩ : ∃ q, Hid ((decide (0 ≤ mi) && decide (mi ≤ 59)) = q) := ⟨_, rfl⟩
  obtain ⟨q4, H4⟩ : ∃ q, Hid ((decide (0 ≤ s) && decide (s ≤ 59)) = q) := ⟨_, rfl⟩
  obtain ⟨q5, H5⟩ : ∃ q, Hid ((decide (-720 ≤ z) && decide (z ≤ 840)) = q) := ⟨_, rfl⟩
  rw [H1.out, H2.out, H3.out, H4.out, H5.out]
  obtain ⟨q, HQ⟩ : ∃ q, Hid (q = (q1 && (q2 && (q3 && (q4 && q5))))) := ⟨_, rfl⟩
  rw [← HQ.out]
  obtain rfl | ⟨rfl, rfl⟩ | ⟨rfl, rfl, rfl⟩ | ⟨rfl, rfl, rfl, rfl⟩ | ⟨rfl, rfl, rfl, rfl⟩ : q1 = false ∨ (q1 = true ∧ q2 = false) ∨ (q1 = true ∧ q2 = true ∧ q3 = false) ∨ (q1 = true ∧ q2 = true ∧ q3 = true ∧ q4 = false) ∨ (q1 = true ∧ q2 = true ∧ q3 = true ∧ q4 = true) := by
    cases q1 <;> cases q2 <;> cases q3 <;> cases q4 <;> simp
  all_goals
    go_enter Tryz.func46, Tryz.ntmps46
    go_wp2_with fail
    have hc := laid7_new y m d h mi s z 24 w
    generalize w.alloc (.cells #[.int .i64 y, .int .i64 m, .int .i64 d, .int .i64 h, .int .i64 mi, .int .i64 s, .int .i64 z] 24) = w1 at *
    obtain ⟨c0, c1, c2, c3, c4, c5, c6⟩ := hc
    simp only at c0 c1 c2 c3 c4 c5 c6
    go_quiet (first
      | (go_at_call 72; refine Calls.quiet_of_same (daysOf_q _ _ _ _ H0.out))
      | (go_at_call 73; refine Calls.quiet_of_same (isBetween_q _ _ _ _ _ (by first | exact H1.out | exact H2.out | exact H3.out | exact H4.out)))
      | (go_at_call 74; refine Calls.quiet_of_same (zoneValid_q _ _ _ H5.out)))
    go_wp2
    go_ret
    exact ⟨ret_bool (by rw [HQ.out]; rfl), bdN HB.out _⟩
end Go.Proofs.YtboopbjdehdhgaaGreatDoor
