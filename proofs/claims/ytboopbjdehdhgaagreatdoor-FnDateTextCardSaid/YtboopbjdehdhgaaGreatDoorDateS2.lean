/-
  Dates: what the model takes for the fields of a date. No statement is proved here.
-/
import Derived.Test.YtboopbjdehdhgaaGreatDoorDateS
import Derived.Test.YtboopbjdehdhgaaGreatDoorQuietB
namespace Go.Proofs.YtboopbjdehdhgaaGreatDoor
open Go.RowKit

theorem laid7_all {R : Nat} {D : Dat} {W : World} (h : Laid7 R D W) (x : BelowT W) : Laid7 R D x.val := h.below x.below
set_option maxRecDepth 100000 in
set_option maxHeartbeats 2000000 in
theorem l4Fields_any (D : Dat) (w : World) :
    Calls Tryz.prog 22 #[datV D] w fun e w' => e = .returned (.bool (decide (Shown D))) ∧ Below w.heap.size w w' := by
  rw [shown_bool D]
  obtain ⟨y, m, d, h, mi, s, z⟩ := D
  unfold datV
  have HB := Lib.hid (laid7_below y m d h mi s z 24 w)
  simp only
  obtain ⟨M, H0⟩ : ∃ M, Hid (dim y m = M) := ⟨_, rfl⟩
  rw [H0.out]
  have HDS : Hid (∀ u : World, Calls Tryz.prog 48 #[.int .i64 y, .int .i64 m] u fun e w' => e = .returned (.int .i64 M) ∧ Below u.heap.size u w') := fun u => by rw [← H0.out]; exact daysOfS_any y m u
  obtain ⟨p1, HP1⟩ : ∃ q, Hid (decide (1 ≤ d) = q) := ⟨_, rfl⟩
  obtain ⟨p2, HP2⟩ : ∃ q, Hid (decide (d ≤ M) = q) := ⟨_, rfl⟩
  obtain ⟨p3, HP3⟩ : ∃ q, Hid (decide (0 ≤ h) = q) := ⟨_, rfl⟩
  obtain ⟨p4, HP4⟩ : ∃ q, Hid (decide (h ≤ 23) = q) := ⟨_, rfl⟩
  obtain ⟨p5, HP5⟩ : ∃ q, Hid (decide (0 ≤ mi) = q) := ⟨_, rfl⟩
  obtain ⟨p6, HP6⟩ : ∃ q, Hid (decide (mi ≤ 59) = q) := ⟨_, rfl⟩
  obtain ⟨p7, HP7⟩ : ∃ q, Hid (decide (0 ≤ s) = q) := ⟨_, rfl⟩
  obtain ⟨p8, HP8⟩ : ∃ q, Hid (decide (s ≤ 59) = q) := ⟨_, rfl⟩
  obtain ⟨p9, HP9⟩ : ∃ q, Hid ((decide (-720 ≤ z) && decide (z ≤ 840)) = q) := ⟨_, rfl⟩
  rw [HP1.out, HP2.out, HP3.out, HP4.out, HP5.out, HP6.out, HP7.out, HP8.out, HP9.out]
  obtain ⟨q, HQ⟩ : ∃ q, Hid (q = ((p1 && p2) && ((p3 && p4) && ((p5 && p6) && ((p7 && p8) && p9))))) := ⟨_, rfl⟩
  rw [← HQ.out]
  have HZ : Hid (∀ u : World, Calls Tryz.prog 49 #[.int .i64 z] u fun e w' => e = .returned (.bool p9) ∧ w' = u) := fun u => l4Zone_q z p9 u HP9.out
  have cases9 : p1 = false ∨ (p1 = true ∧ p2 = false) ∨ (p1 = true ∧ p2 = true ∧ p3 = false) ∨ (p1 = true ∧ p2 = true ∧ p3 = true ∧ p4 = false) ∨ (p1 = true ∧ p2 = true ∧ p3 = true ∧ p4 = true ∧ p5 = false) ∨
      (p1 = true ∧ p2 = true ∧ p3 = true ∧ p4 = true ∧ p5 = true ∧ p6 = false) ∨ (p1 = true ∧ p2 = true ∧ p3 = true ∧ p4 = true ∧ p5 = true ∧ p6 = true ∧ p7 = false) ∨
      (p1 = true ∧ p2 = true ∧ p3 = true ∧ p4 = true ∧ p5 = true ∧ p6 = true ∧ p7 = true ∧ p8 = false) ∨ (p1 = true ∧ p2 = true ∧ p3 = true ∧ p4 = true ∧ p5 = true ∧ p6 = true ∧ p7 = true ∧ p8 = true) := by
    cases p1 <;> cases p2 <;> cases p3 <;> cases p4 <;> cases p5 <;> cases p6 <;> cases p7 <;> cases p8 <;> simp
  obtain rfl | ⟨rfl, rfl⟩ | ⟨rfl, rfl, rfl⟩ | ⟨rfl, rfl, rfl, rfl⟩ | ⟨rfl, rfl, rfl, rfl, rfl⟩ | ⟨rfl, rfl, rfl, rfl, rfl, rfl⟩ | ⟨rfl, rfl, rfl, rfl, rfl, rfl, rfl⟩ | ⟨rfl, rfl, rfl, rfl, rfl, rfl, rfl, rfl⟩ | ⟨rfl, rfl, rfl, rfl, rfl, rfl, rfl, rfl⟩ := cases9
  all_goals
    have k1 := HP1.out
    have k2 := HP2.out
    have k3 := HP3.out
    have k4 := HP4.out
    have k5 := HP5.out
    have k6 := HP6.out
    have k7 := HP7.out
    have k8 := HP8.out
    go_enter Tryz.func22, Tryz.ntmps22
    go_wp2_with fail
    have hc := laid7_new y m d h mi s z 24 w
    generalize w.alloc (.cells #[.int .i64 y, .int .i64 m, .int .i64 d, .int .i64 h, .int .i64 mi, .int .i64 s, .int .i64 z] 24) = w1 at *
    generalize hBB : w.heap.size = BB at *
    have c0 : ∀ x : BelowT w1, x.val.cell? ⟨BB, 0, none⟩ = some (.int .i64 y) := fun x => (laid7_all hc x).1
    have c1 : ∀ x : BelowT w1, x.val.cell? ⟨BB, 1, none⟩ = some (.int .i64 m) := fun x => (laid7_all hc x).2.1
    have c2 : ∀ x : BelowT w1, x.val.cell? ⟨BB, 2, none⟩ = some (.int .i64 d) := fun x => (laid7_all hc x).2.2.1
    have c3 : ∀ x : BelowT w1, x.val.cell? ⟨BB, 3, none⟩ = some (.int .i64 h) := fun x => (laid7_all hc x).2.2.2.1
    have c4 : ∀ x : BelowT w1, x.val.cell? ⟨BB, 4, none⟩ = some (.int .i64 mi) := fun x => (laid7_all hc x).2.2.2.2.1
    have c5 : ∀ x : BelowT w1, x.val.cell? ⟨BB, 5, none⟩ = some (.int .i64 s) := fun x => (laid7_all hc x).2.2.2.2.2.1
    have c6 : ∀ x : BelowT w1, x.val.cell? ⟨BB, 6, none⟩ = some (.int .i64 z) := fun x => (laid7_all hc x).2.2.2.2.2.2
    clear hc
    refine wp_region_quietB (W := w1) (by kernel_rfl) (by kernel_rfl) (Below.refl _ _) ?_
    repeat (go_big_quiet_step (first
      | (go_at_call 48; exact calls_belowT (HDS.out _))
      | (go_at_call 49; exact calls_sameT (HZ.out _))))
    refine wpQuiet_nil ?_
    intro wz hwz
    obtain ⟨x, rfl⟩ := hwz
    have hbx := x.below
    generalize x.val = w9 at *
    go_wp2
    go_ret
    exact ⟨ret_bool (by rw [HQ.out]; rfl), by have h9 := HB.out; rw [← hBB] at h9; exact nx h9 hbx⟩
end Go.Proofs.YtboopbjdehdhgaaGreatDoor
