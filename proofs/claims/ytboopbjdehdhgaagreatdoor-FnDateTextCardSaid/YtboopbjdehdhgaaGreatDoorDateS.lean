/-
  Dates: what the model's functions on numbers return. No statement is proved here.
-/
import Derived.Test.YtboopbjdehdhgaaGreatDoorDate4
namespace Go.Proofs.YtboopbjdehdhgaaGreatDoor
open Go.RowKit

theorem l4Zone_any (z : Int) (w : World) :
    Calls Tryz.prog 49 #[.int .i64 z] w fun e w' => e = .returned (.bool (decide (-720 ≤ z) && decide (z ≤ 840))) ∧ w' = w := by
  by_cases h : -720 ≤ z
  · by_cases h2 : z ≤ 840
    all_goals
      go_enter Tryz.func49, Tryz.ntmps49
      go_wp2
      go_ret
      exact ⟨ret_bool (by simp; omega), rfl⟩
  · go_enter Tryz.func49, Tryz.ntmps49
    go_wp2
    go_ret
    exact ⟨ret_bool (by simp; omega), rfl⟩
theorem l4Zone_q (z : Int) (q : Bool) (w : World) (h : (decide (-720 ≤ z) && decide (z ≤ 840)) = q) :
    Calls Tryz.prog 49 #[.int .i64 z] w fun e w' => e = .returned (.bool q) ∧ w' = w := by
  rw [← h]; exact l4Zone_any z w
set_option maxRecDepth 100000 in
set_option maxHeartbeats 2000000 in
theorem daysOfS_any (y m : Int) (w : World) :
    Calls Tryz.prog 48 #[.int .i64 y, .int .i64 m] w fun e w' => e = .returned (.int .i64 (dim y m)) ∧ Below w.heap.size w w' := by
  by_cases hy : y < 1970
  · have HR := Lib.hid (dim_out (y := y) (m := m) (.inl hy))
    go_enter Tryz.func48, Tryz.ntmps48
    go_wp2
    go_ret
    exact ⟨ret_int HR.out.symm, Below.refl _ _⟩
  · by_cases hy2 : 2099 < y
    · have HR := Lib.hid (dim_out (y := y) (m := m) (.inr (.inl hy2)))
      go_enter Tryz.func48, Tryz.ntmps48
      go_wp2
      go_ret
      exact ⟨ret_int HR.out.symm, Below.refl _ _⟩
    · by_cases hm1 : m < 1
      · have HR := Lib.hid (dim_out (y := y) (m := m) (.inr (.inr (.inl hm1))))
        go_enter Tryz.func48, Tryz.ntmps48
        go_wp2
        go_ret
        exact ⟨ret_int HR.out.symm, Below.refl _ _⟩
      · by_cases hm2 : 12 < m
        · have HR := Lib.hid (dim_out (y := y) (m := m) (.inr (.inr (.inr hm2))))
          go_enter Tryz.func48, Tryz.ntmps48
          go_wp2
          go_ret
          exact ⟨ret_int HR.out.symm, Below.refl _ _⟩
        · have hyy : 1970 ≤ y ∧ y ≤ 2099 := ⟨by omega, by omega⟩
          have HFE := Lib.hid (dim_feb hyy)
          by_cases h31 : m = 1 ∨ m = 3 ∨ m = 5 ∨ m = 7 ∨ m = 8 ∨ m = 10 ∨ m = 12
          · have HR := Lib.hid (dim_31 hyy h31)
            clear hm1 hm2 hyy
            rcases h31 with rfl | rfl | rfl | rfl | rfl | rfl | rfl
            all_goals
              go_enter Tryz.func48, Tryz.ntmps48
              go_wp2
              go_ret
              exact ⟨ret_int HR.out.symm, (Below.refl _ _).alloc (Nat.le_refl _) _⟩
          by_cases h30 : m = 4 ∨ m = 6 ∨ m = 9 ∨ m = 11
          · have HR := Lib.hid (dim_30 hyy h30)
            clear hm1 hm2 hyy h31
            rcases h30 with rfl | rfl | rfl | rfl
            all_goals
              go_enter Tryz.func48, Tryz.ntmps48
              go_wp2
              go_ret
              exact ⟨ret_int HR.out.symm, (Below.refl _ _).alloc (Nat.le_refl _) _⟩
          have h2 : m = 2 := by omega
          subst h2
          clear h31 h30
          by_cases hl : Leap y
          · have HR : Hid (dim y 2 = 29) := by show _ = _; rw [HFE.out, if_pos hl]
            have HL : Hid (∀ u : World, Calls Tryz.prog 50 #[.int .i64 y] u fun e w' => e = .returned (.bool true) ∧ w' = u) := fun u => by rw [← decide_eq_true hl]; exact l4Leap_any y u (by omega) (by omega)
            clear hl hm1 hm2 hyy
            go_enter Tryz.func48, Tryz.ntmps48
            go_wp2_with fail
            refine (HL.out _).mono ?_
            rintro e w1 ⟨rfl, rfl⟩
            go_wp2
            go_ret
            exact ⟨ret_int HR.out.symm, (Below.refl _ _).alloc (Nat.le_refl _) _⟩
          · have HR : Hid (dim y 2 = 28) := by show _ = _; rw [HFE.out, if_neg hl]
            have HL : Hid (∀ u : World, Calls Tryz.prog 50 #[.int .i64 y] u fun e w' => e = .returned (.bool false) ∧ w' = u) := fun u => by rw [← decide_eq_false hl]; exact l4Leap_any y u (by omega) (by omega)
            clear hl hm1 hm2 hyy
            go_enter Tryz.func48, Tryz.ntmps48
            go_wp2_with fail
            refine (HL.out _).mono ?_
            rintro e w1 ⟨rfl, rfl⟩
            go_wp2
            go_ret
            exact ⟨ret_int HR.out.symm, (Below.refl _ _).alloc (Nat.le_refl _) _⟩
end Go.Proofs.YtboopbjdehdhgaaGreatDoor
