/-
  Dates: what the program's functions on numbers return. No statement is proved here.
-/
import Derived.Test.YtboopbjdehdhgaaGreatDoorDateM
import Derived.Test.YtboopbjdehdhgaaGreatDoorChecked
import Derived.Deep.QuietTactic
import Derived.BigQuiet
import Derived.WalkSmall
import Derived.IntWalk
import Derived.Deep.RegionHeld3
namespace Go.Proofs.YtboopbjdehdhgaaGreatDoor
open Go.RowKit

/-- A date as a value. -/
def datV (D : Dat) : Value := .agg #[.int .i64 D.y, .int .i64 D.mo, .int .i64 D.d, .int .i64 D.h, .int .i64 D.mi, .int .i64 D.s, .int .i64 D.z]
/-- Whole numbers of 64 bits. -/
def I64 (n : Int) : Prop := -9223372036854775808 ≤ n ∧ n ≤ 9223372036854775807
def In64 (D : Dat) : Prop := I64 D.y ∧ I64 D.mo ∧ I64 D.d ∧ I64 D.h ∧ I64 D.mi ∧ I64 D.s ∧ I64 D.z
theorem leapT {y : Int} (h4 : y % 4 = 0) (h : ¬ y % 100 = 0 ∨ y % 400 = 0) : decide (Leap y) = true := decide_eq_true ⟨h4, h⟩
theorem leapF {y : Int} (h : ¬ (y % 4 = 0 ∧ (¬ y % 100 = 0 ∨ y % 400 = 0))) : decide (Leap y) = false := decide_eq_false h

theorem isLeapYear_any (y : Int) (w : World) (h0 : 0 ≤ y) (h1 : y ≤ 100000) :
    Calls Tryz.prog 88 #[.int .i64 y] w fun e w' => e = .returned (.bool (decide (Leap y))) ∧ w' = w := by
  by_cases h4 : y % 4 = 0
  · by_cases h100 : y % 100 = 0
    · by_cases h400 : y % 400 = 0
      · have HL := Lib.hid (leapT h4 (.inr h400))
        go_enter Tryz.func88, Tryz.ntmps88
        go_wp2
        go_ret
        exact ⟨ret_bool HL.out.symm, rfl⟩
      · have HL := Lib.hid (leapF (y := y) (by omega))
        go_enter Tryz.func88, Tryz.ntmps88
        go_wp2
        go_ret
        exact ⟨ret_bool (by rw [HL.out]; first | rfl | (simp; omega)), rfl⟩
    · have HL := Lib.hid (leapT h4 (.inl h100))
      go_enter Tryz.func88, Tryz.ntmps88
      go_wp2
      go_ret
      exact ⟨ret_bool HL.out.symm, rfl⟩
  · have h400 : ¬ y % 400 = 0 := by omega
    have HL := Lib.hid (leapF (y := y) (by omega))
    go_enter Tryz.func88, Tryz.ntmps88
    go_wp2
    go_ret
    exact ⟨ret_bool (by rw [HL.out]; first | rfl | (simp; omega)), rfl⟩
theorem l4Leap_any (y : Int) (w : World) (h0 : 0 ≤ y) (h1 : y ≤ 100000) :
    Calls Tryz.prog 50 #[.int .i64 y] w fun e w' => e = .returned (.bool (decide (Leap y))) ∧ w' = w := by
  by_cases h4 : y % 4 = 0
  · by_cases h100 : y % 100 = 0
    · by_cases h400 : y % 400 = 0
      · have HL := Lib.hid (leapT h4 (.inr h400))
        go_enter Tryz.func50, Tryz.ntmps50
        go_wp2
        go_ret
        exact ⟨ret_bool HL.out.symm, rfl⟩
      · have HL := Lib.hid (leapF (y := y) (by omega))
        go_enter Tryz.func50, Tryz.ntmps50
        go_wp2
        go_ret
        exact ⟨ret_bool (by rw [HL.out]; first | rfl | (simp; omega)), rfl⟩
    · have HL := Lib.hid (leapT h4 (.inl h100))
      go_enter Tryz.func50, Tryz.ntmps50
      go_wp2
      go_ret
      exact ⟨ret_bool HL.out.symm, rfl⟩
  · have HL := Lib.hid (leapF (y := y) (by omega))
    go_enter Tryz.func50, Tryz.ntmps50
    go_wp2
    go_ret
    exact ⟨ret_bool HL.out.symm, rfl⟩
theorem isBetween_any (n a b : Int) (w : World) :
    Calls Tryz.prog 73 #[.int .i64 n, .int .i64 a, .int .i64 b] w fun e w' => e = .returned (.bool (decide (a ≤ n) && decide (n ≤ b))) ∧ w' = w := by
  by_cases h : a ≤ n
  · by_cases h2 : n ≤ b
    · go_enter Tryz.func73, Tryz.ntmps73
      go_wp2
      go_ret
      exact ⟨ret_bool (by simp; omega), rfl⟩
    · go_enter Tryz.func73, Tryz.ntmps73
      go_wp2
      go_ret
      exact ⟨ret_bool (by simp; omega), rfl⟩
  · go_enter Tryz.func73, Tryz.ntmps73
    go_wp2
    go_ret
    exact ⟨ret_bool (by simp; omega), rfl⟩
theorem zoneValid_any (z : Int) (w : World) :
    Calls Tryz.prog 74 #[.int .i64 z] w fun e w' => e = .returned (.bool (decide (-720 ≤ z) && decide (z ≤ 840))) ∧ w' = w := by
  go_enter Tryz.func74, Tryz.ntmps74
  go_wp2_with fail
  refine (isBetween_any z (-720) 840 w).mono ?_
  rintro e w1 ⟨rfl, rfl⟩
  go_wp2
  go_ret
  exact ⟨rfl, rfl⟩
theorem secondsValid_any (n : Int) (w : World) :
    Calls Tryz.prog 47 #[.int .i64 n] w fun e w' => e = .returned (.bool (decide (0 ≤ n) && decide (n ≤ 4102444799))) ∧ w' = w := by
  go_enter Tryz.func47, Tryz.ntmps47
  go_wp2_with fail
  refine (isBetween_any n 0 4102444799 w).mono ?_
  rintro e w1 ⟨rfl, rfl⟩
  go_wp2
  go_ret
  exact ⟨rfl, rfl⟩
theorem dim_31 {y m : Int} (hy : 1970 ≤ y ∧ y ≤ 2099) (hm : m = 1 ∨ m = 3 ∨ m = 5 ∨ m = 7 ∨ m = 8 ∨ m = 10 ∨ m = 12) : dim y m = 31 := by
  unfold dim; rw [if_neg (by omega), if_neg (by omega), if_neg (by omega)]
theorem dim_30 {y m : Int} (hy : 1970 ≤ y ∧ y ≤ 2099) (hm : m = 4 ∨ m = 6 ∨ m = 9 ∨ m = 11) : dim y m = 30 := by
  unfold dim; rw [if_neg (by omega), if_neg (by omega), if_pos (by omega)]
theorem dim_feb {y : Int} (hy : 1970 ≤ y ∧ y ≤ 2099) : dim y 2 = if Leap y then 29 else 28 := by
  unfold dim; rw [if_neg (by omega), if_pos rfl]
set_option maxRecDepth 100000 in
set_option maxHeartbeats 2000000 in
theorem daysOf_any (y m : Int) (w : World) :
    Calls Tryz.prog 72 #[.int .i64 y, .int .i64 m] w fun e w' => e = .returned (.int .i64 (dim y m)) ∧ w' = w := by
  by_cases hy : y < 1970
  · have HR := Lib.hid (dim_out (y := y) (m := m) (.inl hy))
    go_enter Tryz.func72, Tryz.ntmps72
    go_wp2
    go_ret
    exact ⟨ret_int HR.out.symm, rfl⟩
  · by_cases hy2 : 2099 < y
    · have HR := Lib.hid (dim_out (y := y) (m := m) (.inr (.inl hy2)))
      go_enter Tryz.func72, Tryz.ntmps72
      go_wp2
      go_ret
      exact ⟨ret_int HR.out.symm, rfl⟩
    · have hyy : 1970 ≤ y ∧ y ≤ 2099 := ⟨by omega, by omega⟩
      by_cases hm : m < 1 ∨ 12 < m
      · have HR := Lib.hid (dim_out (y := y) (m := m) (by omega))
        clear hyy
        have n1 : ¬ m = 1 := by omega
        have n2 : ¬ m = 2 := by omega
        have n3 : ¬ m = 3 := by omega
        have n4 : ¬ m = 4 := by omega
        have n5 : ¬ m = 5 := by omega
        have n6 : ¬ m = 6 := by omega
        have n7 : ¬ m = 7 := by omega
        have n8 : ¬ m = 8 := by omega
        have n9 : ¬ m = 9 := by omega
        have n10 : ¬ m = 10 := by omega
        have n11 : ¬ m = 11 := by omega
        have n12 : ¬ m = 12 := by omega
        clear hm
        go_enter Tryz.func72, Tryz.ntmps72
        go_wp2
        go_ret
        exact ⟨ret_int HR.out.symm, rfl⟩
      · by_cases h31 : m = 1 ∨ m = 3 ∨ m = 5 ∨ m = 7 ∨ m = 8 ∨ m = 10 ∨ m = 12
        · have HR := Lib.hid (dim_31 hyy h31)
          clear hm hyy
          rcases h31 with rfl | rfl | rfl | rfl | rfl | rfl | rfl
          all_goals
            go_enter Tryz.func72, Tryz.ntmps72
            go_wp2
            go_ret
            exact ⟨ret_int HR.out.symm, rfl⟩
        by_cases h30 : m = 4 ∨ m = 6 ∨ m = 9 ∨ m = 11
        · have HR := Lib.hid (dim_30 hyy h30)
          clear hm hyy h31
          rcases h30 with rfl | rfl | rfl | rfl
          all_goals
            go_enter Tryz.func72, Tryz.ntmps72
            go_wp2
            go_ret
            exact ⟨ret_int HR.out.symm, rfl⟩
        have h2 : m = 2 := by omega
        subst h2
        clear h31 h30
        have HR := Lib.hid (dim_feb hyy)
        clear hm hyy
        go_enter Tryz.func72, Tryz.ntmps72
        go_wp2_with fail
        refine (isLeapYear_any y w (by omega) (by omega)).mono ?_
        rintro e w1 ⟨rfl, rfl⟩
        by_cases hl : Leap y
        · rw [decide_eq_true hl]
          have HF : Hid (dim y 2 = 29) := by show _ = _; rw [HR.out, if_pos hl]
          clear hl
          go_wp2
          go_ret
          exact ⟨ret_int HF.out.symm, rfl⟩
        · rw [decide_eq_false hl]
          have HF : Hid (dim y 2 = 28) := by show _ = _; rw [HR.out, if_neg hl]
          clear hl
          go_wp2
          go_ret
          exact ⟨ret_int HF.out.symm, rfl⟩
theorem daysOfYear_any (y : Int) (w : World) (h0 : 0 ≤ y) (h1 : y ≤ 100000) :
    Calls Tryz.prog 71 #[.int .i64 y] w fun e w' => e = .returned (.int .i64 (ylen y)) ∧ w' = w := by
  go_enter Tryz.func71, Tryz.ntmps71
  go_wp2_with fail
  refine (isLeapYear_any y w h0 h1).mono ?_
  rintro e w1 ⟨rfl, rfl⟩
  by_cases hl : Leap y
  · rw [decide_eq_true hl]
    have HF : Hid (ylen y = 366) := if_pos hl
    clear hl
    go_wp2
    go_ret
    exact ⟨ret_int HF.out.symm, rfl⟩
  · rw [decide_eq_false hl]
    have HF : Hid (ylen y = 365) := if_neg hl
    clear hl
    go_wp2
    go_ret
    exact ⟨ret_int HF.out.symm, rfl⟩
theorem shown_iff (D : Dat) : Shown D ↔ (1 ≤ D.d ∧ D.d ≤ dim D.y D.mo) ∧ (0 ≤ D.h ∧ D.h ≤ 23) ∧ (0 ≤ D.mi ∧ D.mi ≤ 59) ∧ (0 ≤ D.s ∧ D.s ≤ 59) ∧ (-720 ≤ D.z ∧ D.z ≤ 840) := by
  unfold Shown
  refine ⟨fun h => ⟨⟨h.1.2.2.2.2.1, h.1.2.2.2.2.2⟩, h.2⟩, fun h => ⟨okD_of h.1.1 h.1.2, h.2⟩⟩
theorem shown_bool (D : Dat) : decide (Shown D) = ((decide (1 ≤ D.d) && decide (D.d ≤ dim D.y D.mo)) && ((decide (0 ≤ D.h) && decide (D.h ≤ 23)) && ((decide (0 ≤ D.mi) && decide (D.mi ≤ 59)) && ((decide (0 ≤ D.s) && decide (D.s ≤ 59)) && (decide (-720 ≤ D.z) && decide (D.z ≤ 840)))))) := by
  simp only [← Bool.decide_and]; exact decide_eq_decide.2 (shown_iff D)
end Go.Proofs.YtboopbjdehdhgaaGreatDoor
