/-
  Dates: the seconds of a date, and the date of some seconds, in the model. No statement is proved here.
-/
import Derived.Test.YtboopbjdehdhgaaGreatDoorDateS2
namespace Go.Proofs.YtboopbjdehdhgaaGreatDoor
open Go.RowKit

set_option maxRecDepth 100000 in
set_option maxHeartbeats 1000000 in
theorem l4Seconds_any (D : Dat) (w : World) (hD : Shown D) :
    Calls Tryz.prog 23 #[datV D] w fun e w' => e = .returned (.int .i64 (secs D)) ∧ Below w.heap.size w w' := by
  have HSEC : Hid (secs D = daysB D.y D.mo D.d * 86400 + D.h * 3600 + D.mi * 60 + D.s - D.z * 60) := rfl
  obtain ⟨y, m, d, h, mi, s, z⟩ := D
  simp only at HSEC
  unfold datV
  simp only
  have HB := Lib.hid (laid7_below y m d h mi s z 24 w)
  have hd31 := dim_le y m
  obtain ⟨⟨h1, h2, h3, h4, h5, h6⟩, a2, a3, a4, a5⟩ := hD
  simp only at h1 h2 h3 h4 h5 h6 a2 a3 a4 a5
  have hd1 : d ≤ 31 := by omega
  clear hd31 h6
  go_enter Tryz.func23, Tryz.ntmps23
  go_wp2_with fail
  have hc := laid7_new y m d h mi s z 24 w
  generalize w.alloc (.cells #[.int .i64 y, .int .i64 m, .int .i64 d, .int .i64 h, .int .i64 mi, .int .i64 s, .int .i64 z] 24) = w1 at *
  generalize hBB : w.heap.size = BB at *
  have HC := Lib.hid hc
  obtain ⟨c0, c1, c2, c3, c4, c5, c6⟩ := hc
  simp only at c0 c1 c2 c3 c4 c5 c6
  go_loop [3, 4] (fun a b => ∃ k : Nat, 1970 + (k : Int) ≤ y ∧ a = .int .i64 (d - 1 + yrs k) ∧ b = .int .i64 (1970 + k)) (fun _ b => (y - intOf b).toNat)
  case atStart => exact ⟨0, by omega, by show _ = _; congr 1; show _ = d - 1 + 0; omega, rfl⟩
  case round =>
    obtain ⟨k, hk, rfl, rfl⟩ := hrel
    have b1 := yrs_le k
    have b2 := yrs_nn k
    have HS : Hid (yrs (k + 1) = yrs k + ylen (1970 + k)) := yrs_succ k
    by_cases hlt : 1970 + (k : Int) < y
    · have HL : Hid (∀ u : World, Calls Tryz.prog 50 #[.int .i64 (1970 + k)] u fun e w' => e = .returned (.bool (decide (Leap (1970 + (k : Int))))) ∧ w' = u) := fun u => l4Leap_any _ u (by omega) (by omega)
      have HY1 : Hid (Leap (1970 + (k : Int)) → ylen (1970 + (k : Int)) = 366) := fun h => if_pos h
      have HY2 : Hid (¬ Leap (1970 + (k : Int)) → ylen (1970 + (k : Int)) = 365) := fun h => if_neg h
      generalize hY : yrs k = Y at *
      have HY := Lib.hid hY
      clear hY
      by_cases hl : Leap (1970 + (k : Int))
      · rw [decide_eq_true hl] at HL
        have HYY := Lib.hid (HY1.out hl)
        clear hl
        go_wp2_with fail
        refine (HL.out _).mono ?_
        rintro e w2 ⟨rfl, rfl⟩
        go_wp2
        go_round
        case rel => exact ⟨k + 1, by omega, by show _ = _; congr 1; rw [HS.out, HYY.out]; omega, by go_num⟩
        case measure => simp [intOf]; omega
      · rw [decide_eq_false hl] at HL
        have HYY := Lib.hid (HY2.out hl)
        clear hl
        go_wp2_with fail
        refine (HL.out _).mono ?_
        rintro e w2 ⟨rfl, rfl⟩
        go_wp2
        go_round
        case rel => exact ⟨k + 1, by omega, by show _ = _; congr 1; rw [HS.out, HYY.out]; omega, by go_num⟩
        case measure => simp [intOf]; omega
    · have hy : (1970 : Int) + k = y := by omega
      have HK : Hid (yrs k = yrs (y - 1970).toNat) := by show _ = _; congr 1; omega
      clear HS
      generalize hY : yrs k = Y at *
      have hYb : 0 ≤ Y ∧ Y ≤ 50000 := by omega
      clear b1 b2 c0 c1 c2 c3 c4 c5 c6
      have hcc := HC.out
      obtain ⟨c0, c1, c2, c3, c4, c5, c6⟩ := hcc
      simp only at c0 c1 c2 c3 c4 c5 c6
      go_wp2_with fail
      go_loopw [3, 5] (fun a b wr => ∃ j : Nat, 1 + (j : Int) ≤ m ∧ a = .int .i64 (d - 1 + Y + mos y j) ∧ b = .int .i64 (1 + j) ∧ Below w1.heap.size w1 wr) (fun _ b _ => (m - intOf b).toNat)
      case atStart => exact ⟨0, by omega, by show _ = _; congr 1; show _ = d - 1 + Y + 0; omega, rfl, Below.refl _ _⟩
      case round =>
        obtain ⟨j, hj, rfl, rfl, hbr⟩ := hrel
        have hcr := HC.out.below hbr
        clear c0 c1 c2 c3 c4 c5 c6
        obtain ⟨c0, c1, c2, c3, c4, c5, c6⟩ := hcr
        simp only at c0 c1 c2 c3 c4 c5 c6
        have d1 := mos_nn y j
        have d2 := mos_mono y (a := j) (b := 12) (by omega)
        rw [mos_year ⟨h1, h2⟩] at d2
        have d3 := ylen_le y
        have d4 := dim_nn y (1 + j)
        have d5 := dim_le y (1 + j)
        have HS : Hid (mos y (j + 1) = mos y j + dim y (1 + j)) := by show _ = _; rw [mos_succ, Int.add_comm (j : Int) 1]
        by_cases hlt2 : 1 + (j : Int) < m
        · have HL : Hid (∀ u : World, Calls Tryz.prog 48 #[.int .i64 y, .int .i64 (1 + j)] u fun e w' => e = .returned (.int .i64 (dim y (1 + j))) ∧ Below u.heap.size u w') := fun u => daysOfS_any _ _ u
          generalize dim y (1 + (j : Int)) = L at *
          generalize hM : mos y j = M at *
          have HM := Lib.hid hM
          clear hM
          go_wp2_with fail
          refine (HL.out _).mono ?_
          rintro e w2 ⟨rfl, hb2⟩
          go_wp2
          go_roundw
          case rel => exact ⟨j + 1, by omega, by show _ = _; congr 1; rw [HS.out]; omega, by go_num, nx hbr hb2⟩
          case measure => simp [intOf]; omega
        · have HJ : Hid (mos y j = mos y (m - 1).toNat) := by show _ = _; congr 1; omega
          clear HS d4 d5
          generalize hM : mos y j = M at *
          have hMb : 0 ≤ M ∧ M ≤ 400 := by omega
          clear d1 d2 d3
          go_wp2
          go_ret
          exact ⟨ret_int (by rw [HSEC.out]; unfold daysB; rw [← HJ.out, ← HK.out]; omega), by have h9 := HB.out; rw [← hBB] at h9 ⊢; exact nx h9 hbr⟩
set_option maxRecDepth 100000 in
set_option maxHeartbeats 1000000 in
theorem dateValidS_any (D : Dat) (w : World) : Calls Tryz.prog 8 #[datV D] w fun e w' => e = .returned (.bool (okDB D)) ∧ Below w.heap.size w w' := by
  have HF : Hid (∀ u : World, Calls Tryz.prog 22 #[datV D] u fun e w' => e = .returned (.bool (decide (Shown D))) ∧ Below u.heap.size u w') := fun u => l4Fields_any D u
  have HSC : Hid (Shown D → ∀ u : World, Calls Tryz.prog 23 #[datV D] u fun e w' => e = .returned (.int .i64 (secs D)) ∧ Below u.heap.size u w') := fun h u => l4Seconds_any D u h
  by_cases hS : Shown D
  · rw [decide_eq_true hS] at HF
    have HSS := Lib.hid (HSC.out hS)
    have HOK : Hid (okDB D = (decide (0 ≤ secs D) && decide (secs D < 4102444800))) := by
      show _ = _
      unfold okDB; rw [← Bool.decide_and]; exact decide_eq_decide.2 ⟨fun h => h.2, fun h => ⟨hS, h⟩⟩
    clear hS HSC
    generalize okDB D = q at *
    generalize secs D = n at *
    obtain ⟨y, m, d, h, mi, s, z⟩ := D
    unfold datV at *
    have HB := Lib.hid (laid7_below y m d h mi s z 24 w)
    by_cases hn : 0 ≤ n
    all_goals
      go_enter Tryz.func8, Tryz.ntmps8
      go_wp2_with fail
      have hc := laid7_new y m d h mi s z 24 w
      generalize w.alloc (.cells #[.int .i64 y, .int .i64 m, .int .i64 d, .int .i64 h, .int .i64 mi, .int .i64 s, .int .i64 z] 24) = w1 at *
      refine (HF.out _).mono ?_
      rintro e w2 ⟨rfl, hb2⟩
      obtain ⟨c0, c1, c2, c3, c4, c5, c6⟩ := hc.below hb2
      simp only at c0 c1 c2 c3 c4 c5 c6
      clear hc
      go_wp2_with fail
      refine (HSS.out _).mono ?_
      rintro e w3 ⟨rfl, hb3⟩
      go_wp2
      go_ret
      exact ⟨ret_bool (by rw [HOK.out]; simp; omega), nx HB.out (nx hb2 hb3)⟩
  · rw [decide_eq_false hS] at HF
    have HOK := Lib.hid (okDB_no (D := D) (fun c => hS c.1))
    clear hS HSC
    generalize okDB D = q at *
    obtain ⟨y, m, d, h, mi, s, z⟩ := D
    unfold datV at *
    have HB := Lib.hid (laid7_below y m d h mi s z 24 w)
    go_enter Tryz.func8, Tryz.ntmps8
    go_wp2_with fail
    refine (HF.out _).mono ?_
    rintro e w2 ⟨rfl, hb2⟩
    go_wp2
    go_ret
    exact ⟨ret_bool HOK.out.symm, nx HB.out hb2⟩
end Go.Proofs.YtboopbjdehdhgaaGreatDoor
