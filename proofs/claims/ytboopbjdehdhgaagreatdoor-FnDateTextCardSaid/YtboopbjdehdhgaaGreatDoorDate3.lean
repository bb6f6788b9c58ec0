/-
  Dates: days before a day, the seconds of a date. No statement is proved here.
-/
import Derived.Test.YtboopbjdehdhgaaGreatDoorDate2
namespace Go.Proofs.YtboopbjdehdhgaaGreatDoor
open Go.RowKit

theorem laid7_below (y m d h mi s z : Int) (t : TypeId) (w : World) : Below w.heap.size w (w.alloc (.cells #[.int .i64 y, .int .i64 m, .int .i64 d, .int .i64 h, .int .i64 mi, .int .i64 s, .int .i64 z] t)) := (Below.refl _ _).alloc (Nat.le_refl _) _
set_option maxRecDepth 100000 in
set_option maxHeartbeats 1000000 in
theorem daysBefore_any (y m d h mi s z : Int) (w : World) (hd : okD y m d) :
    Calls Tryz.prog 45 #[.agg #[.int .i64 y, .int .i64 m, .int .i64 d, .int .i64 h, .int .i64 mi, .int .i64 s, .int .i64 z]] w fun e w' => e = .returned (.int .i64 (daysB y m d)) ∧ Below w.heap.size w w' := by
  have HB := Lib.hid (laid7_below y m d h mi s z 24 w)
  have hd31 := dim_le y m
  obtain ⟨h1, h2, h3, h4, h5, h6⟩ := hd
  have hd1 : d ≤ 31 := by omega
  clear hd31 h6
  go_enter Tryz.func45, Tryz.ntmps45
  go_wp2_with fail
  have hc := laid7_new y m d h mi s z 24 w
  generalize w.alloc (.cells #[.int .i64 y, .int .i64 m, .int .i64 d, .int .i64 h, .int .i64 mi, .int .i64 s, .int .i64 z] 24) = w1 at *
  obtain ⟨c0, c1, c2, c3, c4, c5, c6⟩ := hc
  simp only at c0 c1 c2 c3 c4 c5 c6
  go_loop [3, 4] (fun a b => ∃ k : Nat, 1970 + (k : Int) ≤ y ∧ a = .int .i64 (d - 1 + yrs k) ∧ b = .int .i64 (1970 + k)) (fun _ b => (y - intOf b).toNat)
  case atStart => exact ⟨0, by omega, by show _ = _; congr 1; show _ = d - 1 + 0; omega, rfl⟩
  case round =>
    obtain ⟨k, hk, rfl, rfl⟩ := hrel
    have b1 := yrs_le k
    have b2 := yrs_nn k
    have b3 := ylen_ge (1970 + k)
    have b4 := ylen_le (1970 + k)
    have HS : Hid (yrs (k + 1) = yrs k + ylen (1970 + k)) := yrs_succ k
    by_cases hlt : 1970 + (k : Int) < y
    · have HL : Hid (∀ u : World, Calls Tryz.prog 71 #[.int .i64 (1970 + k)] u fun e w' => e = .returned (.int .i64 (ylen (1970 + k))) ∧ w' = u) := fun u => daysOfYear_any _ u (by omega) (by omega)
      generalize ylen (1970 + (k : Int)) = L at *
      generalize hY : yrs k = Y at *
      have HY := Lib.hid hY
      clear hY
      go_wp2_with fail
      refine (HL.out _).mono ?_
      rintro e w2 ⟨rfl, rfl⟩
      go_wp2
      go_round
      case rel => exact ⟨k + 1, by omega, by show _ = _; congr 1; rw [HS.out]; omega, by go_num⟩
      case measure => simp [intOf]; omega
    · have hy : (1970 : Int) + k = y := by omega
      have HK : Hid (yrs k = yrs (y - 1970).toNat) := by show _ = _; congr 1; omega
      clear HS b3 b4
      generalize hY : yrs k = Y at *
      have hYb : 0 ≤ Y ∧ Y ≤ 50000 := by omega
      clear b1 b2
      go_wp2_with fail
      go_loop [3, 5] (fun a b => ∃ j : Nat, 1 + (j : Int) ≤ m ∧ a = .int .i64 (d - 1 + Y + mos y j) ∧ b = .int .i64 (1 + j)) (fun _ b => (m - intOf b).toNat)
      case atStart => exact ⟨0, by omega, by show _ = _; congr 1; show _ = d - 1 + Y + 0; omega, rfl⟩
      case round =>
        obtain ⟨j, hj, rfl, rfl⟩ := hrel
        have d1 := mos_nn y j
        have d2 := mos_mono y (a := j) (b := 12) (by omega)
        rw [mos_year ⟨h1, h2⟩] at d2
        have d3 := ylen_le y
        have d4 := dim_nn y (1 + j)
        have d5 := dim_le y (1 + j)
        have HS : Hid (mos y (j + 1) = mos y j + dim y (1 + j)) := by show _ = _; rw [mos_succ, Int.add_comm (j : Int) 1]
        by_cases hlt2 : 1 + (j : Int) < m
        · have HL : Hid (∀ u : World, Calls Tryz.prog 72 #[.int .i64 y, .int .i64 (1 + j)] u fun e w' => e = .returned (.int .i64 (dim y (1 + j))) ∧ w' = u) := fun u => daysOf_any _ _ u
          generalize dim y (1 + (j : Int)) = L at *
          generalize hM : mos y j = M at *
          have HM := Lib.hid hM
          clear hM
          go_wp2_with fail
          refine (HL.out _).mono ?_
          rintro e w2 ⟨rfl, rfl⟩
          go_wp2
          go_round
          case rel => exact ⟨j + 1, by omega, by show _ = _; congr 1; rw [HS.out]; omega, by go_num⟩
          case measure => simp [intOf]; omega
        · have HJ : Hid (mos y j = mos y (m - 1).toNat) := by show _ = _; congr 1; omega
          clear HS d4 d5
          generalize hM : mos y j = M at *
          go_wp2
          go_ret
          exact ⟨ret_int (by unfold daysB; rw [← HJ.out, ← HK.out]; omega), HB.out⟩
/-- What the two results of the seconds are. -/
def SecRet (D : Dat) (w : World) (e : Ending) (w' : World) : Prop := e = .returned (.tuple #[.int .i64 (secR D), .bool (okDB D)]) ∧ Below w.heap.size w w'
theorem secRet_ok {D : Dat} {n : Int} {w w' : World} (h : OkDate D) (hn : n = secs D) (b : Below w.heap.size w w') : SecRet D w (.returned (.tuple #[.int .i64 n, .bool true])) w' := by
  unfold SecRet; rw [secR_ok h, okDB_ok h, hn]; exact ⟨rfl, b⟩
theorem secRet_no {D : Dat} {w w' : World} (h : ¬ OkDate D) (b : Below w.heap.size w w') : SecRet D w (.returned (.tuple #[.int .i64 0, .bool false])) w' := by
  unfold SecRet; rw [secR_no h, okDB_no h]; exact ⟨rfl, b⟩
set_option maxRecDepth 100000 in
set_option maxHeartbeats 1000000 in
theorem secondsOf_any (D : Dat) (w : World) : Calls Tryz.prog 21 #[datV D] w (SecRet D w) := by
  have HFO : Hid (∀ (n : Int) (w' : World), OkDate D → n = secs D → Below w.heap.size w w' → SecRet D w (.returned (.tuple #[.int .i64 n, .bool true])) w') := fun n w' h1 h2 h3 => secRet_ok h1 h2 h3
  have HFN : Hid (∀ (w' : World), ¬ OkDate D → Below w.heap.size w w' → SecRet D w (.returned (.tuple #[.int .i64 0, .bool false])) w') := fun w' h1 h2 => secRet_no h1 h2
  generalize SecRet D w = R at *
  have HSB : Hid (∀ u : World, Calls Tryz.prog 46 #[datV D] u fun e w' => e = .returned (.bool (decide (Shown D))) ∧ Below u.heap.size u w') := fun u => shownByClock_any D u
  have HDB : Hid (okD D.y D.mo D.d → ∀ u : World, Calls Tryz.prog 45 #[datV D] u fun e w' => e = .returned (.int .i64 (daysB D.y D.mo D.d)) ∧ Below u.heap.size u w') := fun h u => daysBefore_any _ _ _ _ _ _ _ u h
  have HSEC : Hid (secs D = daysB D.y D.mo D.d * 86400 + D.h * 3600 + D.mi * 60 + D.s - D.z * 60) := rfl
  have HOK : Hid (OkDate D ↔ Shown D ∧ 0 ≤ secs D ∧ secs D < 4102444800) := Iff.rfl
  by_cases hS : Shown D
  · rw [decide_eq_true hS] at HSB
    obtain ⟨a1, a2, a3, a4, a5⟩ := hS
    have b1 := daysB_nn a1
    have b2 := daysB_lt a1
    have HD : Hid (∀ u : World, Calls Tryz.prog 45 #[datV D] u fun e w' => e = .returned (.int .i64 (daysB D.y D.mo D.d)) ∧ Below u.heap.size u w') := HDB.out a1
    have HOK2 : Hid (OkDate D ↔ 0 ≤ secs D ∧ secs D < 4102444800) := HOK.out.trans ⟨fun h => h.2, fun h => ⟨⟨a1, a2, a3, a4, a5⟩, h⟩⟩
    clear HDB HOK a1
    generalize secs D = S at *
    generalize OkDate D = OK at *
    obtain ⟨y, m, d, h, mi, s, z⟩ := D
    unfold datV at *
    simp only at a2 a3 a4 a5 b1 b2 HSEC
    have HB := Lib.hid (laid7_below y m d h mi s z 24 w)
    have HD' := HD.out
    generalize daysB y m d = N at *
    have q1 : IntKind.i64.wrap (N * 86400) = N * 86400 := IntWalk.i64_in _ (by omega)
    have q2 : IntKind.i64.wrap (h * 3600) = h * 3600 := IntWalk.i64_in _ (by omega)
    have q3 : IntKind.i64.wrap (N * 86400 + h * 3600) = N * 86400 + h * 3600 := IntWalk.i64_in _ (by omega)
    have q4 : IntKind.i64.wrap (mi - z) = mi - z := IntWalk.i64_in _ (by omega)
    have q5 : IntKind.i64.wrap ((mi - z) * 60) = (mi - z) * 60 := IntWalk.i64_in _ (by omega)
    have q6 : IntKind.i64.wrap (N * 86400 + h * 3600 + (mi - z) * 60) = N * 86400 + h * 3600 + (mi - z) * 60 := IntWalk.i64_in _ (by omega)
    have q7 : IntKind.i64.wrap (N * 86400 + h * 3600 + (mi - z) * 60 + s) = N * 86400 + h * 3600 + (mi - z) * 60 + s := IntWalk.i64_in _ (by omega)
    have HT : Hid (S = N * 86400 + h * 3600 + (mi - z) * 60 + s) := by show _ = _; rw [HSEC.out]; omega
    clear HD'
    have HV : Hid (∀ u : World, Calls Tryz.prog 47 #[.int .i64 (N * 86400 + h * 3600 + (mi - z) * 60 + s)] u fun e w' => e = .returned (.bool (decide (0 ≤ S) && decide (S ≤ 4102444799))) ∧ w' = u) := fun u => by
      rw [HT.out]; exact secondsValid_any _ u
    go_enter Tryz.func21, Tryz.ntmps21
    go_wp2_with fail
    have hc := laid7_new y m d h mi s z 24 w
    generalize w.alloc (.cells #[.int .i64 y, .int .i64 m, .int .i64 d, .int .i64 h, .int .i64 mi, .int .i64 s, .int .i64 z] 24) = w1 at *
    refine (HSB.out _).mono ?_
    rintro e w2 ⟨rfl, hb2⟩
    have HZ : Hid (∀ u, Below w2.heap.size w2 u → Below w.heap.size w u) := fun u b => nx HB.out (nx hb2 b)
    generalize w.heap.size = BB at *
    have HL : Hid (∀ w', Below w2.heap.size w2 w' → w'.cell? ⟨BB, 0, none⟩ = some (.int .i64 y) ∧ w'.cell? ⟨BB, 1, none⟩ = some (.int .i64 m) ∧ w'.cell? ⟨BB, 2, none⟩ = some (.int .i64 d) ∧ w'.cell? ⟨BB, 3, none⟩ = some (.int .i64 h) ∧ w'.cell? ⟨BB, 4, none⟩ = some (.int .i64 mi) ∧ w'.cell? ⟨BB, 5, none⟩ = some (.int .i64 s) ∧ w'.cell? ⟨BB, 6, none⟩ = some (.int .i64 z) ∧ Below w2.heap.size w2 w') := fun u b => by
      obtain ⟨c0, c1, c2, c3, c4, c5, c6⟩ := (hc.below hb2).below b
      exact ⟨c0, c1, c2, c3, c4, c5, c6, b⟩
    obtain ⟨c0, c1, c2, c3, c4, c5, c6, _⟩ := HL.out w2 (Below.refl _ _)
    clear hc
    go_wp2_with fail
    go_region_held3 (fun w' => w'.cell? ⟨BB, 0, none⟩ = some (.int .i64 y) ∧ w'.cell? ⟨BB, 1, none⟩ = some (.int .i64 m) ∧ w'.cell? ⟨BB, 2, none⟩ = some (.int .i64 d) ∧ w'.cell? ⟨BB, 3, none⟩ = some (.int .i64 h) ∧ w'.cell? ⟨BB, 4, none⟩ = some (.int .i64 mi) ∧ w'.cell? ⟨BB, 5, none⟩ = some (.int .i64 s) ∧ w'.cell? ⟨BB, 6, none⟩ = some (.int .i64 z) ∧ Below w2.heap.size w2 w')
      (first | exact HL.out _ (Below.refl _ _) | exact HL.out _ (Below.refl _ _).drew | exact HL.out _ hb7)
      (first
        | (go_at_call 45
           refine (HD.out _).mono ?_
           rintro e w6 ⟨rfl, hb6⟩
           have hb7 : Below w2.heap.size w2 w6 := nx (by go_split_ands; assumption) hb6))
    all_goals
      go_split_ands
      clear q1 q2 q3 q4 q5 q6 q7
      go_wp2_with fail
      refine (HV.out _).mono ?_
      rintro e w7 ⟨rfl, rfl⟩
      by_cases ho : 0 ≤ S ∧ S < 4102444800
      · have e1 : (decide (0 ≤ S) && decide (S ≤ 4102444799)) = true := by simp; omega
        rw [e1]
        have HO := Lib.hid (HOK2.out.2 ho)
        clear ho e1
        go_wp2
        try go_ret2
        exact HFO.out _ _ HO.out HT.out.symm (HZ.out _ (by assumption))
      · have e1 : (decide (0 ≤ S) && decide (S ≤ 4102444799)) = false := by simp; omega
        rw [e1]
        have HO := Lib.hid (fun c => ho (HOK2.out.1 c))
        clear ho e1
        go_wp2
        try go_ret2
        exact HFN.out _ HO.out (HZ.out _ (by assumption))
  · rw [decide_eq_false hS] at HSB
    have HO : Hid (¬ OkDate D) := fun c => hS c.1
    clear hS HDB HOK
    generalize OkDate D = OK at *
    obtain ⟨y, m, d, h, mi, s, z⟩ := D
    unfold datV at *
    have HB := Lib.hid (laid7_below y m d h mi s z 24 w)
    go_enter Tryz.func21, Tryz.ntmps21
    go_wp2_with fail
    refine (HSB.out _).mono ?_
    rintro e w2 ⟨rfl, hb2⟩
    go_wp2
    try go_ret2
    exact HFN.out _ HO.out (nx HB.out hb2)
set_option maxRecDepth 100000 in
set_option maxHeartbeats 1000000 in
theorem dateValid_any (D : Dat) (w : World) : Calls Tryz.prog 7 #[datV D] w fun e w' => e = .returned (.bool (okDB D)) ∧ Below w.heap.size w w' := by
  have HS : Hid (∀ u : World, Calls Tryz.prog 21 #[datV D] u (SecRet D u)) := fun u => secondsOf_any D u
  unfold SecRet at HS
  generalize okDB D = q at *
  generalize secR D = n at *
  obtain ⟨y, m, d, h, mi, s, z⟩ := D
  unfold datV at *
  have HB := Lib.hid (laid7_below y m d h mi s z 24 w)
  go_enter Tryz.func7, Tryz.ntmps7
  go_wp2_with fail
  refine (HS.out _).mono ?_
  rintro e w2 ⟨rfl, hb2⟩
  go_wp2
  go_ret
  exact ⟨rfl, nx HB.out hb2⟩
end Go.Proofs.YtboopbjdehdhgaaGreatDoor
