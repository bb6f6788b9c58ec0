/-
  Dates written as texts in the model: the whole text. No statement is proved here.
-/
import Derived.Test.YtboopbjdehdhgaaGreatDoorFmtS
import Derived.Test.YtboopbjdehdhgaaGreatDoorGrow
namespace Go.Proofs.YtboopbjdehdhgaaGreatDoor
open Go.RowKit Go.Sort

theorem l13Dec_q (n : Int) (S : ByteArray) (w : World) (hn : 0 ≤ n ∧ n < 10000) (h : str (Lib.decDigits n.toNat) = S) : Calls Tryz.prog 18 #[.int .i64 n] w fun e w' => e = .returned (.string S) ∧ Below w.heap.size w w' := by
  rw [← h]; exact l13Dec_any n w hn.1 hn.2
theorem l4Two_q (n : Int) (S : ByteArray) (w : World) (hn : 0 ≤ n ∧ n < 100) (h : str (two n) = S) : Calls Tryz.prog 20 #[.int .i64 n] w fun e w' => e = .returned (.string S) ∧ Below w.heap.size w w' := by
  rw [← h]; exact l4Two_any n w hn.1 hn.2
/-- The name of a month in a row that has been laid. -/
def MonAt (b J : Nat) (S : ByteArray) (w : World) : Prop := w.cell? ⟨b, J, none⟩ = some (.string S)
theorem MonAt.below {b J : Nat} {S : ByteArray} {w w' : World} (h : MonAt b J S w) (k : Below w.heap.size w w') : MonAt b J S w' := by
  unfold MonAt at h ⊢; rw [below_at k (lt_of_cell h)]; exact h
theorem l4Months_any (J : Nat) (S : ByteArray) (w : World) (hJ : J < 12) (hS : str (moL.getD J []) = S) : Calls Tryz.prog 19 #[] w fun e w' => e = .returned (.slice (some ⟨w.heap.size, 0, none⟩) 12 12) ∧ Below w.heap.size w w' ∧ MonAt w.heap.size J S w' := by
  go_enter Tryz.func19, Tryz.ntmps19
  go_wp2
  go_ret
  refine ⟨rfl, (Below.refl _ _).alloc (Nat.le_refl _) _, ?_⟩
  unfold MonAt
  rw [World.cell?_alloc_at _ _ _ _ rfl, ← hS]
  rcases (by omega : J = 0 ∨ J = 1 ∨ J = 2 ∨ J = 3 ∨ J = 4 ∨ J = 5 ∨ J = 6 ∨ J = 7 ∨ J = 8 ∨ J = 9 ∨ J = 10 ∨ J = 11) with rfl | rfl | rfl | rfl | rfl | rfl | rfl | rfl | rfl | rfl | rfl | rfl <;> rfl
theorem zone_str (z : Int) (h : z < 0) : (⟨#[45]⟩ : ByteArray) ++ str (two (-z / 60)) ++ str (two (-z % 60)) = str (zoneT z) := by
  show str [45] ++ _ ++ _ = _
  rw [str_app, str_app]
  unfold zoneT
  rw [if_pos h, show ((z.natAbs / 60 : Nat) : Int) = -z / 60 by omega, show ((z.natAbs % 60 : Nat) : Int) = -z % 60 by omega]; rfl
theorem zone_strP (z : Int) (h : ¬ z < 0) : (⟨#[43]⟩ : ByteArray) ++ str (two (z / 60)) ++ str (two (z % 60)) = str (zoneT z) := by
  show str [43] ++ _ ++ _ = _
  rw [str_app, str_app]
  unfold zoneT
  rw [if_neg h, show ((z.natAbs / 60 : Nat) : Int) = z / 60 by omega, show ((z.natAbs % 60 : Nat) : Int) = z % 60 by omega]; rfl
set_option maxRecDepth 100000 in
set_option maxHeartbeats 1000000 in
theorem formatDateS_bad (D : Dat) (w : World) (ho : ¬ OkDate D) : Calls Tryz.prog 6 #[datV D] w fun e w' => e = .returned (.string (str (dateF D))) ∧ Below w.heap.size w w' := by
  have H1 : Hid (∀ u : World, Calls Tryz.prog 8 #[datV D] u fun e w' => e = .returned (.bool false) ∧ Below u.heap.size u w') := fun u => by rw [← okDB_no ho]; exact dateValidS_any D u
  rw [dateF_no ho]
  obtain ⟨y, m, d, h, mi, s, z⟩ := D
  unfold datV at *
  simp only at H1
  clear ho
  have HB := Lib.hid (laid7_below y m d h mi s z 24 w)
  go_enter Tryz.func6, Tryz.ntmps6
  go_wp2_with fail
  refine (H1.out _).mono ?_
  rintro e w2 ⟨rfl, hb2⟩
  go_wp2
  go_ret
  exact ⟨rfl, nx HB.out hb2⟩
set_option maxRecDepth 100000 in
set_option maxHeartbeats 4000000 in
theorem formatDateS_pos (D : Dat) (w : World) (ho : OkDate D) (hz : ¬ D.z < 0) : Calls Tryz.prog 6 #[datV D] w fun e w' => e = .returned (.string (str (dateF D))) ∧ Below w.heap.size w w' := by
  have H1 : Hid (∀ u : World, Calls Tryz.prog 8 #[datV D] u fun e w' => e = .returned (.bool true) ∧ Below u.heap.size u w') := fun u => by rw [← okDB_ok ho]; exact dateValidS_any D u
  have H2 : Hid (∀ u : World, Calls Tryz.prog 17 #[datV D] u fun e w' => e = .returned (.string (str (wdayT D))) ∧ Below u.heap.size u w') := fun u => by rw [← wdayF_ok ho]; exact weekdayOfS_any D u
  obtain ⟨⟨⟨h1, h2, h3, h4, h5, h6⟩, a2, a3, a4, a5⟩, _⟩ := id ho
  have hd31 := dim_le D.y D.mo
  rw [dateF_ok ho]
  have HR := date_str D
  rw [← zone_strP D.z hz] at HR
  obtain ⟨J, hJ⟩ := Int.eq_ofNat_of_zero_le (show 0 ≤ D.mo - 1 by omega)
  have hJ12 : J < 12 := by omega
  have hMO : moN D.mo = moL.getD J [] := by unfold moN; rw [hJ]; rfl
  have z1 : (str (wdayT D)).size ≤ 10 := by rw [str_size]; have : (wdayT D).length = 3 := wdN_len _; omega
  have z2 : (str (dayT D)).size ≤ 10 := by rw [str_size]; have := (date_len ho.1).2; omega
  have z3 : (str (moN D.mo)).size ≤ 10 := by rw [str_size, hMO, moL_len J hJ12]; omega
  have z4 : (str (yearT D)).size ≤ 10 := by rw [str_size]; have := dec_len (n := D.y.toNat) (by omega); unfold yearT; omega
  have z5 : (str (two D.h)).size ≤ 10 := by rw [str_size]; exact Nat.le_of_lt_succ (by show 2 < 11; omega)
  have z6 : (str (two D.mi)).size ≤ 10 := by rw [str_size]; exact Nat.le_of_lt_succ (by show 2 < 11; omega)
  have z7 : (str (two D.s)).size ≤ 10 := by rw [str_size]; exact Nat.le_of_lt_succ (by show 2 < 11; omega)
  have z8 : (str (two (D.z / 60))).size ≤ 10 := by rw [str_size]; exact Nat.le_of_lt_succ (by show 2 < 11; omega)
  have z9 : (str (two (D.z % 60))).size ≤ 10 := by rw [str_size]; exact Nat.le_of_lt_succ (by show 2 < 11; omega)
  obtain ⟨S1, G1⟩ : ∃ S, Hid (str (wdayT D) = S) := ⟨_, rfl⟩
  obtain ⟨S2, G2⟩ : ∃ S, Hid (str (Lib.decDigits D.d.toNat) = S) := ⟨_, rfl⟩
  obtain ⟨S3, G3⟩ : ∃ S, Hid (str (moN D.mo) = S) := ⟨_, rfl⟩
  obtain ⟨S4, G4⟩ : ∃ S, Hid (str (Lib.decDigits D.y.toNat) = S) := ⟨_, rfl⟩
  obtain ⟨S5, G5⟩ : ∃ S, Hid (str (two D.h) = S) := ⟨_, rfl⟩
  obtain ⟨S6, G6⟩ : ∃ S, Hid (str (two D.mi) = S) := ⟨_, rfl⟩
  obtain ⟨S7, G7⟩ : ∃ S, Hid (str (two D.s) = S) := ⟨_, rfl⟩
  obtain ⟨S8, G8⟩ : ∃ S, Hid (str (two (D.z / 60)) = S) := ⟨_, rfl⟩
  obtain ⟨S9, G9⟩ : ∃ S, Hid (str (two (D.z % 60)) = S) := ⟨_, rfl⟩
  unfold dayT at z2 HR
  unfold yearT at z4 HR
  rw [G1.out] at z1 HR H2
  rw [G2.out] at z2 HR
  rw [G3.out] at z3 HR
  rw [G4.out] at z4 HR
  rw [G5.out] at z5 HR
  rw [G6.out] at z6 HR
  rw [G7.out] at z7 HR
  rw [G8.out] at z8 HR
  rw [G9.out] at z9 HR
  have HM := Lib.hid (fun u => l4Months_any J S3 u hJ12 (by rw [← hMO]; exact G3.out))
  have r2 : 0 ≤ D.d ∧ D.d < 10000 := by omega
  have r4 : 0 ≤ D.y ∧ D.y < 10000 := by omega
  have r5 : 0 ≤ D.h ∧ D.h < 100 := by omega
  have r6 : 0 ≤ D.mi ∧ D.mi < 100 := by omega
  have r7 : 0 ≤ D.s ∧ D.s < 100 := by omega
  have r8 : 0 ≤ D.z / 60 ∧ D.z / 60 < 100 := by omega
  have r9 : 0 ≤ D.z % 60 ∧ D.z % 60 < 100 := by omega
  have hz0 : 0 ≤ D.z := by omega
  have HOUT := Lib.hid HR
  generalize str (dateT D) = OUT at *
  clear ho HR hMO h1 h2 h5 h6 hd31 a2 a3 a4 a5
  obtain ⟨y, m, d, h, mi, s, z⟩ := D
  unfold datV at *
  simp only at H1 H2 hJ h3 h4 r2 r4 r5 r6 r7 r8 r9 hz hz0 G2 G4 G5 G6 G7 G8 G9
  have HB := Lib.hid (laid7_below y m d h mi s z 24 w)
  go_enter Tryz.func6, Tryz.ntmps6
  go_wp2_with fail
  have hc := laid7_new y m d h mi s z 24 w
  generalize w.alloc (.cells #[.int .i64 y, .int .i64 m, .int .i64 d, .int .i64 h, .int .i64 mi, .int .i64 s, .int .i64 z] 24) = w1 at *
  refine (H1.out _).mono ?_
  rintro e w2 ⟨rfl, hb2⟩
  have hc2 := hc.below hb2
  have HB2 := Lib.hid (nx HB.out hb2)
  generalize hBB : w.heap.size = BB at *
  have HL : Hid (∀ w', Below w2.heap.size w2 w' → w'.cell? ⟨BB, 0, none⟩ = some (.int .i64 y) ∧ w'.cell? ⟨BB, 1, none⟩ = some (.int .i64 m) ∧ w'.cell? ⟨BB, 2, none⟩ = some (.int .i64 d) ∧ w'.cell? ⟨BB, 3, none⟩ = some (.int .i64 h) ∧ w'.cell? ⟨BB, 4, none⟩ = some (.int .i64 mi) ∧ w'.cell? ⟨BB, 5, none⟩ = some (.int .i64 s) ∧ w'.cell? ⟨BB, 6, none⟩ = some (.int .i64 z) ∧ Below w2.heap.size w2 w') := fun u b => by
    obtain ⟨c0, c1, c2, c3, c4, c5, c6⟩ := hc2.below b
    exact ⟨c0, c1, c2, c3, c4, c5, c6, b⟩
  obtain ⟨c0, c1, c2, c3, c4, c5, c6, _⟩ := HL.out w2 (Below.refl _ _)
  have q1 : IntKind.i64.wrap (m - 1) = (J : Int) := by rw [hJ]; exact IntWalk.i64_in _ (by omega)
  have q5 : (0 : Int) ≤ (J : Int) := by omega
  have q6 : (J : Int) < 12 := by omega
  have q7 : m - 1 = (J : Int) := hJ
  clear hc hc2
  go_wp2_with fail
  refine wp_region_grow (by kernel_rfl) ?_
  refine wpAnyG_take (fuel := 23) [true, true, true, true, true, true, true, true, false, true, true, true, false, false, false, false, true, true, false, false, false, true, true, false, false, false, true, true, false, false, false, true, true, false, false, false, true, false, true, true, false, false, true, true] (by kernel_rfl) (by kernel_rfl) (by rfl) (by kernel_rfl) ?_
  apply Exists.intro
  refine ⟨fun x => ?_, ?_⟩
  · have HY : Hid (∀ y : BelowT x.val, _) := fun y => HL.out y.val (nx x.below y.below)
    have y0 := fun y => (HY.out y).1
    have y1 := fun y => (HY.out y).2.1
    have y2 := fun y => (HY.out y).2.2.1
    have y3 := fun y => (HY.out y).2.2.2.1
    have y4 := fun y => (HY.out y).2.2.2.2.1
    have y5 := fun y => (HY.out y).2.2.2.2.2.1
    have y6 := fun y => (HY.out y).2.2.2.2.2.2.1
    simp only [pickL]
    repeat (go_big_quiet_step (first
      | (go_at_call 17; exact calls_belowT (H2.out _))
      | (go_at_call 18; exact calls_belowT (l13Dec_q _ _ _ r2 G2.out))))
    exact wpQuiet_nil rfl
  refine wpAnyG_one (m := 8) (by kernel_rfl) (fun u8 g8 => ?_)
  refine wpOp_at (o := _) (by rfl) (by rfl) ?_
  go_simp
  refine (HM.out _).mono ?_
  rintro e w6 ⟨rfl, hb6, hmon⟩
  refine ⟨hb6, ?_⟩
  try simp only [Act.put, List.setIfInBounds_toArray, List.set_cons_zero, List.set_cons_succ]
  have HMN := Lib.hid hmon
  have h86 := nx g8 hb6
  clear hmon
  generalize u8.heap.size = gm at *
  refine wpAnyG_take (fuel := 0) [false, false, false, false, false, false, false, false, false, false, false, false, true, true, true, true, false, false, true, true, true, false, false, true, true, true, false, false, true, true, true, false, false, true, true, true, false, true, false, false, true, true, false, false, true, true, true] (by kernel_rfl) (by kernel_rfl) (by rfl) (by kernel_rfl) ?_
  apply Exists.intro
  refine ⟨fun x => ?_, ?_⟩
  · have HY : Hid (∀ y : BelowT x.val, _) := fun y => HL.out y.val (nx h86 (nx x.below y.below))
    have y0 := fun y => (HY.out y).1
    have y1 := fun y => (HY.out y).2.1
    have y2 := fun y => (HY.out y).2.2.1
    have y3 := fun y => (HY.out y).2.2.2.1
    have y4 := fun y => (HY.out y).2.2.2.2.1
    have y5 := fun y => (HY.out y).2.2.2.2.2.1
    have y6 := fun y => (HY.out y).2.2.2.2.2.2.1
    have ym : ∀ y : BelowT x.val, y.val.cell? ⟨gm, J, none⟩ = some (.string S3) := fun y => HMN.out.below (nx x.below y.below)
    simp only [pickL]
    repeat (go_big_quiet_step (first
      | (go_at_call 18; exact calls_belowT (l13Dec_q _ _ _ r4 G4.out))
      | (go_at_call 20; exact calls_belowT (l4Two_q _ _ _ (by assumption) (by first | exact G5.out | exact G6.out | exact G7.out | exact G8.out | exact G9.out)))))
    exact wpQuiet_nil rfl
  refine wpAnyG_done (by kernel_rfl) (fun x => ?_) _
  have hb9 := nx h86 x.below
  generalize x.val = w9 at *
  go_wp2
  go_ret
  exact ⟨ret_str (by rw [← HOUT.out]; simp only [ByteArray.append_assoc]), by have h9 := HB2.out; rw [← hBB] at h9; exact nx h9 hb9⟩
set_option maxRecDepth 100000 in
set_option maxHeartbeats 4000000 in
theorem formatDateS_neg (D : Dat) (w : World) (ho : OkDate D) (hz : D.z < 0) : Calls Tryz.prog 6 #[datV D] w fun e w' => e = .returned (.string (str (dateF D))) ∧ Below w.heap.size w w' := by
  have H1 : Hid (∀ u : World, Calls Tryz.prog 8 #[datV D] u fun e w' => e = .returned (.bool true) ∧ Below u.heap.size u w') := fun u => by rw [← okDB_ok ho]; exact dateValidS_any D u
  have H2 : Hid (∀ u : World, Calls Tryz.prog 17 #[datV D] u fun e w' => e = .returned (.string (str (wdayT D))) ∧ Below u.heap.size u w') := fun u => by rw [← wdayF_ok ho]; exact weekdayOfS_any D u
  obtain ⟨⟨⟨h1, h2, h3, h4, h5, h6⟩, a2, a3, a4, a5⟩, _⟩ := id ho
  have hd31 := dim_le D.y D.mo
  rw [dateF_ok ho]
  have HR := date_str D
  obtain ⟨Z, hZ⟩ : ∃ Z, -D.z = Z := ⟨_, rfl⟩
  rw [← zone_str D.z hz, hZ] at HR
  obtain ⟨J, hJ⟩ := Int.eq_ofNat_of_zero_le (show 0 ≤ D.mo - 1 by omega)
  have hJ12 : J < 12 := by omega
  have hMO : moN D.mo = moL.getD J [] := by unfold moN; rw [hJ]; rfl
  have z1 : (str (wdayT D)).size ≤ 10 := by rw [str_size]; have : (wdayT D).length = 3 := wdN_len _; omega
  have z2 : (str (dayT D)).size ≤ 10 := by rw [str_size]; have := (date_len ho.1).2; omega
  have z3 : (str (moN D.mo)).size ≤ 10 := by rw [str_size, hMO, moL_len J hJ12]; omega
  have z4 : (str (yearT D)).size ≤ 10 := by rw [str_size]; have := dec_len (n := D.y.toNat) (by omega); unfold yearT; omega
  have z5 : (str (two D.h)).size ≤ 10 := by rw [str_size]; exact Nat.le_of_lt_succ (by show 2 < 11; omega)
  have z6 : (str (two D.mi)).size ≤ 10 := by rw [str_size]; exact Nat.le_of_lt_succ (by show 2 < 11; omega)
  have z7 : (str (two D.s)).size ≤ 10 := by rw [str_size]; exact Nat.le_of_lt_succ (by show 2 < 11; omega)
  have z8 : (str (two (Z / 60))).size ≤ 10 := by rw [str_size]; exact Nat.le_of_lt_succ (by show 2 < 11; omega)
  have z9 : (str (two (Z % 60))).size ≤ 10 := by rw [str_size]; exact Nat.le_of_lt_succ (by show 2 < 11; omega)
  obtain ⟨S1, G1⟩ : ∃ S, Hid (str (wdayT D) = S) := ⟨_, rfl⟩
  obtain ⟨S2, G2⟩ : ∃ S, Hid (str (Lib.decDigits D.d.toNat) = S) := ⟨_, rfl⟩
  obtain ⟨S3, G3⟩ : ∃ S, Hid (str (moN D.mo) = S) := ⟨_, rfl⟩
  obtain ⟨S4, G4⟩ : ∃ S, Hid (str (Lib.decDigits D.y.toNat) = S) := ⟨_, rfl⟩
  obtain ⟨S5, G5⟩ : ∃ S, Hid (str (two D.h) = S) := ⟨_, rfl⟩
  obtain ⟨S6, G6⟩ : ∃ S, Hid (str (two D.mi) = S) := ⟨_, rfl⟩
  obtain ⟨S7, G7⟩ : ∃ S, Hid (str (two D.s) = S) := ⟨_, rfl⟩
  obtain ⟨S8, G8⟩ : ∃ S, Hid (str (two (Z / 60)) = S) := ⟨_, rfl⟩
  obtain ⟨S9, G9⟩ : ∃ S, Hid (str (two (Z % 60)) = S) := ⟨_, rfl⟩
  unfold dayT at z2 HR
  unfold yearT at z4 HR
  rw [G1.out] at z1 HR H2
  rw [G2.out] at z2 HR
  rw [G3.out] at z3 HR
  rw [G4.out] at z4 HR
  rw [G5.out] at z5 HR
  rw [G6.out] at z6 HR
  rw [G7.out] at z7 HR
  rw [G8.out] at z8 HR
  rw [G9.out] at z9 HR
  have HM := Lib.hid (fun u => l4Months_any J S3 u hJ12 (by rw [← hMO]; exact G3.out))
  have r2 : 0 ≤ D.d ∧ D.d < 10000 := by omega
  have r4 : 0 ≤ D.y ∧ D.y < 10000 := by omega
  have r5 : 0 ≤ D.h ∧ D.h < 100 := by omega
  have r6 : 0 ≤ D.mi ∧ D.mi < 100 := by omega
  have r7 : 0 ≤ D.s ∧ D.s < 100 := by omega
  have r8 : 0 ≤ Z / 60 ∧ Z / 60 < 100 := by omega
  have r9 : 0 ≤ Z % 60 ∧ Z % 60 < 100 := by omega
  have hz0 : 0 ≤ Z := by omega
  have HOUT := Lib.hid HR
  generalize str (dateT D) = OUT at *
  clear ho HR hMO h1 h2 h5 h6 hd31 a2 a3 a4 a5
  obtain ⟨y, m, d, h, mi, s, z⟩ := D
  unfold datV at *
  simp only at hZ
  simp only at H1 H2 hJ h3 h4 r2 r4 r5 r6 r7 r8 r9 hz hz0 G2 G4 G5 G6 G7 G8 G9
  have HB := Lib.hid (laid7_below y m d h mi s z 24 w)
  go_enter Tryz.func6, Tryz.ntmps6
  go_wp2_with fail
  have hc := laid7_new y m d h mi s z 24 w
  generalize w.alloc (.cells #[.int .i64 y, .int .i64 m, .int .i64 d, .int .i64 h, .int .i64 mi, .int .i64 s, .int .i64 z] 24) = w1 at *
  refine (H1.out _).mono ?_
  rintro e w2 ⟨rfl, hb2⟩
  have hc2 := hc.below hb2
  have HB2 := Lib.hid (nx HB.out hb2)
  generalize hBB : w.heap.size = BB at *
  have HL : Hid (∀ w', Below w2.heap.size w2 w' → w'.cell? ⟨BB, 0, none⟩ = some (.int .i64 y) ∧ w'.cell? ⟨BB, 1, none⟩ = some (.int .i64 m) ∧ w'.cell? ⟨BB, 2, none⟩ = some (.int .i64 d) ∧ w'.cell? ⟨BB, 3, none⟩ = some (.int .i64 h) ∧ w'.cell? ⟨BB, 4, none⟩ = some (.int .i64 mi) ∧ w'.cell? ⟨BB, 5, none⟩ = some (.int .i64 s) ∧ w'.cell? ⟨BB, 6, none⟩ = some (.int .i64 z) ∧ Below w2.heap.size w2 w') := fun u b => by
    obtain ⟨c0, c1, c2, c3, c4, c5, c6⟩ := hc2.below b
    exact ⟨c0, c1, c2, c3, c4, c5, c6, b⟩
  obtain ⟨c0, c1, c2, c3, c4, c5, c6, _⟩ := HL.out w2 (Below.refl _ _)
  have q1 : IntKind.i64.wrap (m - 1) = (J : Int) := by rw [hJ]; exact IntWalk.i64_in _ (by omega)
  have q5 : (0 : Int) ≤ (J : Int) := by omega
  have q6 : (J : Int) < 12 := by omega
  have q7 : m - 1 = (J : Int) := hJ
  clear hc hc2
  go_wp2_with fail
  refine wp_region_grow (by kernel_rfl) ?_
  refine wpAnyG_take (fuel := 23) [true, true, true, true, true, true, true, true, false, true, true, true, false, false, false, false, true, true, false, false, false, true, true, false, false, false, true, true, false, false, false, true, true, false, false, false, true, false, true, true, false, false, true, true] (by kernel_rfl) (by kernel_rfl) (by rfl) (by kernel_rfl) ?_
  apply Exists.intro
  refine ⟨fun x => ?_, ?_⟩
  · have HY : Hid (∀ y : BelowT x.val, _) := fun y => HL.out y.val (nx x.below y.below)
    have y0 := fun y => (HY.out y).1
    have y1 := fun y => (HY.out y).2.1
    have y2 := fun y => (HY.out y).2.2.1
    have y3 := fun y => (HY.out y).2.2.2.1
    have y4 := fun y => (HY.out y).2.2.2.2.1
    have y5 := fun y => (HY.out y).2.2.2.2.2.1
    have y6 := fun y => (HY.out y).2.2.2.2.2.2.1
    simp only [pickL]
    repeat (go_big_quiet_step (first
      | (go_at_call 17; exact calls_belowT (H2.out _))
      | (go_at_call 18; exact calls_belowT (l13Dec_q _ _ _ r2 G2.out))))
    exact wpQuiet_nil rfl
  refine wpAnyG_one (m := 8) (by kernel_rfl) (fun u8 g8 => ?_)
  refine wpOp_at (o := _) (by rfl) (by rfl) ?_
  go_simp
  refine (HM.out _).mono ?_
  rintro e w6 ⟨rfl, hb6, hmon⟩
  refine ⟨hb6, ?_⟩
  try simp only [Act.put, List.setIfInBounds_toArray, List.set_cons_zero, List.set_cons_succ]
  have HMN := Lib.hid hmon
  have h86 := nx g8 hb6
  clear hmon
  generalize u8.heap.size = gm at *
  refine wpAnyG_take (fuel := 0) [false, false, false, false, false, false, false, false, false, false, false, false, true, true, true, true, false, false, true, true, true, false, false, true, true, true, false, false, true, true, true, false, false, true, true, true, false, true, false, false, true, true, false, false, true, true, true] (by kernel_rfl) (by kernel_rfl) (by rfl) (by kernel_rfl) ?_
  apply Exists.intro
  refine ⟨fun x => ?_, ?_⟩
  · have HY : Hid (∀ y : BelowT x.val, _) := fun y => HL.out y.val (nx h86 (nx x.below y.below))
    have y0 := fun y => (HY.out y).1
    have y1 := fun y => (HY.out y).2.1
    have y2 := fun y => (HY.out y).2.2.1
    have y3 := fun y => (HY.out y).2.2.2.1
    have y4 := fun y => (HY.out y).2.2.2.2.1
    have y5 := fun y => (HY.out y).2.2.2.2.2.1
    have y6 := fun y => (HY.out y).2.2.2.2.2.2.1
    have ym : ∀ y : BelowT x.val, y.val.cell? ⟨gm, J, none⟩ = some (.string S3) := fun y => HMN.out.below (nx x.below y.below)
    simp only [pickL]
    repeat (go_big_quiet_step (first
      | (go_at_call 18; exact calls_belowT (l13Dec_q _ _ _ r4 G4.out))
      | (go_at_call 20; exact calls_belowT (l4Two_q _ _ _ (by assumption) (by first | exact G5.out | exact G6.out | exact G7.out | exact G8.out | exact G9.out)))))
    exact wpQuiet_nil rfl
  refine wpAnyG_done (by kernel_rfl) (fun x => ?_) _
  have hb9 := nx h86 x.below
  generalize x.val = w9 at *
  go_wp2
  go_ret
  exact ⟨ret_str (by rw [← HOUT.out]; simp only [ByteArray.append_assoc]), by have h9 := HB2.out; rw [← hBB] at h9; exact nx h9 hb9⟩
theorem formatDateS_any (D : Dat) (w : World) : Calls Tryz.prog 6 #[datV D] w fun e w' => e = .returned (.string (str (dateF D))) ∧ Below w.heap.size w w' := by
  by_cases ho : OkDate D
  · by_cases hz : D.z < 0
    · exact formatDateS_neg D w ho hz
    · exact formatDateS_pos D w ho hz
  · exact formatDateS_bad D w ho
end Go.Proofs.YtboopbjdehdhgaaGreatDoor
