/-
  Dates written as texts: what the program's functions return. No statement is proved here.
-/
import Derived.Test.YtboopbjdehdhgaaGreatDoorWday
import Derived.Test.YtboopbjdehdhgaaGreatDoorQuietB
import Derived.Test.YtboopbjdehdhgaaGreatDoorDateT
import Derived.Test.YtboopbjdehdhgaaGreatDoorShelf
import Derived.Shelf.Strconv.Itoa3
namespace Go.Proofs.YtboopbjdehdhgaaGreatDoor
open Go.RowKit Go.Sort

theorem below_grow (w : World) (k : Nat) (os : Array Obj) : Below w.heap.size w (grow (w.drewN k) os) :=
  ⟨rfl, rfl, rfl, by simp [grow, World.drewN], fun i hi => by simp [grow, World.drewN, Array.getElem?_append, hi]⟩
theorem str_app (l k : List UInt8) : str l ++ str k = str (l ++ k) := by
  apply bytes_ext; rw [str_list]; simp [str]
theorem lit_str (l : List UInt8) : (⟨l.toArray⟩ : ByteArray) = str l := rfl
theorem itoaSmall_any (n : Int) (w : World) (h0 : 0 ≤ n) (h1 : n < 100) : Calls Tryz.prog 13 #[.int .i64 n] w fun e w' => e = .returned (.string (str (Lib.decDigits n.toNat))) ∧ w' = w := by
  obtain ⟨k, rfl⟩ := Int.eq_ofNat_of_zero_le h0
  exact Tryz.strconv_Itoa_small k (by omega) w
/-- The library's table of powers of ten holds what it was laid with. -/
def PowT (w : World) : Prop := Lib.TabIs Tryz.prog w "internal/strconv.uint64pow10" .u64 Lib.pow10Tab
theorem powG : Tryz.prog.globalNamed "internal/strconv.uint64pow10" = some 5 := by kernel_rfl
theorem PowT.below {w w' : World} (h : PowT w) (b : Below w.heap.size w w') : PowT w' :=
  var?_below b powG (lt_of_cell (h.cell powG 0 (by decide))) h
theorem itoa_any (n : Int) (w : World) (h0 : 0 ≤ n) (h1 : n ≤ 1000000) (pt : PowT w) : Calls Tryz.prog 13 #[.int .i64 n] w fun e w' => e = .returned (.string (str (Lib.decDigits n.toNat))) ∧ Below w.heap.size w w' := by
  refine (Tryz.strconv_Itoa n (by omega) (by omega) w pt).mono ?_
  rintro e w' ⟨rfl, k, os, rfl⟩
  refine ⟨?_, below_grow _ _ _⟩
  unfold Lib.itoa
  rw [if_neg (by omega)]; rfl
set_option maxRecDepth 100000 in
set_option maxHeartbeats 400000 in
theorem twoDigits_any (n : Int) (w : World) (h0 : 0 ≤ n) (h1 : n < 100) : Calls Tryz.prog 14 #[.int .i64 n] w fun e w' => e = .returned (.string (str (two n))) ∧ w' = w := by
  have q1 : 0 ≤ n / 10 ∧ n / 10 < 10 := by omega
  have q2 : 0 ≤ n % 10 ∧ n % 10 < 10 := by omega
  have H1 := Lib.hid (fun u => itoaSmall_any (n / 10) u (by omega) (by omega))
  have H2 := Lib.hid (fun u => itoaSmall_any (n % 10) u (by omega) (by omega))
  have HR : Hid (str (Lib.decDigits (n / 10).toNat) ++ str (Lib.decDigits (n % 10).toNat) = str (two n)) := by
    show _ = _
    rw [decD_one (by omega), decD_one (by omega), str_app]
    unfold two
    rw [show (n / 10).toNat = n.toNat / 10 by omega, show (n % 10).toNat = n.toNat % 10 by omega]; rfl
  have z1 : (str (Lib.decDigits (n / 10).toNat)).size ≤ 4 := by rw [str_size]; exact dec_len (by omega)
  have z2 : (str (Lib.decDigits (n % 10).toNat)).size ≤ 4 := by rw [str_size]; exact dec_len (by omega)
  generalize str (Lib.decDigits (n / 10).toNat) = A at *
  generalize str (Lib.decDigits (n % 10).toNat) = B at *
  go_enter Tryz.func14, Tryz.ntmps14
  go_wp2_with fail
  refine (H1.out _).mono ?_
  rintro e w1 ⟨rfl, rfl⟩
  go_wp2_with fail
  refine (H2.out _).mono ?_
  rintro e w2 ⟨rfl, rfl⟩
  go_wp2
  go_ret
  exact ⟨ret_str HR.out, rfl⟩
theorem twoDigits_q (n : Int) (S : ByteArray) (w : World) (hn : 0 ≤ n ∧ n < 100) (h : str (two n) = S) : Calls Tryz.prog 14 #[.int .i64 n] w fun e w' => e = .returned (.string S) ∧ w' = w := by
  rw [← h]; exact twoDigits_any n w hn.1 hn.2
set_option maxRecDepth 100000 in
set_option maxHeartbeats 400000 in
theorem formatZone_any (z : Int) (w : World) (hz : -720 ≤ z ∧ z ≤ 840) : Calls Tryz.prog 16 #[.int .i64 z] w fun e w' => e = .returned (.string (str (zoneT z))) ∧ w' = w := by
  by_cases h : z < 0
  · obtain ⟨y, hy⟩ : ∃ y, -z = y := ⟨_, rfl⟩
    have H1 := Lib.hid (fun u => twoDigits_any (y / 60) u (by omega) (by omega))
    have H2 := Lib.hid (fun u => twoDigits_any (y % 60) u (by omega) (by omega))
    have HR : Hid ((⟨#[45]⟩ : ByteArray) ++ str (two (y / 60)) ++ str (two (y % 60)) = str (zoneT z)) := by
      show str [45] ++ _ ++ _ = _
      rw [str_app, str_app]
      unfold zoneT
      rw [if_pos h, show ((z.natAbs / 60 : Nat) : Int) = y / 60 by omega, show ((z.natAbs % 60 : Nat) : Int) = y % 60 by omega]; rfl
    have z1 : (str (two (y / 60))).size ≤ 2 := by rw [str_size]; exact Nat.le_refl 2
    have z2 : (str (two (y % 60))).size ≤ 2 := by rw [str_size]; exact Nat.le_refl 2
    generalize str (two (y / 60)) = A at *
    generalize str (two (y % 60)) = B at *
    generalize hZ : str (zoneT z) = Z at *
    have HZ := Lib.hid hZ
    clear hZ
    have hy0 : 0 ≤ y := by omega
    go_enter Tryz.func16, Tryz.ntmps16
    go_wp2_with fail
    refine (H1.out _).mono ?_
    rintro e w1 ⟨rfl, rfl⟩
    go_wp2_with fail
    refine (H2.out _).mono ?_
    rintro e w2 ⟨rfl, rfl⟩
    go_wp2
    go_ret
    exact ⟨ret_str HR.out, rfl⟩
  · have hz0 : 0 ≤ z := by omega
    have H1 := Lib.hid (fun u => twoDigits_any (z / 60) u (by omega) (by omega))
    have H2 := Lib.hid (fun u => twoDigits_any (z % 60) u (by omega) (by omega))
    have HR : Hid ((⟨#[43]⟩ : ByteArray) ++ str (two (z / 60)) ++ str (two (z % 60)) = str (zoneT z)) := by
      show str [43] ++ _ ++ _ = _
      rw [str_app, str_app]
      unfold zoneT
      rw [if_neg h, show ((z.natAbs / 60 : Nat) : Int) = z / 60 by omega, show ((z.natAbs % 60 : Nat) : Int) = z % 60 by omega]; rfl
    have z1 : (str (two (z / 60))).size ≤ 2 := by rw [str_size]; exact Nat.le_refl 2
    have z2 : (str (two (z % 60))).size ≤ 2 := by rw [str_size]; exact Nat.le_refl 2
    generalize str (two (z / 60)) = A at *
    generalize str (two (z % 60)) = B at *
    generalize hZ : str (zoneT z) = Z at *
    have HZ := Lib.hid hZ
    clear hZ
    skip
    go_enter Tryz.func16, Tryz.ntmps16
    go_wp2_with fail
    refine (H1.out _).mono ?_
    rintro e w1 ⟨rfl, rfl⟩
    go_wp2_with fail
    refine (H2.out _).mono ?_
    rintro e w2 ⟨rfl, rfl⟩
    go_wp2
    go_ret
    exact ⟨ret_str HR.out, rfl⟩
/-- The table of the names of months. -/
def MTab (w : World) : Prop := ∀ j, j < 12 → w.cell? ⟨0, j, none⟩ = some (.string (str (moL.getD j [])))
theorem MTab.lt {w : World} (h : MTab w) : 0 < w.heap.size := lt_of_cell (h 0 (by omega))
theorem MTab.below {w w' : World} (h : MTab w) (b : Below w.heap.size w w') : MTab w' := fun j hj => by rw [below_at b h.lt]; exact h j hj
/-- What writing a date reads of the variables. -/
structure FEnv (w : World) : Prop where
  wt : WTab w
  mt : MTab w
  pt : PowT w
theorem FEnv.below {w w' : World} (h : FEnv w) (b : Below w.heap.size w w') : FEnv w' := ⟨h.wt.below b, h.mt.below b, h.pt.below b⟩
theorem date_str (D : Dat) : str (wdayT D) ++ (⟨#[44, 32]⟩ : ByteArray) ++ (str (dayT D) ++ ⟨#[32]⟩ ++ str (moN D.mo) ++ ⟨#[32]⟩ ++ str (yearT D)) ++ ⟨#[32]⟩ ++ (str (two D.h) ++ ⟨#[58]⟩ ++ str (two D.mi) ++ ⟨#[58]⟩ ++ str (two D.s)) ++ ⟨#[32]⟩ ++ str (zoneT D.z) = str (dateT D) := by
  apply bytes_ext
  simp [str, dateT, restT, clockT]
set_option maxRecDepth 100000 in
set_option maxHeartbeats 2000000 in
theorem formatDate_any (D : Dat) (w : World) (env : FEnv w) : Calls Tryz.prog 5 #[datV D] w fun e w' => e = .returned (.string (str (dateF D))) ∧ Below w.heap.size w w' := by
  by_cases ho : OkDate D
  · have H1 : Hid (∀ u : World, Calls Tryz.prog 7 #[datV D] u fun e w' => e = .returned (.bool true) ∧ Below u.heap.size u w') := fun u => by rw [← okDB_ok ho]; exact dateValid_any D u
    have H2 : Hid (∀ u : World, WTab u → Calls Tryz.prog 15 #[datV D] u fun e w' => e = .returned (.string (str (wdayT D))) ∧ Below u.heap.size u w') := fun u t => by rw [← wdayF_ok ho]; exact weekdayOf_any D u t
    obtain ⟨⟨⟨h1, h2, h3, h4, h5, h6⟩, a2, a3, a4, a5⟩, _⟩ := id ho
    have hd31 := dim_le D.y D.mo
    have H3 : Hid (∀ u : World, Calls Tryz.prog 13 #[.int .i64 D.d] u fun e w' => e = .returned (.string (str (dayT D))) ∧ w' = u) := fun u => itoaSmall_any D.d u (by omega) (by omega)
    have H4 : Hid (∀ u : World, PowT u → Calls Tryz.prog 13 #[.int .i64 D.y] u fun e w' => e = .returned (.string (str (yearT D))) ∧ Below u.heap.size u w') := fun u t => itoa_any D.y u (by omega) (by omega) t
    have r5 : 0 ≤ D.h ∧ D.h < 100 := by omega
    have r6 : 0 ≤ D.mi ∧ D.mi < 100 := by omega
    have r7 : 0 ≤ D.s ∧ D.s < 100 := by omega
    have H8 := Lib.hid (fun u => formatZone_any D.z u a5)
    rw [dateF_ok ho]
    have HR := Lib.hid (date_str D)
    obtain ⟨J, hJ⟩ := Int.eq_ofNat_of_zero_le (show 0 ≤ D.mo - 1 by omega)
    have hJ12 : J < 12 := by omega
    have hMO : moN D.mo = moL.getD J [] := by unfold moN; rw [hJ]; rfl
    have z1 : (str (wdayT D)).size ≤ 10 := by rw [str_size]; have : (wdayT D).length = 3 := wdN_len _; omega
    have z2 : (str (dayT D)).size ≤ 10 := by rw [str_size]; have := (date_len ho.1).2; omega
    have z3 : (str (moN D.mo)).size ≤ 10 := by rw [str_size, hMO, moL_len J hJ12]; omega
    have z4 : (str (yearT D)).size ≤ 10 := by rw [str_size]; have := dec_len (n := D.y.toNat) (by omega); unfold yearT; omega
    have z5 : (str (two D.h)).size ≤ 10 := by rw [str_size]; exact Nat.le_of_lt_succ (by show 2 < 11; omega)
    have z6 : (str (two D.mi)).size ≤ 10 := by rw [str_size]; exact Nat.le_of_lt_succ (by show 2 < 11; omega)
    have z7 : (str (two D.s)).size ≤ 10 := by rw [str_size]; exact Nat.le_of_lt_succ (by show 2 < 11; omega)
    have z8 : (str (zoneT D.z)).size ≤ 10 := by rw [str_size]; exact Nat.le_of_lt_succ (by show 5 < 11; omega)
    have HMT : Hid (∀ u : World, MTab u → u.cell? ⟨0, J, none⟩ = some (.string (str (moN D.mo)))) := fun u t => by rw [hMO]; exact t J hJ12
    generalize str (dateT D) = OUT at *
    generalize str (wdayT D) = S1 at *
    generalize str (dayT D) = S2 at *
    generalize str (moN D.mo) = S3 at *
    generalize str (yearT D) = S4 at *
    obtain ⟨S5, G5⟩ : ∃ S, Hid (str (two D.h) = S) := ⟨_, rfl⟩
    rw [G5.out] at z5 HR
    obtain ⟨S6, G6⟩ : ∃ S, Hid (str (two D.mi) = S) := ⟨_, rfl⟩
    rw [G6.out] at z6 HR
    obtain ⟨S7, G7⟩ : ∃ S, Hid (str (two D.s) = S) := ⟨_, rfl⟩
    rw [G7.out] at z7 HR
    generalize str (zoneT D.z) = S8 at *
    have HENV := Lib.hid env
    clear env ho hMO h1 h2 h5 h6 hd31 a2 a3 a4 a5
    obtain ⟨y, m, d, h, mi, s, z⟩ := D
    unfold datV at *
    simp only at H1 H2 H3 H4 H8 hJ h3 h4 r5 r6 r7 G5 G6 G7
    have HB := Lib.hid (laid7_below y m d h mi s z 24 w)
    go_enter Tryz.func5, Tryz.ntmps5
    go_wp2_with fail
    have hc := laid7_new y m d h mi s z 24 w
    generalize w.alloc (.cells #[.int .i64 y, .int .i64 m, .int .i64 d, .int .i64 h, .int .i64 mi, .int .i64 s, .int .i64 z] 24) = w1 at *
    refine (H1.out _).mono ?_
    rintro e w2 ⟨rfl, hb2⟩
    have hc2 := hc.below hb2
    have HB2 := Lib.hid (nx HB.out hb2)
    have env2 := Lib.hid (HENV.out.below HB2.out)
    generalize hBB : w.heap.size = BB at *
    have HL : Hid (∀ x : BelowT w2, Laid7 BB ⟨y, m, d, h, mi, s, z⟩ x.val) := fun x => hc2.below x.below
    have c0 : ∀ x : BelowT w2, x.val.cell? ⟨BB, 0, none⟩ = some (.int .i64 y) := fun x => (HL.out x).1
    have c1 : ∀ x : BelowT w2, x.val.cell? ⟨BB, 1, none⟩ = some (.int .i64 m) := fun x => (HL.out x).2.1
    have c2 : ∀ x : BelowT w2, x.val.cell? ⟨BB, 2, none⟩ = some (.int .i64 d) := fun x => (HL.out x).2.2.1
    have cm : ∀ x : BelowT w2, x.val.cell? ⟨0, J, none⟩ = some (.string S3) := fun x => HMT.out _ (env2.out.mt.below x.below)
    have q1 : IntKind.i64.wrap (m - 1) = (J : Int) := by rw [hJ]; exact IntWalk.i64_in _ (by omega)
    have q5 : (0 : Int) ≤ (J : Int) := by omega
    have q6 : (J : Int) < 12 := by omega
    clear hc hc2
    go_wp2_with fail
    refine wp_region_quietB (W := w2) (by kernel_rfl) (by kernel_rfl) (Below.refl _ _) ?_
    repeat (go_big_quiet_step (first
      | (go_at_call 13; first | exact calls_sameT (H3.out _) | exact calls_belowT (H4.out _ (env2.out.pt.below (BelowT.below _))))))
    refine wpQuiet_nil ?_
    intro wz hwz
    obtain ⟨x3, rfl⟩ := hwz
    have hb3 := x3.below
    generalize x3.val = w3 at *
    have HL3 : Hid (∀ x : BelowT w3, Laid7 BB ⟨y, m, d, h, mi, s, z⟩ x.val) := fun x => HL.out ⟨x.val, nx hb3 x.below⟩
    have d3 : ∀ x : BelowT w3, x.val.cell? ⟨BB, 3, none⟩ = some (.int .i64 h) := fun x => (HL3.out x).2.2.2.1
    have d4 : ∀ x : BelowT w3, x.val.cell? ⟨BB, 4, none⟩ = some (.int .i64 mi) := fun x => (HL3.out x).2.2.2.2.1
    have d5 : ∀ x : BelowT w3, x.val.cell? ⟨BB, 5, none⟩ = some (.int .i64 s) := fun x => (HL3.out x).2.2.2.2.2.1
    have env3 := Lib.hid (env2.out.below hb3)
    have HB3 := Lib.hid (HB2.out.trans (hb3.mono (by rw [← hBB]; exact (hBB ▸ HB2.out).size)))
    clear c0 c1 c2 cm q1 q5 q6 HL env2 HB2
    go_wp2_with fail
    refine wp_region_quietB (W := w3) (by kernel_rfl) (by kernel_rfl) (Below.refl _ _) ?_
    repeat (go_big_quiet_step (first
      | (go_at_call 14; exact calls_sameT (twoDigits_q _ _ _ (by assumption) (by first | exact G5.out | exact G6.out | exact G7.out)))))
    refine wpQuiet_nil ?_
    intro wz hwz
    obtain ⟨x4, rfl⟩ := hwz
    have hb4 := x4.below
    generalize x4.val = w4 at *
    have HL4 : Hid (∀ x : BelowT w4, Laid7 BB ⟨y, m, d, h, mi, s, z⟩ x.val) := fun x => HL3.out ⟨x.val, nx hb4 x.below⟩
    have e0 : ∀ x : BelowT w4, x.val.cell? ⟨BB, 0, none⟩ = some (.int .i64 y) := fun x => (HL4.out x).1
    have e1 : ∀ x : BelowT w4, x.val.cell? ⟨BB, 1, none⟩ = some (.int .i64 m) := fun x => (HL4.out x).2.1
    have e2 : ∀ x : BelowT w4, x.val.cell? ⟨BB, 2, none⟩ = some (.int .i64 d) := fun x => (HL4.out x).2.2.1
    have e3 : ∀ x : BelowT w4, x.val.cell? ⟨BB, 3, none⟩ = some (.int .i64 h) := fun x => (HL4.out x).2.2.2.1
    have e4 : ∀ x : BelowT w4, x.val.cell? ⟨BB, 4, none⟩ = some (.int .i64 mi) := fun x => (HL4.out x).2.2.2.2.1
    have e5 : ∀ x : BelowT w4, x.val.cell? ⟨BB, 5, none⟩ = some (.int .i64 s) := fun x => (HL4.out x).2.2.2.2.2.1
    have e6 : ∀ x : BelowT w4, x.val.cell? ⟨BB, 6, none⟩ = some (.int .i64 z) := fun x => (HL4.out x).2.2.2.2.2.2
    have env4 := Lib.hid (env3.out.below hb4)
    clear d3 d4 d5 HL3 env3
    go_wp2_with fail
    refine wp_region_quietB (W := w4) (by kernel_rfl) (by kernel_rfl) (Below.refl _ _) ?_
    repeat (go_big_quiet_step (first
      | (go_at_call 15; exact calls_belowT (H2.out _ (env4.out.wt.below (BelowT.below _))))
      | (go_at_call 16; exact calls_sameT (H8.out _))))
    refine wpQuiet_nil ?_
    intro wz hwz
    obtain ⟨x5, rfl⟩ := hwz
    have hb5 := x5.below
    generalize x5.val = w5 at *
    have hb35 := nx hb4 hb5
    go_wp2
    go_ret
    exact ⟨ret_str (by rw [← HR.out]), by rw [← hBB] at HB3; exact nx HB3.out hb35⟩
  · have H1 : Hid (∀ u : World, Calls Tryz.prog 7 #[datV D] u fun e w' => e = .returned (.bool false) ∧ Below u.heap.size u w') := fun u => by rw [← okDB_no ho]; exact dateValid_any D u
    rw [dateF_no ho]
    clear ho
    obtain ⟨y, m, d, h, mi, s, z⟩ := D
    unfold datV at *
    simp only at H1
    have HB := Lib.hid (laid7_below y m d h mi s z 24 w)
    go_enter Tryz.func5, Tryz.ntmps5
    go_wp2_with fail
    refine (H1.out _).mono ?_
    rintro e w2 ⟨rfl, hb2⟩
    go_wp2
    go_ret
    exact ⟨rfl, nx HB.out hb2⟩
end Go.Proofs.YtboopbjdehdhgaaGreatDoor
