/-
  FnWeekdayOf: the law's walk. For every input of the law: it returns true, and the input reads as it did. Conditions: none but the statement's own.
-/
import Derived.Test.YtejplhhlecnagaaDoorLaw0w
import Derived.Test.YtejplhhlecnagaaDoorDrawE
import Derived.Test.YtejplhhlecnagaaDoorDateQ
import Derived.Test.YtejplhhlecnagaaDoorDateN
namespace Go.Proofs.YtejplhhlecnagaaDoor
open Go.ChangeShapes Go.WideShapes Go.ChangeAt Go.RowKit
open Go.ChangeMaps (open_string shut_string)

theorem days_later {D E : Dat} {k : Int} (h : OkDate D) (e : dateO (secs D + k * 86400) D.z = some E) : OkDate E ∧ daysB E.y E.mo E.d = daysB D.y D.mo D.d + k := by
  obtain ⟨h1, k1, h2⟩ := date_later (dateO_self h) e
  have a := clock_day h1
  have b := clock_day k1
  refine ⟨(dateO_some.1 e).1, ?_⟩
  rw [← a, ← b, h2]; omega
theorem wd_week {D E : Dat} (h : OkDate D) (e : dateO (secs D + 7 * 86400) D.z = some E) : wdayF E = wdayF D := by
  obtain ⟨h1, h2⟩ := days_later h e
  rw [wdayF_ok h, wdayF_ok h1]
  unfold wdayT
  rw [h2, ← wdN_mod, ← wdN_mod (daysB D.y D.mo D.d)]
  congr 1; omega
theorem wd_other {D E : Dat} {k : Int} (hk : 0 < k ∧ k < 7) (h : OkDate D) (e : dateO (secs D + k * 86400) D.z = some E) : wdayF E ≠ wdayF D := by
  obtain ⟨h1, h2⟩ := days_later h e
  rw [wdayF_ok h, wdayF_ok h1]
  unfold wdayT
  intro c
  have := wdN_inj c
  rw [h2] at this; omega
theorem str_inj {l k : List UInt8} (h : str l = str k) : l = k := by rw [← str_list l, h, str_list]
theorem emp_f {b : ByteArray} (h : 0 < b.size) : b.toList.isEmpty = false := by
  rw [ByteArray.toList_eq, List.isEmpty_eq_false_iff]
  intro c
  have : b.data.toList.length = b.size := rfl
  rw [c] at this; simp at this; omega
theorem str_ne_beq {l k : List UInt8} (h : l ≠ k) : ((str l).toList == (str k).toList) = false := by
  rw [beq_dec, decide_eq_false_iff_not]; exact fun c => h (str_inj c)
theorem dateOf_opt (n z : Int) : ∃ (q : Bool) (e0 e1 e2 e3 e4 e5 e6 : Int), (∀ u : World, Calls Tryd.prog 13 #[.int .i64 n, .int .i64 z] u fun e w' => e = .returned (.tuple #[.agg #[.int .i64 e0, .int .i64 e1, .int .i64 e2, .int .i64 e3, .int .i64 e4, .int .i64 e5, .int .i64 e6], .bool q]) ∧ Below u.heap.size u w') ∧ (q = true → dateO n z = some ⟨e0, e1, e2, e3, e4, e5, e6⟩) := by
  cases hO : dateO n z with
  | none => exact ⟨false, 0, 0, 0, 0, 0, 0, 0, dateOf_none hO, fun h => by cases h⟩
  | some D => exact ⟨true, D.y, D.mo, D.d, D.h, D.mi, D.s, D.z, dateOf_some hO, fun _ => rfl⟩
set_option maxRecDepth 100000 in
set_option maxHeartbeats 4000000 in
theorem fnWeekdayOf_walk (a : Option Addr) (n c : Nat) (w : World) (tab : WTab w) (hc : Code w a n) (hnc : n ≤ c) (hm : c ≤ maxLen) :
    Calls Tryd.prog 3 #[.slice a n c] w fun e w' => e = .returned (.bool true) ∧ Below w.heap.size w w' := by
  have HTAB := Lib.hid tab
  clear tab
  have hm' := hm
  unfold maxLen at hm'
  by_cases hn : 1048576 < n
  · have hd : decide ((1048576 : Int) < n) = true := by simp; omega
    go_enter Tryd.func3, Tryd.ntmps3
    go_wp2
    go_ret
    exact ⟨rfl, Below.refl _ _⟩
  · have hd : decide ((1048576 : Int) < n) = false := by simp; omega
    go_enter Tryd.func3, Tryd.ntmps3
    go_wp2_with fail
    refine (dDrawWeekdayOf_any a n c w hc hnc hm).mono ?_
    rintro e w1 ⟨D, rfl, hsm, hb1⟩
    obtain ⟨y, m, d, h, mi, s, z⟩ := D
    unfold datV
    simp only
    have HB1 := Lib.hid hb1
    obtain ⟨j0, j1, j2, j3, j4, j5, j6⟩ := hsm
    unfold Sm at j0 j1 j2 j3 j4 j5 j6
    simp only at j0 j1 j2 j3 j4 j5 j6
    clear hb1
    have HW1 := Lib.hid (fun u t => weekdayOf_any ⟨y, m, d, h, mi, s, z⟩ u t)
    have HW2 := Lib.hid (fun u => weekdayOfS_any ⟨y, m, d, h, mi, s, z⟩ u)
    by_cases hok : OkDate ⟨y, m, d, h, mi, s, z⟩
    · have H1 := Lib.hid (secondsOf_ok hok)
      have H2 := Lib.hid (dateValid_q true (okDB_ok hok))
      have hN := dateAt_in hok rfl
      obtain ⟨q1, a0, a1, a2, a3, a4, a5, a6, H3, k3⟩ := dateOf_opt (secs ⟨y, m, d, h, mi, s, z⟩ + 604800) z
      obtain ⟨q2, b0, b1, b2, b3, b4, b5, b6, H4, k4⟩ := dateOf_opt (secs ⟨y, m, d, h, mi, s, z⟩ + 86400) z
      have HE : Hid (q1 = true → wdayF ⟨a0, a1, a2, a3, a4, a5, a6⟩ = wdayF ⟨y, m, d, h, mi, s, z⟩) := fun e => wd_week hok (k3 e)
      have HF : Hid (q2 = true → wdayF ⟨b0, b1, b2, b3, b4, b5, b6⟩ ≠ wdayF ⟨y, m, d, h, mi, s, z⟩) := fun e => wd_other (k := 1) (by omega) hok (by have := k4 e; simpa using this)
      have HW3 := Lib.hid (fun u t => weekdayOf_any ⟨a0, a1, a2, a3, a4, a5, a6⟩ u t)
      have HW4 := Lib.hid (fun u t => weekdayOf_any ⟨b0, b1, b2, b3, b4, b5, b6⟩ u t)
      have HH3 := Lib.hid H3
      have HH4 := Lib.hid H4
      have h3 : (wdayF ⟨y, m, d, h, mi, s, z⟩).length = 3 := by rw [wdayF_ok hok]; exact wdN_len _
      generalize secs ⟨y, m, d, h, mi, s, z⟩ = N at *
      generalize wdayF ⟨y, m, d, h, mi, s, z⟩ = X at *
      generalize wdayF ⟨a0, a1, a2, a3, a4, a5, a6⟩ = XA at *
      generalize wdayF ⟨b0, b1, b2, b3, b4, b5, b6⟩ = XB at *
      have hX : X ≠ [] := by intro c; rw [c] at h3; cases h3
      have hs3 : (str X).size = 3 := by rw [str_size]; exact h3
      have g0 : (str X).toList.isEmpty = false := emp_f (by omega)
      have g1 : ((str X).toList == (str X).toList) = true := by simp
      clear hok k3 k4 H3 H4 hX h3
      go_wp2_with fail
      refine (HW1.out _ (HTAB.out.below (nx HB1.out (laid7_below y m d h mi s z 24 w1)))).mono ?_
      rintro e w2 ⟨rfl, hb2⟩
      have hs1 := (nx (laid7_below y m d h mi s z 24 w1) hb2)
      have L0_1 := Lib.hid ((laid7_new y m d h mi s z 24 w1).below hb2)
      have HT1 := Lib.hid (nx HB1.out hs1)
      clear hs1
      obtain ⟨c00, c01, c02, c03, c04, c05, c06⟩ := L0_1.out
      have hl0 := lt_of_cell c00
      simp only at c00 c01 c02 c03 c04 c05 c06
      go_wp2_with fail
      refine (HW2.out _).mono ?_
      rintro e w3 ⟨rfl, hb3⟩
      have hs2 := hb3
      have L0_2 := Lib.hid (L0_1.out.below hs2)
      have HT2 := Lib.hid (nx HT1.out hs2)
      clear hs2
      clear c00 c01 c02 c03 c04 c05 c06 hl0
      obtain ⟨c00, c01, c02, c03, c04, c05, c06⟩ := L0_2.out
      have hl0 := lt_of_cell c00
      simp only at c00 c01 c02 c03 c04 c05 c06
      go_wp2_with fail
      refine (H2.out _).mono ?_
      rintro e w4 ⟨rfl, hb4⟩
      have hs3 := hb4
      have L0_3 := Lib.hid (L0_2.out.below hs3)
      have HT3 := Lib.hid (nx HT2.out hs3)
      clear hs3
      clear c00 c01 c02 c03 c04 c05 c06 hl0
      obtain ⟨c00, c01, c02, c03, c04, c05, c06⟩ := L0_3.out
      have hl0 := lt_of_cell c00
      simp only at c00 c01 c02 c03 c04 c05 c06
      go_wp2_with fail
      refine (H1.out _).mono ?_
      rintro e w5 ⟨rfl, hb5⟩
      have hs4 := hb5
      have L0_4 := Lib.hid (L0_3.out.below hs4)
      have HT4 := Lib.hid (nx HT3.out hs4)
      clear hs4
      clear c00 c01 c02 c03 c04 c05 c06 hl0
      obtain ⟨c00, c01, c02, c03, c04, c05, c06⟩ := L0_4.out
      have hl0 := lt_of_cell c00
      simp only at c00 c01 c02 c03 c04 c05 c06
      go_wp2_with fail
      refine (HH3.out _).mono ?_
      rintro e w6 ⟨rfl, hb6⟩
      have hs5 := hb6
      have L0_5 := Lib.hid (L0_4.out.below hs5)
      have HT5 := Lib.hid (nx HT4.out hs5)
      clear hs5
      clear c00 c01 c02 c03 c04 c05 c06 hl0
      obtain ⟨c00, c01, c02, c03, c04, c05, c06⟩ := L0_5.out
      have hl0 := lt_of_cell c00
      simp only at c00 c01 c02 c03 c04 c05 c06
      go_wp2_with fail
      refine (HH4.out _).mono ?_
      rintro e w7 ⟨rfl, hb7⟩
      have hs6 := (nx (laid7_below a0 a1 a2 a3 a4 a5 a6 24 w6) hb7)
      have L0_6 := Lib.hid (L0_5.out.below hs6)
      have L1_6 := Lib.hid ((laid7_new a0 a1 a2 a3 a4 a5 a6 24 w6).below hb7)
      have HT6 := Lib.hid (nx HT5.out hs6)
      clear hs6
      clear c00 c01 c02 c03 c04 c05 c06 hl0
      obtain ⟨c00, c01, c02, c03, c04, c05, c06⟩ := L0_6.out
      have hl0 := lt_of_cell c00
      simp only at c00 c01 c02 c03 c04 c05 c06
      obtain ⟨c10, c11, c12, c13, c14, c15, c16⟩ := L1_6.out
      have hl1 := lt_of_cell c10
      simp only at c10 c11 c12 c13 c14 c15 c16
      cases q1
      · cases q2
        · skip
          have HEND := Lib.hid (nx HT6.out (laid7_below b0 b1 b2 b3 b4 b5 b6 24 w7))
          go_wp2
          go_ret
          exact ⟨rfl, HEND.out⟩
        · skip
          go_wp2_with fail
          refine (HW4.out _ (HTAB.out.below (nx HT6.out (laid7_below b0 b1 b2 b3 b4 b5 b6 24 w7)))).mono ?_
          rintro e w8 ⟨rfl, hb8⟩
          have hs7 := (nx (laid7_below b0 b1 b2 b3 b4 b5 b6 24 w7) hb8)
          have L0_7 := Lib.hid (L0_6.out.below hs7)
          have L1_7 := Lib.hid (L1_6.out.below hs7)
          have L2_7 := Lib.hid ((laid7_new b0 b1 b2 b3 b4 b5 b6 24 w7).below hb8)
          have HT7 := Lib.hid (nx HT6.out hs7)
          clear hs7
          clear c00 c01 c02 c03 c04 c05 c06 hl0 c10 c11 c12 c13 c14 c15 c16 hl1
          obtain ⟨c00, c01, c02, c03, c04, c05, c06⟩ := L0_7.out
          have hl0 := lt_of_cell c00
          simp only at c00 c01 c02 c03 c04 c05 c06
          obtain ⟨c10, c11, c12, c13, c14, c15, c16⟩ := L1_7.out
          have hl1 := lt_of_cell c10
          simp only at c10 c11 c12 c13 c14 c15 c16
          obtain ⟨c20, c21, c22, c23, c24, c25, c26⟩ := L2_7.out
          have hl2 := lt_of_cell c20
          simp only at c20 c21 c22 c23 c24 c25 c26
          have g2 := str_ne_beq (HF.out (by first | rfl | trivial))
          have g3 : ((str XB).toList != (str X).toList) = true := by show (!((str XB).toList == (str X).toList)) = true; rw [g2]; rfl
          have HEND := Lib.hid HT7.out
          go_wp2
          go_ret
          exact ⟨rfl, HEND.out⟩
      · cases q2
        · skip
          go_wp2_with fail
          refine (HW3.out _ (HTAB.out.below (nx HT6.out (laid7_below b0 b1 b2 b3 b4 b5 b6 24 w7)))).mono ?_
          rintro e w8 ⟨rfl, hb8⟩
          have hs7 := (nx (laid7_below b0 b1 b2 b3 b4 b5 b6 24 w7) hb8)
          have L0_7 := Lib.hid (L0_6.out.below hs7)
          have L1_7 := Lib.hid (L1_6.out.below hs7)
          have L2_7 := Lib.hid ((laid7_new b0 b1 b2 b3 b4 b5 b6 24 w7).below hb8)
          have HT7 := Lib.hid (nx HT6.out hs7)
          clear hs7
          clear c00 c01 c02 c03 c04 c05 c06 hl0 c10 c11 c12 c13 c14 c15 c16 hl1
          obtain ⟨c00, c01, c02, c03, c04, c05, c06⟩ := L0_7.out
          have hl0 := lt_of_cell c00
          simp only at c00 c01 c02 c03 c04 c05 c06
          obtain ⟨c10, c11, c12, c13, c14, c15, c16⟩ := L1_7.out
          have hl1 := lt_of_cell c10
          simp only at c10 c11 c12 c13 c14 c15 c16
          obtain ⟨c20, c21, c22, c23, c24, c25, c26⟩ := L2_7.out
          have hl2 := lt_of_cell c20
          simp only at c20 c21 c22 c23 c24 c25 c26
          rw [HE.out (by first | rfl | trivial)]
          have HEND := Lib.hid HT7.out
          go_wp2
          go_ret
          exact ⟨rfl, HEND.out⟩
        · skip
          go_wp2_with fail
          refine (HW3.out _ (HTAB.out.below (nx HT6.out (laid7_below b0 b1 b2 b3 b4 b5 b6 24 w7)))).mono ?_
          rintro e w8 ⟨rfl, hb8⟩
          have hs7 := (nx (laid7_below b0 b1 b2 b3 b4 b5 b6 24 w7) hb8)
          have L0_7 := Lib.hid (L0_6.out.below hs7)
          have L1_7 := Lib.hid (L1_6.out.below hs7)
          have L2_7 := Lib.hid ((laid7_new b0 b1 b2 b3 b4 b5 b6 24 w7).below hb8)
          have HT7 := Lib.hid (nx HT6.out hs7)
          clear hs7
          clear c00 c01 c02 c03 c04 c05 c06 hl0 c10 c11 c12 c13 c14 c15 c16 hl1
          obtain ⟨c00, c01, c02, c03, c04, c05, c06⟩ := L0_7.out
          have hl0 := lt_of_cell c00
          simp only at c00 c01 c02 c03 c04 c05 c06
          obtain ⟨c10, c11, c12, c13, c14, c15, c16⟩ := L1_7.out
          have hl1 := lt_of_cell c10
          simp only at c10 c11 c12 c13 c14 c15 c16
          obtain ⟨c20, c21, c22, c23, c24, c25, c26⟩ := L2_7.out
          have hl2 := lt_of_cell c20
          simp only at c20 c21 c22 c23 c24 c25 c26
          rw [HE.out (by first | rfl | trivial)]
          go_wp2_with fail
          refine (HW4.out _ (HTAB.out.below HT7.out)).mono ?_
          rintro e w9 ⟨rfl, hb9⟩
          have hs8 := hb9
          have L0_8 := Lib.hid (L0_7.out.below hs8)
          have L1_8 := Lib.hid (L1_7.out.below hs8)
          have L2_8 := Lib.hid (L2_7.out.below hs8)
          have HT8 := Lib.hid (nx HT7.out hs8)
          clear hs8
          clear c00 c01 c02 c03 c04 c05 c06 hl0 c10 c11 c12 c13 c14 c15 c16 hl1 c20 c21 c22 c23 c24 c25 c26 hl2
          obtain ⟨c00, c01, c02, c03, c04, c05, c06⟩ := L0_8.out
          have hl0 := lt_of_cell c00
          simp only at c00 c01 c02 c03 c04 c05 c06
          obtain ⟨c10, c11, c12, c13, c14, c15, c16⟩ := L1_8.out
          have hl1 := lt_of_cell c10
          simp only at c10 c11 c12 c13 c14 c15 c16
          obtain ⟨c20, c21, c22, c23, c24, c25, c26⟩ := L2_8.out
          have hl2 := lt_of_cell c20
          simp only at c20 c21 c22 c23 c24 c25 c26
          have g2 := str_ne_beq (HF.out (by first | rfl | trivial))
          have g3 : ((str XB).toList != (str X).toList) = true := by show (!((str XB).toList == (str X).toList)) = true; rw [g2]; rfl
          have HEND := Lib.hid HT8.out
          go_wp2
          go_ret
          exact ⟨rfl, HEND.out⟩
    · have H2 := Lib.hid (dateValid_q false (okDB_no hok))
      rw [wdayF_no hok] at HW1 HW2
      have g0 : str [] = (⟨#[]⟩ : ByteArray) := rfl
      rw [g0] at HW1 HW2
      clear hok g0
      go_wp2_with fail
      refine (HW1.out _ (HTAB.out.below (nx HB1.out (laid7_below y m d h mi s z 24 w1)))).mono ?_
      rintro e w2 ⟨rfl, hb2⟩
      have hs1 := (nx (laid7_below y m d h mi s z 24 w1) hb2)
      have L0_1 := Lib.hid ((laid7_new y m d h mi s z 24 w1).below hb2)
      have HT1 := Lib.hid (nx HB1.out hs1)
      clear hs1
      obtain ⟨c00, c01, c02, c03, c04, c05, c06⟩ := L0_1.out
      have hl0 := lt_of_cell c00
      simp only at c00 c01 c02 c03 c04 c05 c06
      go_wp2_with fail
      refine (HW2.out _).mono ?_
      rintro e w3 ⟨rfl, hb3⟩
      have hs2 := hb3
      have L0_2 := Lib.hid (L0_1.out.below hs2)
      have HT2 := Lib.hid (nx HT1.out hs2)
      clear hs2
      clear c00 c01 c02 c03 c04 c05 c06 hl0
      obtain ⟨c00, c01, c02, c03, c04, c05, c06⟩ := L0_2.out
      have hl0 := lt_of_cell c00
      simp only at c00 c01 c02 c03 c04 c05 c06
      go_wp2_with fail
      refine (H2.out _).mono ?_
      rintro e w4 ⟨rfl, hb4⟩
      have hs3 := hb4
      have L0_3 := Lib.hid (L0_2.out.below hs3)
      have HT3 := Lib.hid (nx HT2.out hs3)
      clear hs3
      clear c00 c01 c02 c03 c04 c05 c06 hl0
      obtain ⟨c00, c01, c02, c03, c04, c05, c06⟩ := L0_3.out
      have hl0 := lt_of_cell c00
      simp only at c00 c01 c02 c03 c04 c05 c06
      go_wp2_with fail
      refine (HW2.out _).mono ?_
      rintro e w5 ⟨rfl, hb5⟩
      have hs4 := hb5
      have L0_4 := Lib.hid (L0_3.out.below hs4)
      have HT4 := Lib.hid (nx HT3.out hs4)
      clear hs4
      clear c00 c01 c02 c03 c04 c05 c06 hl0
      obtain ⟨c00, c01, c02, c03, c04, c05, c06⟩ := L0_4.out
      have hl0 := lt_of_cell c00
      simp only at c00 c01 c02 c03 c04 c05 c06
      go_wp2_with fail
      refine (H2.out _).mono ?_
      rintro e w6 ⟨rfl, hb6⟩
      have hs5 := hb6
      have L0_5 := Lib.hid (L0_4.out.below hs5)
      have HT5 := Lib.hid (nx HT4.out hs5)
      clear hs5
      clear c00 c01 c02 c03 c04 c05 c06 hl0
      obtain ⟨c00, c01, c02, c03, c04, c05, c06⟩ := L0_5.out
      have hl0 := lt_of_cell c00
      simp only at c00 c01 c02 c03 c04 c05 c06
      have HEND := Lib.hid HT5.out
      go_wp2
      go_ret
      exact ⟨rfl, HEND.out⟩
end Go.Proofs.YtejplhhlecnagaaDoor
