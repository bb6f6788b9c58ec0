/-
  FnDateValid: the law's walk. For every input of the law: it returns true, and the input reads as it did. Conditions: none but the statement's own.
-/
import Derived.Test.YtejplhhlecnagaaDoorLaw0f
import Derived.Test.YtejplhhlecnagaaDoorDrawE
import Derived.Test.YtejplhhlecnagaaDoorDateQ
import Derived.Test.YtejplhhlecnagaaDoorDateN
namespace Go.Proofs.YtejplhhlecnagaaDoor
open Go.ChangeShapes Go.WideShapes Go.ChangeAt Go.RowKit
open Go.ChangeMaps (open_string shut_string)

theorem emp_f {b : ByteArray} (h : 0 < b.size) : b.toList.isEmpty = false := by
  rw [ByteArray.toList_eq, List.isEmpty_eq_false_iff]
  intro c
  have : b.data.toList.length = b.size := rfl
  rw [c] at this; simp at this; omega
theorem bad_hour {y m d mi s z : Int} : ¬ OkDate ⟨y, m, d, 24, mi, s, z⟩ := fun h => by have : (24 : Int) ≤ 23 := h.1.2.1.2; omega
theorem bad_minute {y m d h s z : Int} : ¬ OkDate ⟨y, m, d, h, 60, s, z⟩ := fun h => by have : (60 : Int) ≤ 59 := h.1.2.2.1.2; omega
set_option maxRecDepth 100000 in
set_option maxHeartbeats 4000000 in
theorem fnDateValid_walk (a : Option Addr) (n c : Nat) (w : World) (tab : FEnv w) (hc : Code w a n) (hnc : n ≤ c) (hm : c ≤ maxLen) :
    Calls Tryd.prog 6 #[.slice a n c] w fun e w' => e = .returned (.bool true) ∧ Below w.heap.size w w' := by
  have HTAB := Lib.hid tab
  clear tab
  have hm' := hm
  unfold maxLen at hm'
  by_cases hn : 1048576 < n
  · have hd : decide ((1048576 : Int) < n) = true := by simp; omega
    go_enter Tryd.func6, Tryd.ntmps6
    go_wp2
    go_ret
    exact ⟨rfl, Below.refl _ _⟩
  · have hd : decide ((1048576 : Int) < n) = false := by simp; omega
    go_enter Tryd.func6, Tryd.ntmps6
    go_wp2_with fail
    refine (drawDateValid_any a n c w hc hnc hm).mono ?_
    rintro e w1 ⟨D, rfl, hsm, hb1⟩
    obtain ⟨y, m, d, h, mi, s, z⟩ := D
    unfold datV
    simp only
    have HB1 := Lib.hid hb1
    obtain ⟨j0, j1, j2, j3, j4, j5, j6⟩ := hsm
    unfold Sm at j0 j1 j2 j3 j4 j5 j6
    simp only at j0 j1 j2 j3 j4 j5 j6
    clear hb1
    have HF := Lib.hid (fun u t => formatDate_any ⟨y, m, d, h, mi, s, z⟩ u t)
    have HX := Lib.hid (dateValid_q (y := y) (m := m) (d := d) (h := 24) (mi := mi) (s := s) (z := z) false (okDB_no bad_hour))
    have HY := Lib.hid (dateValid_q (y := y) (m := m) (d := d) (h := h) (mi := 60) (s := s) (z := z) false (okDB_no bad_minute))
    by_cases hok : OkDate ⟨y, m, d, h, mi, s, z⟩
    · have H1 := Lib.hid (dateValid_q true (okDB_ok hok))
      have H2 := Lib.hid (dateValidS_q true (okDB_ok hok))
      rw [dateF_ok hok] at HF
      have hsz : 0 < (str (dateT ⟨y, m, d, h, mi, s, z⟩)).size := by rw [str_size]; exact List.length_pos_iff.2 (date_ne _)
      generalize str (dateT ⟨y, m, d, h, mi, s, z⟩) = X at *
      have g0 : X.toList.isEmpty = false := emp_f hsz
      clear hok hsz
      go_wp2_with fail
      refine (H1.out _).mono ?_
      rintro e w2 ⟨rfl, hb2⟩
      have hs1 := (nx (laid7_below y m d h mi s z 24 w1) hb2)
      have L0_1 := Lib.hid ((laid7_new y m d h mi s z 24 w1).below hb2)
      have HT1 := Lib.hid (nx HB1.out hs1)
      clear hs1
      obtain ⟨c00, c01, c02, c03, c04, c05, c06⟩ := L0_1.out
      have hl0 := lt_of_cell c00
      simp only at c00 c01 c02 c03 c04 c05 c06
      go_wp2_with fail
      refine (H2.out _).mono ?_
      rintro e w3 ⟨rfl, hb3⟩
      have hs2 := (nx (laid7_below y m d 24 mi s z 24 w2) (nx (laid7_below y m d h 60 s z 24 (w2.alloc (.cells #[.int .i64 y, .int .i64 m, .int .i64 d, .int .i64 24, .int .i64 mi, .int .i64 s, .int .i64 z] 24))) hb3))
      have L0_2 := Lib.hid (L0_1.out.below hs2)
      have L1_2 := Lib.hid ((laid7_new y m d 24 mi s z 24 w2).below (nx (laid7_below y m d h 60 s z 24 (w2.alloc (.cells #[.int .i64 y, .int .i64 m, .int .i64 d, .int .i64 24, .int .i64 mi, .int .i64 s, .int .i64 z] 24))) hb3))
      have hn1 := (laid7_new y m d h 60 s z 24 (w2.alloc (.cells #[.int .i64 y, .int .i64 m, .int .i64 d, .int .i64 24, .int .i64 mi, .int .i64 s, .int .i64 z] 24))).below hb3
      rw [show ((w2.alloc (.cells #[.int .i64 y, .int .i64 m, .int .i64 d, .int .i64 24, .int .i64 mi, .int .i64 s, .int .i64 z] 24))).heap.size = w2.heap.size + 1 by simp] at hn1
      have L2_2 := Lib.hid hn1
      clear hn1
      have HT2 := Lib.hid (nx HT1.out hs2)
      clear hs2
      clear c00 c01 c02 c03 c04 c05 c06 hl0
      obtain ⟨c00, c01, c02, c03, c04, c05, c06⟩ := L0_2.out
      have hl0 := lt_of_cell c00
      simp only at c00 c01 c02 c03 c04 c05 c06
      obtain ⟨c10, c11, c12, c13, c14, c15, c16⟩ := L1_2.out
      have hl1 := lt_of_cell c10
      simp only at c10 c11 c12 c13 c14 c15 c16
      obtain ⟨c20, c21, c22, c23, c24, c25, c26⟩ := L2_2.out
      have hl2 := lt_of_cell c20
      simp only at c20 c21 c22 c23 c24 c25 c26
      go_wp2_with fail
      refine (HF.out _ (HTAB.out.below HT2.out)).mono ?_
      rintro e w4 ⟨rfl, hb4⟩
      have hs3 := hb4
      have L0_3 := Lib.hid (L0_2.out.below hs3)
      have L1_3 := Lib.hid (L1_2.out.below hs3)
      have L2_3 := Lib.hid (L2_2.out.below hs3)
      have HT3 := Lib.hid (nx HT2.out hs3)
      clear hs3
      clear c00 c01 c02 c03 c04 c05 c06 hl0 c10 c11 c12 c13 c14 c15 c16 hl1 c20 c21 c22 c23 c24 c25 c26 hl2
      obtain ⟨c00, c01, c02, c03, c04, c05, c06⟩ := L0_3.out
      have hl0 := lt_of_cell c00
      simp only at c00 c01 c02 c03 c04 c05 c06
      obtain ⟨c10, c11, c12, c13, c14, c15, c16⟩ := L1_3.out
      have hl1 := lt_of_cell c10
      simp only at c10 c11 c12 c13 c14 c15 c16
      obtain ⟨c20, c21, c22, c23, c24, c25, c26⟩ := L2_3.out
      have hl2 := lt_of_cell c20
      simp only at c20 c21 c22 c23 c24 c25 c26
      go_wp2_with fail
      refine (HX.out _).mono ?_
      rintro e w5 ⟨rfl, hb5⟩
      have hs4 := hb5
      have L0_4 := Lib.hid (L0_3.out.below hs4)
      have L1_4 := Lib.hid (L1_3.out.below hs4)
      have L2_4 := Lib.hid (L2_3.out.below hs4)
      have HT4 := Lib.hid (nx HT3.out hs4)
      clear hs4
      clear c00 c01 c02 c03 c04 c05 c06 hl0 c10 c11 c12 c13 c14 c15 c16 hl1 c20 c21 c22 c23 c24 c25 c26 hl2
      obtain ⟨c00, c01, c02, c03, c04, c05, c06⟩ := L0_4.out
      have hl0 := lt_of_cell c00
      simp only at c00 c01 c02 c03 c04 c05 c06
      obtain ⟨c10, c11, c12, c13, c14, c15, c16⟩ := L1_4.out
      have hl1 := lt_of_cell c10
      simp only at c10 c11 c12 c13 c14 c15 c16
      obtain ⟨c20, c21, c22, c23, c24, c25, c26⟩ := L2_4.out
      have hl2 := lt_of_cell c20
      simp only at c20 c21 c22 c23 c24 c25 c26
      go_wp2_with fail
      refine (HY.out _).mono ?_
      rintro e w6 ⟨rfl, hb6⟩
      have hs5 := hb6
      have L0_5 := Lib.hid (L0_4.out.below hs5)
      have L1_5 := Lib.hid (L1_4.out.below hs5)
      have L2_5 := Lib.hid (L2_4.out.below hs5)
      have HT5 := Lib.hid (nx HT4.out hs5)
      clear hs5
      clear c00 c01 c02 c03 c04 c05 c06 hl0 c10 c11 c12 c13 c14 c15 c16 hl1 c20 c21 c22 c23 c24 c25 c26 hl2
      obtain ⟨c00, c01, c02, c03, c04, c05, c06⟩ := L0_5.out
      have hl0 := lt_of_cell c00
      simp only at c00 c01 c02 c03 c04 c05 c06
      obtain ⟨c10, c11, c12, c13, c14, c15, c16⟩ := L1_5.out
      have hl1 := lt_of_cell c10
      simp only at c10 c11 c12 c13 c14 c15 c16
      obtain ⟨c20, c21, c22, c23, c24, c25, c26⟩ := L2_5.out
      have hl2 := lt_of_cell c20
      simp only at c20 c21 c22 c23 c24 c25 c26
      have HEND := Lib.hid HT5.out
      go_wp2
      go_ret
      exact ⟨rfl, HEND.out⟩
    · have H1 := Lib.hid (dateValid_q false (okDB_no hok))
      have H2 := Lib.hid (dateValidS_q false (okDB_no hok))
      rw [dateF_no hok] at HF
      have g0 : str [] = (⟨#[]⟩ : ByteArray) := rfl
      rw [g0] at HF
      clear hok g0
      go_wp2_with fail
      refine (H1.out _).mono ?_
      rintro e w2 ⟨rfl, hb2⟩
      have hs1 := (nx (laid7_below y m d h mi s z 24 w1) hb2)
      have L0_1 := Lib.hid ((laid7_new y m d h mi s z 24 w1).below hb2)
      have HT1 := Lib.hid (nx HB1.out hs1)
      clear hs1
      obtain ⟨c00, c01, c02, c03, c04, c05, c06⟩ := L0_1.out
      have hl0 := lt_of_cell c00
      simp only at c00 c01 c02 c03 c04 c05 c06
      go_wp2_with fail
      refine (H2.out _).mono ?_
      rintro e w3 ⟨rfl, hb3⟩
      have hs2 := (nx (laid7_below y m d 24 mi s z 24 w2) (nx (laid7_below y m d h 60 s z 24 (w2.alloc (.cells #[.int .i64 y, .int .i64 m, .int .i64 d, .int .i64 24, .int .i64 mi, .int .i64 s, .int .i64 z] 24))) hb3))
      have L0_2 := Lib.hid (L0_1.out.below hs2)
      have L1_2 := Lib.hid ((laid7_new y m d 24 mi s z 24 w2).below (nx (laid7_below y m d h 60 s z 24 (w2.alloc (.cells #[.int .i64 y, .int .i64 m, .int .i64 d, .int .i64 24, .int .i64 mi, .int .i64 s, .int .i64 z] 24))) hb3))
      have hn1 := (laid7_new y m d h 60 s z 24 (w2.alloc (.cells #[.int .i64 y, .int .i64 m, .int .i64 d, .int .i64 24, .int .i64 mi, .int .i64 s, .int .i64 z] 24))).below hb3
      rw [show ((w2.alloc (.cells #[.int .i64 y, .int .i64 m, .int .i64 d, .int .i64 24, .int .i64 mi, .int .i64 s, .int .i64 z] 24))).heap.size = w2.heap.size + 1 by simp] at hn1
      have L2_2 := Lib.hid hn1
      clear hn1
      have HT2 := Lib.hid (nx HT1.out hs2)
      clear hs2
      clear c00 c01 c02 c03 c04 c05 c06 hl0
      obtain ⟨c00, c01, c02, c03, c04, c05, c06⟩ := L0_2.out
      have hl0 := lt_of_cell c00
      simp only at c00 c01 c02 c03 c04 c05 c06
      obtain ⟨c10, c11, c12, c13, c14, c15, c16⟩ := L1_2.out
      have hl1 := lt_of_cell c10
      simp only at c10 c11 c12 c13 c14 c15 c16
      obtain ⟨c20, c21, c22, c23, c24, c25, c26⟩ := L2_2.out
      have hl2 := lt_of_cell c20
      simp only at c20 c21 c22 c23 c24 c25 c26
      go_wp2_with fail
      refine (HF.out _ (HTAB.out.below HT2.out)).mono ?_
      rintro e w4 ⟨rfl, hb4⟩
      have hs3 := hb4
      have L0_3 := Lib.hid (L0_2.out.below hs3)
      have L1_3 := Lib.hid (L1_2.out.below hs3)
      have L2_3 := Lib.hid (L2_2.out.below hs3)
      have HT3 := Lib.hid (nx HT2.out hs3)
      clear hs3
      clear c00 c01 c02 c03 c04 c05 c06 hl0 c10 c11 c12 c13 c14 c15 c16 hl1 c20 c21 c22 c23 c24 c25 c26 hl2
      obtain ⟨c00, c01, c02, c03, c04, c05, c06⟩ := L0_3.out
      have hl0 := lt_of_cell c00
      simp only at c00 c01 c02 c03 c04 c05 c06
      obtain ⟨c10, c11, c12, c13, c14, c15, c16⟩ := L1_3.out
      have hl1 := lt_of_cell c10
      simp only at c10 c11 c12 c13 c14 c15 c16
      obtain ⟨c20, c21, c22, c23, c24, c25, c26⟩ := L2_3.out
      have hl2 := lt_of_cell c20
      simp only at c20 c21 c22 c23 c24 c25 c26
      go_wp2_with fail
      refine (HX.out _).mono ?_
      rintro e w5 ⟨rfl, hb5⟩
      have hs4 := hb5
      have L0_4 := Lib.hid (L0_3.out.below hs4)
      have L1_4 := Lib.hid (L1_3.out.below hs4)
      have L2_4 := Lib.hid (L2_3.out.below hs4)
      have HT4 := Lib.hid (nx HT3.out hs4)
      clear hs4
      clear c00 c01 c02 c03 c04 c05 c06 hl0 c10 c11 c12 c13 c14 c15 c16 hl1 c20 c21 c22 c23 c24 c25 c26 hl2
      obtain ⟨c00, c01, c02, c03, c04, c05, c06⟩ := L0_4.out
      have hl0 := lt_of_cell c00
      simp only at c00 c01 c02 c03 c04 c05 c06
      obtain ⟨c10, c11, c12, c13, c14, c15, c16⟩ := L1_4.out
      have hl1 := lt_of_cell c10
      simp only at c10 c11 c12 c13 c14 c15 c16
      obtain ⟨c20, c21, c22, c23, c24, c25, c26⟩ := L2_4.out
      have hl2 := lt_of_cell c20
      simp only at c20 c21 c22 c23 c24 c25 c26
      go_wp2_with fail
      refine (HY.out _).mono ?_
      rintro e w6 ⟨rfl, hb6⟩
      have hs5 := hb6
      have L0_5 := Lib.hid (L0_4.out.below hs5)
      have L1_5 := Lib.hid (L1_4.out.below hs5)
      have L2_5 := Lib.hid (L2_4.out.below hs5)
      have HT5 := Lib.hid (nx HT4.out hs5)
      clear hs5
      clear c00 c01 c02 c03 c04 c05 c06 hl0 c10 c11 c12 c13 c14 c15 c16 hl1 c20 c21 c22 c23 c24 c25 c26 hl2
      obtain ⟨c00, c01, c02, c03, c04, c05, c06⟩ := L0_5.out
      have hl0 := lt_of_cell c00
      simp only at c00 c01 c02 c03 c04 c05 c06
      obtain ⟨c10, c11, c12, c13, c14, c15, c16⟩ := L1_5.out
      have hl1 := lt_of_cell c10
      simp only at c10 c11 c12 c13 c14 c15 c16
      obtain ⟨c20, c21, c22, c23, c24, c25, c26⟩ := L2_5.out
      have hl2 := lt_of_cell c20
      simp only at c20 c21 c22 c23 c24 c25 c26
      have HEND := Lib.hid HT5.out
      go_wp2
      go_ret
      exact ⟨rfl, HEND.out⟩
end Go.Proofs.YtejplhhlecnagaaDoor
