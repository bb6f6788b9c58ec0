/-
  FnDateWeekday: the law's walk. For every input of the law: it returns true, and the input reads as it did. Conditions: none but the statement's own.
-/
import Derived.Test.YthcmdmjijdafoaaDoorLaw0g
import Derived.Test.YthcmdmjijdafoaaDoorDrawE
import Derived.Test.YthcmdmjijdafoaaDoorFmtT
import Derived.Test.YthcmdmjijdafoaaDoorRdP
namespace Go.Proofs.YthcmdmjijdafoaaDoor
open Go.ChangeShapes Go.WideShapes Go.ChangeAt Go.RowKit
open Go.ChangeMaps (open_string shut_string)

theorem emp_fw {b : ByteArray} (h : 0 < b.size) : b.toList.isEmpty = false := by
  rw [ByteArray.toList_eq, List.isEmpty_eq_false_iff]
  intro c
  have : b.data.toList.length = b.size := rfl
  rw [c] at this; simp at this; omega
theorem date_comma {D : Dat} (h : 3 < (str (dateT D)).size) : (str (dateT D))[3] = 44 := by
  rw [← getElem_list]
  have hw : (wdayT D).length = 3 := wdN_len _
  have : (str (dateT D)).data.toList = wdayT D ++ 44 :: 32 :: restT D := by rw [str_list]; rfl
  simp only [this]
  rw [List.getElem_append_right (by omega)]
  simp [hw]
set_option maxRecDepth 100000 in
set_option maxHeartbeats 4000000 in
theorem fnDateWeekday_walk (a : Option Addr) (n c : Nat) (w : World) (tab : FEnv w ∧ PEnv w) (hc : Code w a n) (hnc : n ≤ c) (hm : c ≤ maxLen) :
    Calls Tryd.prog 5 #[.slice a n c] w fun e w' => e = .returned (.bool true) ∧ Below w.heap.size w w' := by
  have HTAB := Lib.hid tab.1
  have HPEN := Lib.hid tab.2
  clear tab
  have hm' := hm
  unfold maxLen at hm'
  by_cases hn : 1048576 < n
  · have hd : decide ((1048576 : Int) < n) = true := by simp; omega
    go_enter Tryd.func5, Tryd.ntmps5
    go_wp2
    go_ret
    exact ⟨rfl, Below.refl _ _⟩
  · have hd : decide ((1048576 : Int) < n) = false := by simp; omega
    go_enter Tryd.func5, Tryd.ntmps5
    go_wp2_with fail
    refine (dDrawFormatDate_any a n c w hc hnc hm).mono ?_
    rintro e w1 ⟨D, rfl, _, hb1⟩
    have HB1 := Lib.hid hb1
    have H1 := Lib.hid (fun u t => formatDate_any D u t)
    have H2 := Lib.hid (fun u => formatDateS_any D u)
    by_cases hok : OkDate D
    · rw [dateF_ok hok] at H1 H2
      have hl := date_len hok.1
      have hsz : 30 ≤ (str (dateT D)).size ∧ (str (dateT D)).size ≤ 40 := by rw [str_size]; omega
      have HPA : Hid (∀ u, PEnv u → Calls Tryd.prog 19 #[.string ((str (dateT D)).extract 5 (str (dateT D)).size)] u fun e w' => e = .returned (.tuple #[datV D, .bool true]) ∧ Below u.heap.size u w') := fun u t => by
        have h9 := parseDate_any (str (restT D)) u t (by rw [str_size]; have := rest_len hok.1; omega)
        unfold DateRet at h9
        rw [str_list, parse_rest hok] at h9
        rw [ext_drop, str_list, date_drop]; exact h9
      have HPB : Hid (∀ u, PEnv u → Calls Tryd.prog 19 #[.string (lowS (str (dateT D)))] u fun e w' => e = .returned (.tuple #[datV D, .bool true]) ∧ Below u.heap.size u w') := fun u t => by
        have h9 := parseDate_any (str (low (dateT D))) u t (by rw [str_size]; unfold low; rw [List.length_map, ← str_size]; omega)
        unfold DateRet at h9
        rw [str_list, parse_low hok] at h9
        rw [show lowS (str (dateT D)) = str (low (dateT D)) by unfold lowS; rw [str_list]]; exact h9
      have HLW := Lib.hid (fun u => lowerText_any (str (dateT D)) u (by omega))
      have HWD := Lib.hid (fun u t => weekdayOf_any D u t)
      rw [wdayF_ok hok] at HWD
      have g3 : ((str (dateT D)).extract 0 3) = str (wdayT D) := by rw [ext_take, str_list, date_take]
      have b3 : ∀ h : 3 < (str (dateT D)).size, ((((str (dateT D))[3]'h).toNat : Int) == 44) = true := fun h => beq_t (date_comma h) (n := 44) rfl
      have g5 : ((str (wdayT D)).toList == (str (wdayT D)).toList) = true := by simp
      obtain ⟨y, m, d, h, mi, s, z⟩ := D
      unfold datV at *
      simp only at H1 H2 hsz HPA HPB HWD ⊢
      have HG3 := Lib.hid g3
      clear g3
      generalize lowS (str (dateT ⟨y, m, d, h, mi, s, z⟩)) = LX at *
      generalize str (wdayT ⟨y, m, d, h, mi, s, z⟩) = WT at *
      generalize str (dateT ⟨y, m, d, h, mi, s, z⟩) = X at *
      have g0 : X.toList.isEmpty = false := emp_fw (by omega)
      have g1 : (X.toList == X.toList) = true := by simp
      have g2 : (X.toList != X.toList) = false := by simp
      have HLB := Lib.hid (laid7_below y m d h mi s z 37 w1)
      have hx30 : (30 : Int) ≤ (X.size : Int) := by omega
      have hx40 : (X.size : Int) ≤ 40 := by omega
      clear hok hl hb1
      go_wp2_with fail
      have hc7 := laid7_new y m d h mi s z 37 w1
      generalize w1.alloc (.cells #[.int .i64 y, .int .i64 m, .int .i64 d, .int .i64 h, .int .i64 mi, .int .i64 s, .int .i64 z] 37) = w2 at *
      refine (H1.out _ (HTAB.out.below (nx HB1.out HLB.out))).mono ?_
      rintro e w3 ⟨rfl, hb3⟩
      have HC7 := Lib.hid hc7
      generalize hBB : w1.heap.size = BB at *
      have HB2 : Hid (Below w.heap.size w w2) := by
        have h9 := HLB.out
        rw [← hBB] at h9
        exact nx HB1.out h9
      obtain ⟨c0, c1, c2, c3, c4, c5, c6⟩ := HC7.out.below hb3
      simp only at c0 c1 c2 c3 c4 c5 c6
      clear hc7 hBB
      go_wp2_with fail
      refine (H2.out _).mono ?_
      rintro e w4 ⟨rfl, hb4⟩
      have HB4 := Lib.hid (nx HB2.out (nx hb3 hb4))
      have HC4 := Lib.hid (HC7.out.below (nx hb3 hb4))
      clear c0 c1 c2 c3 c4 c5 c6 hb3 hb4
      go_wp2_with fail
      refine (HPA.out _ (HPEN.out.below HB4.out)).mono ?_
      rintro e w5 ⟨rfl, hb5⟩
      have HB5 := Lib.hid ((nx HB4.out hb5).alloc (nx HB4.out hb5).size (.cells #[.int .i64 y, .int .i64 m, .int .i64 d, .int .i64 h, .int .i64 mi, .int .i64 s, .int .i64 z] 37))
      have HC5 := Lib.hid ((HC4.out.below hb5).below ((Below.refl _ _).alloc (Nat.le_refl _) (.cells #[.int .i64 y, .int .i64 m, .int .i64 d, .int .i64 h, .int .i64 mi, .int .i64 s, .int .i64 z] 37)))
      have HX5 := Lib.hid (laid7_new y m d h mi s z 37 w5)
      clear hb5
      go_wp2_with fail
      refine (HLW.out _).mono ?_
      rintro e w6 ⟨rfl, hb6⟩
      have HB6 := Lib.hid (nx HB5.out hb6)
      have HC6 := Lib.hid (HC5.out.below hb6)
      have HX6 := Lib.hid (HX5.out.below hb6)
      clear hb6
      go_wp2_with fail
      refine (HPB.out _ (HPEN.out.below HB6.out)).mono ?_
      rintro e w7 ⟨rfl, hb7⟩
      have HB8 := Lib.hid ((nx HB6.out hb7).alloc (nx HB6.out hb7).size (.cells #[.int .i64 y, .int .i64 m, .int .i64 d, .int .i64 h, .int .i64 mi, .int .i64 s, .int .i64 z] 37))
      have HC8 := Lib.hid ((HC6.out.below hb7).below ((Below.refl _ _).alloc (Nat.le_refl _) (.cells #[.int .i64 y, .int .i64 m, .int .i64 d, .int .i64 h, .int .i64 mi, .int .i64 s, .int .i64 z] 37)))
      have HX8 := Lib.hid ((HX6.out.below hb7).below ((Below.refl _ _).alloc (Nat.le_refl _) (.cells #[.int .i64 y, .int .i64 m, .int .i64 d, .int .i64 h, .int .i64 mi, .int .i64 s, .int .i64 z] 37)))
      have HY8 := Lib.hid (laid7_new y m d h mi s z 37 w7)
      clear hb7
      go_wp2_with fail
      generalize w5.heap.size = BX at *
      generalize w7.heap.size = BY at *
      generalize w7.alloc (.cells #[.int .i64 y, .int .i64 m, .int .i64 d, .int .i64 h, .int .i64 mi, .int .i64 s, .int .i64 z] 37) = w8 at *
      have hx3 : 3 < X.size := by omega
      have hx3i : (3 : Int) < (X.size : Int) := by omega
      have b3' := b3 hx3
      have g6 : ((X.extract 0 3).toList == WT.toList) = true := by rw [HG3.out]; simp
      clear b3
      have c0 := fun y9 : BelowT w8 => (HC8.out.below y9.below).1
      have c1 := fun y9 : BelowT w8 => (HC8.out.below y9.below).2.1
      have c2 := fun y9 : BelowT w8 => (HC8.out.below y9.below).2.2.1
      have c3 := fun y9 : BelowT w8 => (HC8.out.below y9.below).2.2.2.1
      have c4 := fun y9 : BelowT w8 => (HC8.out.below y9.below).2.2.2.2.1
      have c5 := fun y9 : BelowT w8 => (HC8.out.below y9.below).2.2.2.2.2.1
      have c6 := fun y9 : BelowT w8 => (HC8.out.below y9.below).2.2.2.2.2.2
      simp only at c0 c1 c2 c3 c4 c5 c6
      have x0 := fun y9 : BelowT w8 => (HX8.out.below y9.below).1
      have x1 := fun y9 : BelowT w8 => (HX8.out.below y9.below).2.1
      have x2 := fun y9 : BelowT w8 => (HX8.out.below y9.below).2.2.1
      have x3 := fun y9 : BelowT w8 => (HX8.out.below y9.below).2.2.2.1
      have x4 := fun y9 : BelowT w8 => (HX8.out.below y9.below).2.2.2.2.1
      have x5 := fun y9 : BelowT w8 => (HX8.out.below y9.below).2.2.2.2.2.1
      have x6 := fun y9 : BelowT w8 => (HX8.out.below y9.below).2.2.2.2.2.2
      simp only at x0 x1 x2 x3 x4 x5 x6
      have v0 := fun y9 : BelowT w8 => (HY8.out.below y9.below).1
      have v1 := fun y9 : BelowT w8 => (HY8.out.below y9.below).2.1
      have v2 := fun y9 : BelowT w8 => (HY8.out.below y9.below).2.2.1
      have v3 := fun y9 : BelowT w8 => (HY8.out.below y9.below).2.2.2.1
      have v4 := fun y9 : BelowT w8 => (HY8.out.below y9.below).2.2.2.2.1
      have v5 := fun y9 : BelowT w8 => (HY8.out.below y9.below).2.2.2.2.2.1
      have v6 := fun y9 : BelowT w8 => (HY8.out.below y9.below).2.2.2.2.2.2
      simp only at v0 v1 v2 v3 v4 v5 v6
      refine wp_region_quietB (W := w8) (by kernel_rfl) (by kernel_rfl) (Below.refl _ _) ?_
      repeat (go_big_quiet_step (first
        | (go_at_call 21; exact calls_belowT (HWD.out _ (HTAB.out.below (nx HB8.out (BelowT.below _))).wt))))
      refine wpQuiet_nil ?_
      intro wz hwz
      obtain ⟨x9, rfl⟩ := hwz
      have hb9 := nx HB8.out x9.below
      generalize x9.val = w9 at *
      go_wp2
      go_ret
      exact ⟨rfl, hb9⟩
    · rw [dateF_no hok] at H1 H2
      obtain ⟨y, m, d, h, mi, s, z⟩ := D
      unfold datV at *
      simp only at H1 H2 ⊢
      have HLB := Lib.hid (laid7_below y m d h mi s z 37 w1)
      have e0 : str [] = ⟨#[]⟩ := rfl
      rw [e0] at H1 H2
      clear hok hb1
      go_wp2_with fail
      have hc7 := laid7_new y m d h mi s z 37 w1
      generalize w1.alloc (.cells #[.int .i64 y, .int .i64 m, .int .i64 d, .int .i64 h, .int .i64 mi, .int .i64 s, .int .i64 z] 37) = w2 at *
      refine (H1.out _ (HTAB.out.below (nx HB1.out HLB.out))).mono ?_
      rintro e w3 ⟨rfl, hb3⟩
      have HC7 := Lib.hid hc7
      generalize hBB : w1.heap.size = BB at *
      obtain ⟨c0, c1, c2, c3, c4, c5, c6⟩ := HC7.out.below hb3
      simp only at c0 c1 c2 c3 c4 c5 c6
      clear hc7
      go_wp2_with fail
      refine (H2.out _).mono ?_
      rintro e w4 ⟨rfl, hb4⟩
      have h24 := nx hb3 hb4
      obtain ⟨d0, d1, d2, d3, d4, d5, d6⟩ := HC7.out.below h24
      simp only at d0 d1 d2 d3 d4 d5 d6
      clear c0 c1 c2 c3 c4 c5 c6
      have HB4 : Hid (Below w.heap.size w w4) := by
        have h9 := HLB.out
        rw [← hBB] at h9
        exact nx HB1.out (nx h9 h24)
      go_wp2_with fail
      refine (H2.out _).mono ?_
      rintro e w5 ⟨rfl, hb5⟩
      go_wp2
      go_ret
      exact ⟨rfl, nx HB4.out hb5⟩
end Go.Proofs.YthcmdmjijdafoaaDoor
