/-
  Laws of chapter 2 on lists of addresses that are read back: each law's walk. For every input of the law: it returns true, and the input reads as it did. Conditions: none but the statement's own.
-/
import Derived.Test.YtepjnahliojnjaaGreatDoorLaw2
import Derived.Test.YtepjnahliojnjaaGreatDoorDrawA2
import Derived.Test.YtepjnahliojnjaaGreatDoorMwA
import Derived.Test.YtepjnahliojnjaaGreatDoorListA
import Derived.Test.YtepjnahliojnjaaGreatDoorListA3
import Derived.Test.YtepjnahliojnjaaGreatDoorListS
namespace Go.Proofs.YtepjnahliojnjaaGreatDoor
open Go.ChangeShapes Go.WideShapes Go.ChangeAt Go.RowKit
open Go.ChangeMaps (open_string shut_string)

theorem fmtL_size (xs : List Adr) : (str (fmtL xs)).size ≤ 200 := by
  rw [str_size]
  by_cases h : fmtL xs = []
  · rw [h]; simp
  · obtain ⟨_, _, h3, h4, _⟩ := fmtL_ne h
    rw [h4]; exact h3
set_option maxRecDepth 100000 in
set_option maxHeartbeats 1000000 in
theorem drawParseList_any (a : Option Addr) (n c : Nat) (w : World) (hc : Code w a n) (hnc : n ≤ c) (hm : c ≤ maxLen) :
    Calls Tryz.prog 9 #[.slice a n c] w (DrawnStr 300 w) := by
  go_enter Tryz.func9, Tryz.ntmps9
  go_wp2_with fail
  refine (open_any a n c w hc hnc hm).mono ?_
  rintro e w1 ⟨R, rfl, hR, hr1, hb1⟩
  go_wp2_with fail
  refine (l2List_any R 0 w1 hr1 (by omega)).mono ?_
  rintro e w2 ⟨v, xs, p2, rfl, ho2, hl2, hx2, f2, k2, hr2, ht2⟩
  obtain ⟨a2, c2, rfl, hd2, _, _⟩ := ho2.read adrC_len
  go_wp2_with fail
  refine (formatListS_any a2 xs.length c2 xs _ hd2 (by omega) (fun x hx => (hx2 x hx).up (by omega))).mono ?_
  rintro e w3 ⟨rfl, hb3⟩
  have hfs := fmtL_size xs
  generalize str (fmtL xs) = ft at *
  have ht3 : Touch R w1 w3 := ht2.trans (Touch.of_below hb3)
  go_wp2_with fail
  refine (bend_lit R p2 5 1 _ _ ft w3 (hr2.below hb3) (by omega) (by omega) (by omega) (by omega) (by omega) (by decide)).mono ?_
  rintro e w5 ⟨s5, p5, rfl, g5, f5, k5, hr5, ht5⟩
  go_wp2
  go_ret
  exact ⟨s5, rfl, by omega, after_open hb1 hR (ht3.trans ht5)⟩
theorem parseLR_none {l : List UInt8} (h : (parseL l).isSome = false) : parseLR l = [] := by
  unfold parseLR; cases hp : parseL l with
  | none => rfl
  | some a => rw [hp] at h; cases h
theorem parseLR_small (l : List UInt8) : (parseLR l).length ≤ 10 ∧ ∀ x ∈ parseLR l, SmallA 1073741000 x := by
  unfold parseLR
  cases h : parseL l with
  | none => exact ⟨by simp, fun x hx => by simp at hx⟩
  | some xs =>
    obtain ⟨h1, h2⟩ := parseL_valid h
    exact ⟨h2, fun x hx => (isAdr_small (h1 x hx)).up (by omega)⟩
theorem parseL_back {xs : List Adr} (h : fmtL xs ≠ []) : parseLR (str (fmtL xs)).data.toList = xs ∧ (parseL (str (fmtL xs)).data.toList).isSome = true := by
  rw [str_list]; unfold parseLR; rw [parse_list h]; exact ⟨rfl, rfl⟩
set_option maxRecDepth 100000 in
set_option maxHeartbeats 2000000 in
theorem fnListText_walk (a : Option Addr) (n c : Nat) (a' : Option Addr) (n' c' : Nat) (w : World) (en : Env w) (hc : Code w a n) (hnc : n ≤ c) (hm : c ≤ maxLen) (hc' : Code w a' n') (hnc' : n' ≤ c') (hm' : c' ≤ maxLen) :
    Calls Tryz.prog 3 #[.slice a n c, .slice a' n' c'] w fun e w' => e = .returned (.bool true) ∧ Below w.heap.size w w' := by
  have hm1 := hm
  have hm2 := hm'
  unfold maxLen at hm1 hm2
  by_cases hn : 1048576 < n
  · have hd : decide ((1048576 : Int) < n) = true := by simp; omega
    go_enter Tryz.func3, Tryz.ntmps3
    go_wp2
    go_ret
    exact ⟨rfl, Below.refl _ _⟩
  · have hd : decide ((1048576 : Int) < n) = false := by simp; omega
    by_cases hn' : 1048576 < n'
    · have hd' : decide ((1048576 : Int) < n') = true := by simp; omega
      go_enter Tryz.func3, Tryz.ntmps3
      go_wp2
      go_ret
      exact ⟨rfl, Below.refl _ _⟩
    · have hd' : decide ((1048576 : Int) < n') = false := by simp; omega
      have HCM := Lib.hid hc'
      clear hc'
      go_enter Tryz.func3, Tryz.ntmps3
      go_wp2_with fail
      refine (drawFormatList_any a n c w hc hnc hm).mono ?_
      rintro e w1 ⟨v, xs, rfl, ho, hl4, hx4, hb1⟩
      obtain ⟨a1, c1, rfl, hr1, hmx, _⟩ := ho.read adrC_len
      have HR := Lib.hid hr1
      have HX : Hid (∀ x ∈ xs, SmallA 1073741000 x) := fun x hx => (hx4 x hx).up (by omega)
      clear ho hr1 hx4
      go_wp2_with fail
      refine (formatList_any a1 xs.length c1 xs _ (en.below hb1) HR.out (by omega) HX.out).mono ?_
      rintro e w2 ⟨rfl, hb2⟩
      have hb12 := nx hb1 hb2
      have hee : ((str (fmtL xs)).toList == (str (fmtL xs)).toList) = true := by simp
      have hne : ((str (fmtL xs)).toList != (str (fmtL xs)).toList) = false := by simp
      go_wp2_with fail
      refine (formatListS_any a1 xs.length c1 xs _ (HR.out.below hb2) (by omega) HX.out).mono ?_
      rintro e w3 ⟨rfl, hb3⟩
      have hb13 := nx hb12 hb3
      have HR3 : Hid (RdA w3 a1 xs.length xs) := (HR.out.below hb2).below hb3
      have hfz := fmtL_size xs
      have HBK : Hid (fmtL xs ≠ [] → parseLR (str (fmtL xs)).data.toList = xs ∧ (parseL (str (fmtL xs)).data.toList).isSome = true) := parseL_back
      have HE : Hid (fmtL xs = [] ↔ str (fmtL xs) = ⟨#[]⟩) := ⟨fun h => by rw [h]; rfl, fun h => by rw [← str_list (fmtL xs), h]⟩
      generalize hFT : str (fmtL xs) = ft at *
      clear hFT hb1 hb2 hb12 hb3
      have HB13 := Lib.hid hb13
      clear hb13
      by_cases hf : fmtL xs = []
      all_goals first
        | (have hft : ft = ⟨#[]⟩ := HE.out.1 hf
           have HFE : Hid (ft = ⟨#[]⟩) := hft
           have he : ft.toList.isEmpty = true := empty_t (by rw [hft]; rfl)
           have HB := HB13
           clear hf hft)
        | (have he : ft.toList.isEmpty = false := empty_f (by
             have hz : (fmtL xs).length ≠ 0 := fun h => hf (List.length_eq_zero_iff.1 h)
             rcases Nat.eq_zero_or_pos ft.size with h | h
             · exact absurd (HE.out.2 (bytes_ext (by have := size_list ft; rw [h] at this; rw [List.length_eq_zero_iff.1 this]))) hf
             · exact h)
           have HPB : Hid (parseLR ft.data.toList = xs ∧ (parseL ft.data.toList).isSome = true) := HBK.out hf
           clear hf
           go_wp2_with fail
           refine (parseList_any ft _ (en.below HB13.out) (by omega)).mono ?_
           rintro e w4 ⟨v4, rfl, ho4, hb4⟩
           rw [HPB.out.2]
           rw [HPB.out.1] at ho4
           obtain ⟨a4, c4, rfl, hr4, _, _⟩ := ho4.read adrC_len
           have HR4 := Lib.hid hr4
           clear ho4 hr4
           go_wp2_with fail
           refine (mwAddresses_any a4 a1 xs.length c4 xs.length c1 xs xs _ HR4.out (HR3.out.below hb4) hmx hmx).mono ?_
           rintro e w5 ⟨rfl, hb5⟩
           rw [decide_eq_true (rfl : xs = xs)]
           have HB := Lib.hid (nx (nx HB13.out hb4) hb5)
           clear hb4 hb5)
      all_goals
        clear HB13
        go_wp2_with fail
        refine (drawParseList_any a' n' c' _ (HCM.out.below HB.out) hnc' hm').mono ?_
        rintro e w6 ⟨t, rfl, htz, hb6⟩
        have HB6 := Lib.hid (nx HB.out hb6)
        clear hb6
        go_wp2_with fail
        refine (parseList_any t _ (en.below HB6.out) (by omega)).mono ?_
        rintro e w7 ⟨v7, rfl, ho7, hb7⟩
        have hsm := parseLR_small t.data.toList
        have HN := Lib.hid (parseLR_none (l := t.data.toList))
        have hsome : (parseL t.data.toList).isSome = true → parseL t.data.toList = some (parseLR t.data.toList) := fun h => by
          unfold parseLR; cases hp : parseL t.data.toList with
          | none => rw [hp] at h; cases h
          | some q => rfl
        clear hsome
        generalize hys : parseLR t.data.toList = ys at *
        generalize hok : (parseL t.data.toList).isSome = ok at *
        have HYS := Lib.hid hys
        have HOK := Lib.hid hok
        obtain ⟨a7, c7, rfl, hr7, hm7, _⟩ := ho7.read adrC_len
        have HR7 := Lib.hid hr7
        obtain ⟨hl10, hys4⟩ := hsm
        have HY4 := Lib.hid hys4
        have HB7 := Lib.hid (nx HB6.out hb7)
        clear ho7 hr7 hys hok hys4 hb7
        go_wp2_with fail
        refine (parseListS_any t _ (by omega)).mono ?_
        rintro e w8 ⟨v8, rfl, ho8, hb8⟩
        rw [HOK.out]
        rw [HYS.out] at ho8
        obtain ⟨a8, c8, rfl, hr8, _, _⟩ := ho8.read adrC_len
        have HR8 := Lib.hid hr8
        have HR78 : Hid (RdA w8 a7 ys.length ys) := HR7.out.below hb8
        have HB8 := Lib.hid (nx HB7.out hb8)
        clear ho8 hr8 hb8
        go_wp2_with fail
        refine (mwAddresses_any a7 a8 ys.length c7 ys.length c8 ys ys _ HR78.out HR8.out hm7 hm7).mono ?_
        rintro e w9 ⟨rfl, hb9⟩
        rw [decide_eq_true (rfl : ys = ys)]
        have HR79 : Hid (RdA w9 a7 ys.length ys) := HR78.out.below hb9
        have HB9 := Lib.hid (nx HB8.out hb9)
        clear hb9
        cases ok
        all_goals
          go_wp2_with fail
          refine (formatList_any a7 ys.length c7 ys _ (en.below HB9.out) HR79.out (by omega) HY4.out).mono ?_
          rintro e w10 ⟨rfl, hb10⟩
          have hgz := fmtL_size ys
          have HBK2 : Hid (fmtL ys ≠ [] → parseLR (str (fmtL ys)).data.toList = ys ∧ (parseL (str (fmtL ys)).data.toList).isSome = true) := parseL_back
          have HE2 : Hid (fmtL ys = [] ↔ str (fmtL ys) = ⟨#[]⟩) := ⟨fun h => by rw [h]; rfl, fun h => by rw [← str_list (fmtL ys), h]⟩
          generalize hGT : str (fmtL ys) = gt at *
          have HRX : Hid (RdA w10 a7 ys.length ys) := HR79.out.below hb10
          have HB10 := Lib.hid (nx HB9.out hb10)
          clear hGT hb10
          go_wp2_with fail
          refine (parseList_any gt _ (en.below HB10.out) (by omega)).mono ?_
          rintro e w11 ⟨v11, rfl, ho11, hb11⟩
          have HB11 := Lib.hid (nx HB10.out hb11)
          have HRY : Hid (RdA w11 a7 ys.length ys) := HRX.out.below hb11
          clear hb11
          by_cases hg : fmtL ys = []
          · have hgt : gt = ⟨#[]⟩ := HE2.out.1 hg
            have he2 : gt.toList.isEmpty = true := empty_t (by rw [hgt]; rfl)
            generalize (parseL gt.data.toList).isSome = b11 at *
            clear hg hgt
            go_wp2
            go_ret
            exact ⟨rfl, HB11.out⟩
          · have he2 : gt.toList.isEmpty = false := empty_f (by
              rcases Nat.eq_zero_or_pos gt.size with h | h
              · exact absurd (HE2.out.2 (bytes_ext (by have := size_list gt; rw [h] at this; rw [List.length_eq_zero_iff.1 this]))) hg
              · exact h)
            have HPB2 := Lib.hid (HBK2.out hg)
            rw [HPB2.out.2]
            rw [HPB2.out.1] at ho11
            obtain ⟨a11, c11, rfl, hr11, _, _⟩ := ho11.read adrC_len
            have HR11 := Lib.hid hr11
            clear hg ho11 hr11
            first
              | (go_wp2
                 go_ret
                 exact ⟨rfl, HB11.out⟩)
              | (go_wp2_with fail
                 refine (mwAddresses_any a11 a7 ys.length c11 ys.length c7 ys ys _ HR11.out HRY.out hm7 hm7).mono ?_
                 rintro e w12 ⟨rfl, hb12⟩
                 rw [decide_eq_true (rfl : ys = ys)]
                 go_wp2
                 go_ret
                 exact ⟨rfl, nx HB11.out hb12⟩)
end Go.Proofs.YtepjnahliojnjaaGreatDoor
