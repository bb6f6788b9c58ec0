/-
  Exact laws of chapter 2 on lists of addresses: each law's walk. For every input of the law: it returns true, and the input reads as it did. Conditions: none but the statement's own.
-/
import Derived.Test.YtepjnahliojnjaaDoorLaw0
import Derived.Test.YtepjnahliojnjaaDoorListsB
import Derived.Test.YtepjnahliojnjaaDoorListS
import Derived.Test.YtepjnahliojnjaaDoorListA
import Derived.Test.YtepjnahliojnjaaDoorListA3
namespace Go.Proofs.YtepjnahliojnjaaDoor
open Go.ChangeShapes Go.WideShapes Go.ChangeAt Go.RowKit
open Go.ChangeMaps (open_string shut_string)

set_option maxRecDepth 100000 in
set_option maxHeartbeats 1000000 in
theorem fnExactFormatList_walk (a : Option Addr) (n c : Nat) (xs : List Adr) (w : World) (en : Env w) (hr : RdA w a n xs) (hn : n ≤ maxLen) (hx : ∀ x ∈ xs, SmallA maxLen x) :
    Calls Tryd.prog 14 #[.slice a n c] w fun e w' => e = .returned (.bool true) ∧ Below w.heap.size w w' := by
  go_enter Tryd.func14, Tryd.ntmps14
  go_wp2_with fail
  refine (szAddressS_any a n c xs 1048576 _ hr hn (by omega) (by omega) hx).mono ?_
  rintro e w1 ⟨r, rfl, hr1, hr2, hsz, hb1⟩
  by_cases hneg : r < 0
  · go_wp2
    go_ret
    exact ⟨rfl, hb1⟩
  · obtain ⟨hnl, hxl⟩ := hsz (by omega)
    have hlen := hr.1
    have HN : Hid (n ≤ 1073741824) := by show n ≤ _; omega
    have HX : Hid (∀ x ∈ xs, SmallA 1073741000 x) := fun x hx => by
      obtain ⟨h0, h1, h2⟩ := hxl x hx
      exact ⟨by omega, by omega, by omega⟩
    have HL2 : Hid (xs.length ≤ 1073741824) := by show _ ≤ _; omega
    have hmx : xs.length ≤ maxLen := by have := HL2.out; unfold maxLen; omega
    have HMX := Lib.hid hmx
    have HR := Lib.hid hr
    have hee : ((str (fmtL xs)).toList == (str (fmtL xs)).toList) = true := by simp
    have hne : ((str (fmtL xs)).toList != (str (fmtL xs)).toList) = false := by simp
    clear hsz hnl hxl hlen hx hr hmx
    go_wp2_with fail
    refine (toAddressS_any a n c xs _ (HR.out.below hb1) HN.out).mono ?_
    rintro e w2 ⟨a2, c2, rfl, ho2, hd2, hc2, hb2⟩
    have hb12 := nx hb1 hb2
    go_wp2_with fail
    refine (formatListS_any a2 xs.length c2 xs _ hd2 HL2.out HX.out).mono ?_
    rintro e w3 ⟨rfl, hb3⟩
    have hb13 := nx hb12 hb3
    go_wp2_with fail
    refine (toAddressS_any a n c xs _ (HR.out.below hb13) HN.out).mono ?_
    rintro e w4 ⟨a4, c4, rfl, ho4, hd4, hc4, hb4⟩
    have hb14 := nx hb13 hb4
    go_wp2_with fail
    refine (formatList_any a4 xs.length c4 xs _ (en.below hb14) hd4 HL2.out HX.out).mono ?_
    rintro e w5 ⟨rfl, hb5⟩
    have hb15 := nx hb14 hb5
    generalize str (fmtL xs) = ft at *
    go_wp2_with fail
    refine (toAddressS_any a n c xs _ (HR.out.below hb15) HN.out).mono ?_
    rintro e w6 ⟨a6, c6, rfl, ho6, hd6, hc6, hb6⟩
    have hb16 := nx hb15 hb6
    go_wp2_with fail
    refine (eqAddressS_any _ _ _ _ _ _ xs xs _ ((hd4.below hb5).below hb6) hd6 HMX.out HMX.out).mono ?_
    rintro e w7 ⟨rfl, hb7⟩
    rw [decide_eq_true (rfl : xs = xs)]
    go_wp2
    go_ret
    exact ⟨rfl, nx hb16 hb7⟩
theorem parseLR_len (l : List UInt8) : (parseLR l).length ≤ 10 := by
  unfold parseLR
  cases h : parseL l with
  | none => simp
  | some xs => exact (parseL_valid h).2
set_option maxRecDepth 100000 in
set_option maxHeartbeats 1000000 in
theorem fnExactParseList_walk (s : ByteArray) (w : World) (en : Env w) (hs : s.size ≤ maxLen) :
    Calls Tryd.prog 15 #[.string s] w fun e w' => e = .returned (.bool true) ∧ Below w.heap.size w w' := by
  have hm' := hs
  unfold maxLen at hm'
  by_cases hn : 1048576 < s.size
  · have hd : decide ((1048576 : Int) < s.size) = true := by simp; omega
    go_enter Tryd.func15, Tryd.ntmps15
    go_wp2
    go_ret
    exact ⟨rfl, Below.refl _ _⟩
  · have hd : decide ((1048576 : Int) < s.size) = false := by simp; omega
    have hlen := parseLR_len s.data.toList
    go_enter Tryd.func15, Tryd.ntmps15
    go_wp2_with fail
    refine (parseListS_any s _ (by omega)).mono ?_
    rintro e w1 ⟨v1, rfl, ho1, hb1⟩
    obtain ⟨a1, c1, rfl, hr1, hm1, _⟩ := ho1.read adrC_len
    go_wp2_with fail
    refine (parseList_any s _ (en.below hb1) (by omega)).mono ?_
    rintro e w2 ⟨v2, rfl, ho2, hb2⟩
    obtain ⟨a2, c2, rfl, hr2, hm2, _⟩ := ho2.read adrC_len
    generalize hX : parseLR s.data.toList = xs at *
    generalize hO : (parseL s.data.toList).isSome = ok at *
    have HX := Lib.hid hX
    have HO := Lib.hid hO
    have HR1 := Lib.hid hr1
    have HO2 := Lib.hid ho2
    have HM := Lib.hid hm1
    have hb12 := nx hb1 hb2
    clear hX hO ho1 hr1 ho2 hm1 hm2
    have hr2' := hr2
    have HR2 := Lib.hid hr2
    clear hr2 hr2'
    go_wp2_with fail
    refine (eqAddressS_any _ _ _ _ _ _ xs xs _ HR2.out (HR1.out.below hb2) HM.out HM.out).mono ?_
    rintro e w3 ⟨rfl, hb3⟩
    rw [decide_eq_true (rfl : xs = xs)]
    have hb13 := nx hb12 hb3
    have hz1 := hb1.size
    have hz2 := hb2.size
    have hz3 := hb3.size
    go_wp2_with fail
    refine (markAddressS_any w1.heap.size a2 xs.length c2 xs 1 _ (HO2.out.keep hb3) rfl (by omega) (by omega) (by omega)).mono ?_
    rintro e w4 ⟨rfl, ho4, hb4⟩
    have HR1' : Hid (RdA w4 a1 xs.length xs) := HR1.out.below ((hb2.trans (hb3.mono hz2)).trans hb4)
    have hb14 : Below w.heap.size w w4 := hb13.trans (hb4.mono hz1)
    have HM4 : Hid (RdA w4 a2 xs.length (marksA 1 xs.length)) := by
      obtain ⟨a', c', hv, hr, _⟩ := ho4.read adrC_len
      rw [marksA_len] at hv hr
      injection hv with e1 _ _
      rw [e1]; exact hr
    clear ho4
    go_wp2_with fail
    refine (heldAddressS_any a2 xs.length c2 1 _ HM4.out (by omega) (by omega)).mono ?_
    rintro e w5 ⟨rfl, hb5⟩
    have hb15 := nx hb14 hb5
    go_wp2_with fail
    refine (parseList_any s _ (en.below hb15) (by omega)).mono ?_
    rintro e w6 ⟨v6, rfl, ho6, hb6⟩
    rw [HX.out] at ho6
    rw [HO.out]
    obtain ⟨a6, c6, rfl, hr6, hm6, _⟩ := ho6.read adrC_len
    have HR6 := Lib.hid hr6
    have hb16 := nx hb15 hb6
    clear ho6 hr6
    go_wp2_with fail
    refine (eqAddressS_any _ _ _ _ _ _ xs xs _ HR6.out ((HR1'.out.below hb5).below hb6) HM.out HM.out).mono ?_
    rintro e w7 ⟨rfl, hb7⟩
    rw [decide_eq_true (rfl : xs = xs)]
    have hb17 := nx hb16 hb7
    go_wp2_with fail
    refine (heldAddressS_any a2 xs.length c2 1 _ (((HM4.out.below hb5).below hb6).below hb7) (by omega) (by omega)).mono ?_
    rintro e w8 ⟨rfl, hb8⟩
    go_wp2
    go_ret
    exact ⟨rfl, nx hb17 hb8⟩
end Go.Proofs.YtepjnahliojnjaaDoor
