/-
  The exact laws of chapter 3 on lists read and values put: each law's walk. For every input of the law: it returns true, and the input reads as it did. Conditions: none but the statement's own.
-/
import Derived.Test.YtfjpajeipihlaabDoorLaw0
import Derived.Test.YtfjpajeipihlaabDoorLawL
import Derived.Test.YtfjpajeipihlaabDoorMarkF
import Derived.Test.YtfjpajeipihlaabDoorMarkS
import Derived.Test.YtfjpajeipihlaabDoorReadT
import Derived.Test.YtfjpajeipihlaabDoorPutF
namespace Go.Proofs.YtfjpajeipihlaabDoor
open Go.ChangeShapes Go.WideShapes Go.ChangeAt Go.RowKit
open Go.ChangeMaps (open_string shut_string)

theorem rdF_of_own {B n : Nat} {a : Option Addr} {c : Nat} {xs : List Fld} {u : World} (h : OwnR n 2 fldC B (.slice a xs.length c) xs u) : RdR 2 fldC u a xs.length xs := by
  obtain ⟨_, _, hv, hr, _, _⟩ := h.read fldC_len
  injection hv with h1 _ h3
  subst h1 h3
  exact hr
theorem rdL_of_ownS {B : Nat} {a : Option Addr} {c : Nat} {xs : List (List UInt8)} {u : World} (h : OwnL B (.slice a xs.length c) xs u) : RdL u a xs.length xs := by
  obtain ⟨_, _, hv, hr, _⟩ := h.read
  injection hv with h1 _ h3
  subst h1 h3
  exact hr
theorem own_cap {B : Nat} {a : Option Addr} {n c : Nat} {xs : List (List UInt8)} {u : World} (h : OwnL B (.slice a n c) xs u) : xs.length ≤ c ∧ c ≤ maxLen := by
  rcases h.2 with ⟨hv, h0⟩ | ⟨g, cap, cur, hv, _, _, hq1, hq2, _⟩
  · injection hv with _ _ h3; unfold maxLen; omega
  · injection hv with _ _ h3; omega
theorem readFs_len (xs : List (List UInt8)) : ((readFs xs).getD []).length ≤ 20 := by
  cases h : readFs xs with
  | none => simp
  | some fs => exact (fldsOk_iff.1 (readFs_valid h)).2
set_option maxRecDepth 100000 in
set_option maxHeartbeats 4000000 in
theorem fnExactReadFields_walk (a : Option Addr) (n c : Nat) (xs : List (List UInt8)) (w : World) (hr : RdL w a n xs) (hn : n ≤ maxLen) (hx : ∀ j, (hj : j < xs.length) → xs[j].length ≤ maxLen) :
    Calls Tryd.prog 7 #[.slice a n c] w fun e w' => e = .returned (.bool true) ∧ Below w.heap.size w w' := by
  go_enter Tryd.func7, Tryd.ntmps7
  go_wp2_with fail
  refine (szStringS_sum a n c xs 1048576 w hr hn (by omega) (by omega) hx).mono ?_
  rintro e w1 ⟨r, rfl, hr1, hr2, hsz, rfl⟩
  by_cases hneg : r < 0
  · clear hsz
    go_wp2
    go_ret
    exact ⟨rfl, Below.refl _ _⟩
  have hln := hsz (by omega)
  have hlen := hr.1
  have HN1 : Hid (n ≤ 1073741824) := by show _ ≤ _; omega
  have HX1 : Hid (xs.length ≤ 1073741824) := by show _ ≤ _; omega
  have HX2 : Hid (xs.length ≤ maxLen) := by show _ ≤ _; unfold maxLen; omega
  have HT : Hid (xs.flatten.length ≤ 1073741000) := by show _ ≤ _; omega
  have hfl : 1 + xs.length ≤ 1073741824 := by omega
  have HD := Lib.hid hr
  have hyl := readFs_len xs
  have HF1 := Lib.hid (fun (a' : Option Addr) (c' : Nat) (u : World) (h : RdL u a' xs.length xs) (h1 : xs.length ≤ c') (h2 : c' ≤ maxLen) => readFields_any a' xs.length c' xs u h h1 h2 HX1.out HT.out)
  have HF2 := Lib.hid (fun (a' : Option Addr) (c' : Nat) (u : World) (h : RdL u a' xs.length xs) => readFieldsS_any a' xs.length c' xs u h HX1.out HT.out)
  unfold ReadRet at HF1 HF2
  generalize (readFs xs).isSome = ok at *
  generalize (readFs xs).getD [] = ys at *
  have HM : Hid (ys.length ≤ maxLen) := by show _ ≤ _; unfold maxLen; omega
  have e0 : (ok != ok) = false := by cases ok <;> rfl
  clear hsz hln hx hr hlen hn
  go_wp2_with fail
  refine (toStringS_any a n c xs _ HD.out HN1.out).mono ?_
  rintro e w2 ⟨a2, c2, rfl, _, hd2, hb2⟩
  go_wp2_with fail
  refine (HF2.out a2 c2 _ hd2).mono ?_
  rintro e w3 ⟨v3, rfl, ho3, hb3⟩
  obtain ⟨a3, c3, rfl, hr3, _, _⟩ := ho3.read fldC_len
  have hB3 := nx hb2 hb3
  have HR3 := Lib.hid hr3
  have HO3 := Lib.hid ho3
  have HL3 := Lib.hid (OwnR.lt ho3)
  clear hd2 ho3 hr3
  go_wp2_with fail
  refine (toStringS_any a n c xs _ (HD.out.below hB3) HN1.out).mono ?_
  rintro e w4 ⟨a4, c4, rfl, ho4, hd4, hb4⟩
  have hB4 := nx hB3 hb4
  have HO4 := Lib.hid ho4
  have HD4 := Lib.hid hd4
  have HL4 := Lib.hid (OwnL.lt ho4)
  have HC4 := Lib.hid (own_cap ho4)
  clear ho4 hd4
  go_wp2_with fail
  refine (HF1.out a4 c4 _ HD4.out HC4.out.1 HC4.out.2).mono ?_
  rintro e w5 ⟨v5, rfl, ho5, hb5⟩
  obtain ⟨a5, c5, rfl, hr5, _, _⟩ := ho5.read fldC_len
  have hB5 := nx hB4 hb5
  have HO5 := Lib.hid ho5
  have HR5 := Lib.hid hr5
  have HL5 := Lib.hid (OwnR.lt ho5)
  have h35 := nx hb4 hb5
  clear ho5 hr5
  cases ok
  all_goals
    go_wp2_with fail
    refine (eqFieldS_any a5 a3 _ c5 _ c3 ys ys _ HR5.out (HR3.out.below h35) HM.out HM.out).mono ?_
    rintro e w6 ⟨rfl, hb6⟩
    rw [decide_eq_true (rfl : ys = ys)]
    have hB6 := nx hB5 hb6
    go_wp2_with fail
    refine (toStringS_any a n c xs _ (HD.out.below hB6) HN1.out).mono ?_
    rintro e w7 ⟨a7, c7, rfl, _, hd7, hb7⟩
    have hB7 := nx hB6 hb7
    go_wp2_with fail
    refine (eqStringS_any a4 a7 _ c4 _ c7 xs xs _ (HD4.out.below (nx (nx hb5 hb6) hb7)) hd7 HX2.out HX2.out).mono ?_
    rintro e w8 ⟨rfl, hb8⟩
    rw [decide_eq_true (rfl : xs = xs)]
    have hB8 := nx hB7 hb8
    have h58 := nx (nx hb6 hb7) hb8
    have h48 := nx hb5 h58
    have h38 := nx hb4 h48
    have hs3 := hb3.size
    have hs4 := hb4.size
    have hs5 := hb5.size
    have hs8 := h58.size
    have hB3z := hB3.size
    have hB4z := hB4.size
    have HO48 := Lib.hid (HO4.out.keep h48)
    have HO58 := Lib.hid (HO5.out.keep h58)
    have HO38 := Lib.hid (HO3.out.keep h38)
    clear hd7
    go_wp2_with fail
    refine (markStringS_only w3.heap.size a4 _ c4 xs 1 _ HO48.out rfl (by omega) hfl).mono ?_
    rintro e w9 ⟨rfl, _, hn9⟩
    have hB9 := hB8.trans (hn9.below (fun g hg => by have := (HL4.out g hg).1; omega) hB8.size)
    have HO59 := Lib.hid (HO58.out.only hn9 (fun g hg e => by have := (HL5.out g hg).1; have := (HL4.out g e).2; omega))
    have HO39 := Lib.hid (HO38.out.only hn9 (fun g hg e => by have := (HL3.out g hg).2; have := (HL4.out g e).1; omega))
    have hneg9 : decide (((1 + xs.length : Nat) : Int) < 0) = false := by simp; omega
    clear hn9
    go_wp2_with fail
    refine (eqFieldS_any a5 a3 _ c5 _ c3 ys ys _ (rdF_of_own HO59.out) (rdF_of_own HO39.out) HM.out HM.out).mono ?_
    rintro e w10 ⟨rfl, hb10⟩
    rw [decide_eq_true (rfl : ys = ys)]
    have hB10 := nx hB9 hb10
    have HO510 := Lib.hid (HO59.out.keep hb10)
    have HO310 := Lib.hid (HO39.out.keep hb10)
    go_wp2_with fail
    refine (markFieldS_any w4.heap.size a5 _ c5 ys 1 _ HO510.out rfl (by omega) (by omega)).mono ?_
    rintro e w11 ⟨rfl, ho11, hn11⟩
    have hB11 := hB10.trans (hn11.below (fun g hg => by have := (HL5.out g hg).1; omega) hB10.size)
    have ho11' : OwnF w4.heap.size (.slice a5 (marksF 1 ys.length).length c5) (marksF 1 ys.length) w11 := by rw [marksF_len]; exact ho11
    have hd11 := rdF_of_own ho11'
    rw [marksF_len] at hd11
    have HD11 := Lib.hid hd11
    have HD311 := Lib.hid (rdF_of_own (HO310.out.only hn11 (fun g hg e => by have := (HL3.out g hg).2; have := (HL5.out g e).1; omega)))
    clear ho11 hn11 ho11' hd11
    go_wp2_with fail
    refine (heldFieldS_any a5 _ c5 1 _ HD11.out (by omega) (by omega)).mono ?_
    rintro e w12 ⟨rfl, hb12⟩
    have hB12 := nx hB11 hb12
    go_wp2_with fail
    refine (toStringS_any a n c xs _ (HD.out.below hB12) HN1.out).mono ?_
    rintro e w13 ⟨a13, c13, rfl, ho13, hd13, hb13⟩
    have hB13 := nx hB12 hb13
    have HC13 := Lib.hid (own_cap ho13)
    clear ho13
    go_wp2_with fail
    refine (HF1.out a13 c13 _ hd13 HC13.out.1 HC13.out.2).mono ?_
    rintro e w14 ⟨v14, rfl, ho14, hb14⟩
    obtain ⟨a14, c14, rfl, hd14, _, _⟩ := ho14.read fldC_len
    have hB14 := nx hB13 hb14
    have h1114 := nx (nx hb12 hb13) hb14
    clear hd13 ho14
    go_wp2_with fail
    refine (eqFieldS_any a14 a3 _ c14 _ c3 ys ys _ hd14 (HD311.out.below h1114) HM.out HM.out).mono ?_
    rintro e w15 ⟨rfl, hb15⟩
    rw [decide_eq_true (rfl : ys = ys)]
    have hB15 := nx hB14 hb15
    go_wp2_with fail
    refine (heldFieldS_any a5 _ c5 1 _ (HD11.out.below (nx h1114 hb15)) (by omega) (by omega)).mono ?_
    rintro e w16 ⟨rfl, hb16⟩
    go_wp2
    go_ret
    exact ⟨rfl, nx hB15 hb16⟩
end Go.Proofs.YtfjpajeipihlaabDoor
