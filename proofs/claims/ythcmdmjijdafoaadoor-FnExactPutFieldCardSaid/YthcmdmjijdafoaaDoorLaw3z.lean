/-
  The exact laws of chapter 3 on lists read and values put: each law's walk. For every input of the law: it returns true, and the input reads as it did. Conditions: none but the statement's own.
-/
import Derived.Test.YthcmdmjijdafoaaDoorLaw0
import Derived.Test.YthcmdmjijdafoaaDoorMarkF
import Derived.Test.YthcmdmjijdafoaaDoorPutF
import Derived.Test.YthcmdmjijdafoaaDoorFldE
import Derived.Test.YthcmdmjijdafoaaDoorGrow
namespace Go.Proofs.YthcmdmjijdafoaaDoor
open Go.ChangeShapes Go.WideShapes Go.ChangeAt Go.RowKit
open Go.ChangeMaps (open_string shut_string)

theorem rdF_of_ownz {B n : Nat} {a : Option Addr} {c : Nat} {xs : List Fld} {u : World} (h : OwnR n 2 fldC B (.slice a xs.length c) xs u) : RdR 2 fldC u a xs.length xs := by
  obtain ⟨_, _, hv, hr, _, _⟩ := h.read fldC_len
  injection hv with h1 _ h3
  subst h1 h3
  exact hr
theorem putF_len (xs : List Fld) (f : Fld) : ((putF xs f).getD []).length ≤ 20 := by
  cases h : putF xs f with
  | none => simp
  | some ys => exact (fldsOk_iff.1 (putF_is h).1.ok).2
set_option maxRecDepth 100000 in
set_option maxHeartbeats 4000000 in
theorem fnExactPutField_walk (a : Option Addr) (n c : Nat) (xs : List Fld) (fn fv : ByteArray) (w : World) (hr : RdF w a n xs) (hn : n ≤ maxLen) (hx : ∀ x ∈ xs, SmallF maxLen x) (hfn : fn.size ≤ maxLen) (hfv : fv.size ≤ maxLen) :
    Calls Tryd.prog 6 #[.slice a n c, .agg #[.string fn, .string fv]] w fun e w' => e = .returned (.bool true) ∧ Below w.heap.size w w' := by
  have hbA : Below w.heap.size w (w.alloc (.cells #[.string fn, .string fv] 44)) := (Below.refl _ _).alloc (Nat.le_refl _) _
  have HK : Hid (∀ w', Below (w.alloc (.cells #[.string fn, .string fv] 44)).heap.size (w.alloc (.cells #[.string fn, .string fv] 44)) w' → (∀ i, w'.cell? ⟨w.heap.size, i, none⟩ = #[Value.string fn, .string fv][i]?) ∧ Below w.heap.size w w') := fun w' h => ⟨(fresh1 h).1, nx hbA h⟩
  have hrA := hr.below hbA
  clear hbA
  go_enter Tryd.func6, Tryd.ntmps6
  go_wp2_with fail
  refine (szFieldS_any a n c xs 1048576 _ hrA hn (by omega) (by omega) hx).mono ?_
  rintro e w1 ⟨r, rfl, hr1, hr2, hsz, hb1⟩
  obtain ⟨d1, _⟩ := HK.out _ hb1
  by_cases hneg : r < 0
  · clear hsz
    go_wp2
    go_ret
    exact ⟨rfl, (HK.out _ hb1).2⟩
  obtain ⟨hln, hsm⟩ := hsz (by omega)
  clear hsz
  go_wp2_with fail
  refine (szField_any fn fv r _ hfn hfv (by omega) (by omega)).mono ?_
  rintro e w1' ⟨r', rfl, hr1', hr2', hsz', hb1'⟩
  have hb1 := nx hb1 hb1'
  obtain ⟨d1', _⟩ := HK.out _ hb1
  by_cases hneg' : r' < 0
  · clear hsz'
    go_wp2
    go_ret
    exact ⟨rfl, (HK.out _ hb1).2⟩
  obtain ⟨z0, z1⟩ := hsz' (by omega)
  have HSM : Hid (∀ x ∈ xs, SmallF 1073741000 x) := fun x hx => (hsm x hx).up (by omega)
  have HSF : Hid (SmallF 1073741000 (fld fn fv)) := ⟨by show fn.data.toList.length ≤ _; rw [size_list]; omega, by show fv.data.toList.length ≤ _; rw [size_list]; omega⟩
  have hlen := hr.1
  have HN1 : Hid (n ≤ 1073741824) := by show _ ≤ _; omega
  have HX1 : Hid (xs.length ≤ 1073741824) := by show _ ≤ _; omega
  have HX2 : Hid (xs.length ≤ maxLen) := by show _ ≤ _; unfold maxLen; omega
  have hfl : 1 + 2 * xs.length ≤ 1073741824 := by omega
  have HD := Lib.hid hrA
  have hyl := putF_len xs (fld fn fv)
  have HF1 : Hid (∀ (B0 : Nat) (v0 : Value) (u : World), OwnF B0 v0 xs u → Calls Tryd.prog 10 #[v0, .agg #[.string fn, .string fv]] u (PutRet xs (fld fn fv) u)) := fun B0 v0 u h => by
    have := putField_any B0 v0 xs (fld fn fv) u h HX1.out HSM.out HSF.out
    rw [show str (fld fn fv).name = fn from str_of fn, show str (fld fn fv).val = fv from str_of fv] at this; exact this
  have HF2 : Hid (∀ (B0 : Nat) (v0 : Value) (u : World), OwnF B0 v0 xs u → Calls Tryd.prog 11 #[v0, .agg #[.string fn, .string fv]] u (PutRet xs (fld fn fv) u)) := fun B0 v0 u h => by
    have := putFieldS_any B0 v0 xs (fld fn fv) u h HX1.out HSM.out HSF.out
    rw [show str (fld fn fv).name = fn from str_of fn, show str (fld fn fv).val = fv from str_of fv] at this; exact this
  unfold PutRet at HF1 HF2
  generalize (putF xs (fld fn fv)).isSome = ok at *
  generalize (putF xs (fld fn fv)).getD [] = ys at *
  have HM : Hid (ys.length ≤ maxLen) := by show _ ≤ _; unfold maxLen; omega
  have e0 : (ok != ok) = false := by cases ok <;> rfl
  have HB1 := Lib.hid hb1
  clear hsz' hln hsm hx hr hrA hlen hn d1 hb1'
  go_wp2_with fail
  refine wp_region_grow (by kernel_rfl) ?_
  refine wpAnyG_take (fuel := 8) [true, false, true] (by kernel_rfl) (by kernel_rfl) (by rfl) (by kernel_rfl) ?_
  apply Exists.intro
  refine ⟨fun x => ?_, ?_⟩
  · have HY : Hid (∀ y : BelowT x.val, _) := fun y => (HK.out y.val (nx HB1.out (nx x.below y.below))).1
    have y0 := fun y => HY.out y
    simp only [pickL]
    repeat (go_big_quiet_step (fail))
    exact wpQuiet_nil rfl
  refine wpAnyG_one (m := 1) (by kernel_rfl) (fun u1 g1 => ?_)
  refine wpOp_at (o := _) (by rfl) (by rfl) ?_
  go_simp
  refine (toFieldS_any a n c xs _ (HD.out.below (nx HB1.out g1)) HN1.out).mono ?_
  rintro e w2 ⟨a2, c2, rfl, ho2, _, _, hb2⟩
  refine ⟨hb2, ?_⟩
  try simp only [Act.put, List.setIfInBounds_toArray, List.set_cons_zero, List.set_cons_succ]
  refine wpAnyG_take (fuel := 6) [false, false, false, true] (by kernel_rfl) (by kernel_rfl) (by rfl) (by kernel_rfl) ?_
  apply Exists.intro
  refine ⟨fun x => ?_, ?_⟩
  · skip
    simp only [pickL]
    repeat (go_big_quiet_step ((go_at_call 25; exact calls_belowT (toField_any fn fv _))))
    exact wpQuiet_nil rfl
  refine wpAnyG_one (m := 4) (by kernel_rfl) (fun u4 g4 => ?_)
  refine wpOp_at (o := _) (by rfl) (by rfl) ?_
  go_simp
  refine (HF2.out _ _ _ (ho2.keep g4)).mono ?_
  rintro e w3c ⟨v3, rfl, ho3, hb3⟩
  obtain ⟨a3, c3, rfl, hr3, _, _⟩ := ho3.read fldC_len
  refine ⟨hb3, ?_⟩
  try simp only [Act.put, List.setIfInBounds_toArray, List.set_cons_zero, List.set_cons_succ]
  refine wpAnyG_take (fuel := 0) [false, false, false, false, false, true, true, true, true, true] (by kernel_rfl) (by kernel_rfl) (by rfl) (by kernel_rfl) ?_
  apply Exists.intro
  refine ⟨fun x => ?_, ?_⟩
  · skip
    simp only [pickL]
    repeat (go_big_quiet_step (fail))
    exact wpQuiet_nil rfl
  refine wpAnyG_done (by kernel_rfl) (fun x => ?_) _
  have hb3x := x.below
  generalize x.val = w3 at *
  replace ho3 := ho3.keep hb3x
  replace hr3 := hr3.below hb3x
  have HB3 := Lib.hid (nx (nx (nx (nx (nx HB1.out g1) hb2) g4) hb3) hb3x)
  obtain ⟨d3, _⟩ := HK.out _ HB3.out
  have HR3 := Lib.hid hr3
  have HO3 := Lib.hid ho3
  have HL3 := Lib.hid (OwnR.lt ho3)
  clear ho3 hr3 hb3x d1'
  go_wp2_with fail
  refine (toFieldS_any a n c xs _ (HD.out.below HB3.out) HN1.out).mono ?_
  rintro e w4 ⟨a4, c4, rfl, ho4, hd4, _, hb4⟩
  have HB4 := Lib.hid (nx HB3.out hb4)
  obtain ⟨d4, _⟩ := HK.out _ HB4.out
  have HO4 := Lib.hid ho4
  have HD4 := Lib.hid hd4
  have HL4 := Lib.hid (OwnR.lt ho4)
  clear ho4 hd4 d3
  go_wp2_with fail
  refine (toField_any fn fv _).mono ?_
  rintro e w4' ⟨rfl, hb4'⟩
  have ho4' := HO4.out.keep hb4'
  go_wp2_with fail
  refine (HF1.out _ _ _ ho4').mono ?_
  rintro e w5 ⟨v5, rfl, ho5, hb5⟩
  obtain ⟨a5, c5, rfl, hr5, _, _⟩ := ho5.read fldC_len
  have hb45 := nx hb4' hb5
  have hs4' := hb4'.size
  have HB5 := Lib.hid (nx HB4.out hb45)
  have HO5 := Lib.hid (ho5.base hb4'.size)
  have HR5 := Lib.hid hr5
  have HL5 := Lib.hid (OwnR.lt HO5.out)
  have h35 := nx hb4 hb45
  clear ho5 hr5 ho4'
  cases ok
  all_goals
    go_wp2_with fail
    refine (eqFieldS_any a5 a3 _ c5 _ c3 ys ys _ HR5.out (HR3.out.below h35) HM.out HM.out).mono ?_
    rintro e w6 ⟨rfl, hb6⟩
    rw [decide_eq_true (rfl : ys = ys)]
    have HB6 := Lib.hid (nx HB5.out hb6)
    go_wp2_with fail
    refine (toFieldS_any a n c xs _ (HD.out.below HB6.out) HN1.out).mono ?_
    rintro e w7 ⟨a7, c7, rfl, _, hd7, _, hb7⟩
    have HB7 := Lib.hid (nx HB6.out hb7)
    go_wp2_with fail
    refine (eqFieldS_any a4 a7 _ c4 _ c7 xs xs _ (HD4.out.below (nx (nx hb45 hb6) hb7)) hd7 HX2.out HX2.out).mono ?_
    rintro e w8 ⟨rfl, hb8⟩
    rw [decide_eq_true (rfl : xs = xs)]
    have HB8 := Lib.hid (nx HB7.out hb8)
    have h58 := nx (nx hb6 hb7) hb8
    have h48 := nx hb45 h58
    have h38 := nx hb4 h48
    have hs4 := hb4.size
    have hs45 := hb45.size
    have hs8 := h58.size
    have HO48 := Lib.hid (HO4.out.keep h48)
    have HO58 := Lib.hid (HO5.out.keep h58)
    have HO38 := Lib.hid (HO3.out.keep h38)
    have hBase : (w.alloc (.cells #[.string fn, .string fv] 44)).heap.size ≤ w3.heap.size := HB3.out.size
    clear hd7
    go_wp2_with fail
    refine (markFieldS_any w3.heap.size a4 _ c4 xs 1 _ HO48.out rfl (by omega) hfl).mono ?_
    rintro e w9 ⟨rfl, _, hn9⟩
    have HB9 : Hid (Below (w.alloc (.cells #[.string fn, .string fv] 44)).heap.size (w.alloc (.cells #[.string fn, .string fv] 44)) w9) := HB8.out.trans (hn9.below (fun g hg => by have := (HL4.out g hg).1; omega) HB8.out.size)
    have HO59 := Lib.hid (HO58.out.only hn9 (fun g hg e => by have := (HL5.out g hg).1; have := (HL4.out g e).2; omega))
    have HO39 := Lib.hid (HO38.out.only hn9 (fun g hg e => by have := (HL3.out g hg).2; have := (HL4.out g e).1; omega))
    have hneg9 : decide (((1 + 2 * xs.length : Nat) : Int) < 0) = false := by simp; omega
    clear hn9
    go_wp2_with fail
    refine (eqFieldS_any a5 a3 _ c5 _ c3 ys ys _ (rdF_of_ownz HO59.out) (rdF_of_ownz HO39.out) HM.out HM.out).mono ?_
    rintro e w10 ⟨rfl, hb10⟩
    rw [decide_eq_true (rfl : ys = ys)]
    have HB10 := Lib.hid (nx HB9.out hb10)
    have HO510 := Lib.hid (HO59.out.keep hb10)
    have HO310 := Lib.hid (HO39.out.keep hb10)
    go_wp2_with fail
    refine (markFieldS_any w4.heap.size a5 _ c5 ys 1 _ HO510.out rfl (by omega) (by omega)).mono ?_
    rintro e w11 ⟨rfl, ho11, hn11⟩
    have HB11 : Hid (Below (w.alloc (.cells #[.string fn, .string fv] 44)).heap.size (w.alloc (.cells #[.string fn, .string fv] 44)) w11) := HB10.out.trans (hn11.below (fun g hg => by have := (HL5.out g hg).1; omega) HB10.out.size)
    have ho11' : OwnF w4.heap.size (.slice a5 (marksF 1 ys.length).length c5) (marksF 1 ys.length) w11 := by rw [marksF_len]; exact ho11
    have hd11 := rdF_of_ownz ho11'
    rw [marksF_len] at hd11
    have HD11 := Lib.hid hd11
    have HD311 := Lib.hid (rdF_of_ownz (HO310.out.only hn11 (fun g hg e => by have := (HL3.out g hg).2; have := (HL5.out g e).1; omega)))
    clear ho11 hn11 ho11' hd11
    go_wp2_with fail
    refine (heldFieldS_any a5 _ c5 1 _ HD11.out (by omega) (by omega)).mono ?_
    rintro e w12 ⟨rfl, hb12⟩
    have HB12 := Lib.hid (nx HB11.out hb12)
    go_wp2_with fail
    refine wp_region_grow (by kernel_rfl) ?_
    refine wpAnyG_take (fuel := 8) [true, false, true] (by kernel_rfl) (by kernel_rfl) (by rfl) (by kernel_rfl) ?_
    apply Exists.intro
    refine ⟨fun x => ?_, ?_⟩
    · have HY : Hid (∀ y : BelowT x.val, _) := fun y => (HK.out y.val (nx HB12.out (nx x.below y.below))).1
      have y0 := fun y => HY.out y
      simp only [pickL]
      repeat (go_big_quiet_step (fail))
      exact wpQuiet_nil rfl
    refine wpAnyG_one (m := 1) (by kernel_rfl) (fun u1 g1 => ?_)
    refine wpOp_at (o := _) (by rfl) (by rfl) ?_
    go_simp
    refine (toFieldS_any a n c xs _ (HD.out.below (nx HB12.out g1)) HN1.out).mono ?_
    rintro e w13 ⟨a13, c13, rfl, ho13, hd13, _, hb13⟩
    refine ⟨hb13, ?_⟩
    try simp only [Act.put, List.setIfInBounds_toArray, List.set_cons_zero, List.set_cons_succ]
    refine wpAnyG_take (fuel := 6) [false, false, false, true] (by kernel_rfl) (by kernel_rfl) (by rfl) (by kernel_rfl) ?_
    apply Exists.intro
    refine ⟨fun x => ?_, ?_⟩
    · skip
      simp only [pickL]
      repeat (go_big_quiet_step ((go_at_call 25; exact calls_belowT (toField_any fn fv _))))
      exact wpQuiet_nil rfl
    refine wpAnyG_one (m := 4) (by kernel_rfl) (fun u4 g4 => ?_)
    refine wpOp_at (o := _) (by rfl) (by rfl) ?_
    go_simp
    refine (HF1.out _ _ _ (ho13.keep g4)).mono ?_
    rintro e w14c ⟨v14, rfl, ho14, hb14⟩
    obtain ⟨a14, c14, rfl, hd14, _, _⟩ := ho14.read fldC_len
    refine ⟨hb14, ?_⟩
    try simp only [Act.put, List.setIfInBounds_toArray, List.set_cons_zero, List.set_cons_succ]
    refine wpAnyG_take (fuel := 0) [false, false, false, false, false, true, true, true, true, true] (by kernel_rfl) (by kernel_rfl) (by rfl) (by kernel_rfl) ?_
    apply Exists.intro
    refine ⟨fun x => ?_, ?_⟩
    · skip
      simp only [pickL]
      repeat (go_big_quiet_step (fail))
      exact wpQuiet_nil rfl
    refine wpAnyG_done (by kernel_rfl) (fun x => ?_) _
    have hbx := x.below
    generalize x.val = w14 at *
    replace hd14 := hd14.below hbx
    have h1214 := nx (nx (nx (nx g1 hb13) g4) hb14) hbx
    have HB14 := Lib.hid (nx HB12.out h1214)
    have h1114 := nx hb12 h1214
    clear hd13 ho13 ho14 d4
    go_wp2_with fail
    refine (eqFieldS_any a14 a3 _ c14 _ c3 ys ys _ hd14 (HD311.out.below h1114) HM.out HM.out).mono ?_
    rintro e w15 ⟨rfl, hb15⟩
    rw [decide_eq_true (rfl : ys = ys)]
    have HB15 := Lib.hid (nx HB14.out hb15)
    go_wp2_with fail
    refine (heldFieldS_any a5 _ c5 1 _ (HD11.out.below (nx h1114 hb15)) (by omega) (by omega)).mono ?_
    rintro e w16 ⟨rfl, hb16⟩
    have HBF := Lib.hid (HK.out _ (nx HB15.out hb16)).2
    go_wp2
    go_ret
    exact ⟨rfl, HBF.out⟩
end Go.Proofs.YthcmdmjijdafoaaDoor
