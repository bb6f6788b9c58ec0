/-
  The exact laws of chapter 3 on names: each law's walk. For every input of the law: it returns true, and the input reads as it did. Conditions: none but the statement's own.
-/
import Derived.Test.YtfjpajeipihlaabLaw0
import Derived.Test.YtfjpajeipihlaabMarkF
import Derived.Test.YtfjpajeipihlaabDropF
import Derived.Test.YtfjpajeipihlaabSameF
namespace Go.Proofs.Ytfjpajeipihlaab
open Go.ChangeShapes Go.WideShapes Go.ChangeAt Go.RowKit
open Go.ChangeMaps (open_string shut_string)

set_option maxRecDepth 100000 in
set_option maxHeartbeats 1000000 in
theorem fnExactGetField_walk (a : Option Addr) (n c : Nat) (xs : List Fld) (s : ByteArray) (w : World) (hr : RdF w a n xs) (hn : n ≤ maxLen) (hx : ∀ x ∈ xs, SmallF maxLen x) (hs : s.size ≤ maxLen) :
    Calls Try.prog 8 #[.slice a n c, .string s] w fun e w' => e = .returned (.bool true) ∧ Below w.heap.size w w' := by
  unfold maxLen at hs
  by_cases hbig : 1048576 < s.size
  · have hd : decide ((1048576 : Int) < s.size) = true := by simp; omega
    go_enter Try.func8, Try.ntmps8
    go_wp2
    go_ret
    exact ⟨rfl, Below.refl _ _⟩
  have hd : decide ((1048576 : Int) < s.size) = false := by simp; omega
  go_enter Try.func8, Try.ntmps8
  go_wp2_with fail
  refine (szFieldS_any a n c xs 1048576 w hr hn (by omega) (by omega) hx).mono ?_
  rintro e w1 ⟨r, rfl, hr1, hr2, hsz, hb1⟩
  by_cases hneg : r < 0
  · clear hsz
    go_wp2
    go_ret
    exact ⟨rfl, hb1⟩
  obtain ⟨hln, hsm⟩ := hsz (by omega)
  have HSM : Hid (∀ x ∈ xs, SmallF 1073741824 x) := fun x hx => (hsm x hx).up (by omega)
  have hlen := hr.1
  have hn1 : n ≤ 1073741824 := by omega
  have hx1 : xs.length ≤ 1073741824 := by omega
  have hx2 : xs.length ≤ maxLen := by unfold maxLen; omega
  have HD := Lib.hid hr
  have HX2 := Lib.hid hx2
  have HX1 := Lib.hid hx1
  have HN1 := Lib.hid hn1
  clear hsz hsm hx hr hlen hx2 hx1 hn1 hn
  go_wp2_with fail
  refine (toFieldS_any a n c xs _ (HD.out.below hb1) HN1.out).mono ?_
  rintro e w2 ⟨a2, c2, rfl, ho2, hd2, hc2, hb2⟩
  have hB2 := nx hb1 hb2
  go_wp2_with fail
  refine (getFieldS_any a2 _ c2 xs s _ hd2 HX1.out HSM.out (by omega)).mono ?_
  rintro e w3 ⟨rfl, hb3⟩
  have hB3 := nx hB2 hb3
  generalize hG : getR xs s.data.toList = gr at *
  generalize hO : (getF xs s.data.toList).isSome = ok at *
  have HG : Hid (getR xs s.data.toList = gr ∧ (getF xs s.data.toList).isSome = ok) := ⟨hG, hO⟩
  clear hG hO
  go_wp2_with fail
  refine (toFieldS_any a n c xs _ (HD.out.below hB3) HN1.out).mono ?_
  rintro e w4 ⟨a4, c4, rfl, ho4, hd4, hc4, hb4⟩
  have hB4 := nx hB3 hb4
  have HD4 := Lib.hid hd4
  go_wp2_with fail
  refine (getField_any a4 _ c4 xs s _ hd4 HX1.out HSM.out (by omega)).mono ?_
  rintro e w5 ⟨rfl, hb5⟩
  rw [HG.out.1, HG.out.2]
  have hB5 := nx hB4 hb5
  have e1 : ((str gr).toList != (str gr).toList) = false := by simp
  generalize str gr = sg at *
  cases ok
  all_goals
    go_wp2_with fail
    refine (toFieldS_any a n c xs _ (HD.out.below hB5) HN1.out).mono ?_
    rintro e w6 ⟨a6, c6, rfl, ho6, hd6, hc6, hb6⟩
    have hB6 := nx hB5 hb6
    go_wp2_with fail
    refine (eqFieldS_any a4 a6 _ c4 _ c6 xs xs _ (HD4.out.below (nx hb5 hb6)) hd6 HX2.out HX2.out).mono ?_
    rintro e w7 ⟨rfl, hb7⟩
    rw [decide_eq_true (rfl : xs = xs)]
    go_wp2
    go_ret
    exact ⟨rfl, nx hB6 hb7⟩
set_option maxRecDepth 100000 in
theorem fnExactGetField_lifted (os : Os) (started : os.Started) (H : Type) (enc : TypeId × Value → H) :
    ReturnsInHanded {} Try.checked os 8 .any (Rows.fnExactGetFieldSpec.pre6 enc Try.prog Try.f8 Rows.fnExactGetFieldRow.domain false) (Rows.fnExactGetFieldSpec.post enc Try.prog Try.f8 false true false false) := by
  refine returnsInHanded_of_change (C := Try.checked) own started (by kernel_rfl) Try.func8
    (ChangeSpec.witness6 (enc := enc) (C := Try.checked) false ⟨#[], #[.slice none 0 0, .string ByteArray.empty], []⟩ 8 (by kernel_rfl) (by kernel_rfl) (by kernel_rfl) (by kernel_rfl)) ?_
  intro W base args ds gs before hval0 hW hcnd _
  have hval : ∀ (j : Nat) t v, Try.f8.params[j]? = some t → args[j]? = some v → Value.okWide Try.prog W .any base t v := hval0
  have hW' := hW
  obtain ⟨p, q, hA0, hV, rfl, hfz, hnd⟩ := hW
  have hA : DataW.TrodAll enc Try.prog W 0 (fun _ => true) true Try.f8.params.toList args.toList ds p := hA0
  rw [Try.params8] at hA hval
  obtain ⟨v0, vs0, d0, ds0, p0, q0, hargs, rfl, rfl, h0, r0⟩ := trodAll_cons hA
  obtain ⟨v1, vs1, d1, ds1, p1, q1, rfl, rfl, rfl, h1, r1⟩ := trodAll_cons r0
  obtain ⟨rfl, rfl, rfl⟩ := trodAll_nil r1
  obtain rfl : args = #[v0, v1] := by cases args; simp_all
  obtain ⟨rfl, rfl⟩ := trodVars_none hV
  obtain ⟨a0, n0, c0, rfl⟩ := okWide_slice Try.underlying46 (hval 0 46 v0 rfl rfl)
  have k0 := h0
  have lt0 : ∀ x ∈ p0, x.block < W.heap.size := by obtain ⟨m, hm⟩ := k0; exact DataW.trod_lt m _ _ _ hm
  obtain ⟨l0, w0, x0, y0⟩ := flds_of_trod h0
  obtain ⟨a1, rfl, rfl, rfl, w1⟩ := open_string Try.underlying9 (hval 1 9 v1 rfl rfl) h1
  clear hA0 hval0
  refine (fnExactGetField_walk a0 n0 c0 l0 a1 W w0 x0 y0 w1).mono fun e W' ⟨he, bel⟩ => ?_
  subst he
  exact ⟨_, rfl, _, _, _, [], _, [], hW', trodAll_mk1 (shut_bool Try.underlying4 _), (trodAll_cons_mk (Below.trod laidOut (by kernel_rfl) (of_decide_eq_true (by kernel_rfl)) k0 bel lt0) (trodAll_cons_mk (shut_string Try.underlying9 w1) trodAll_mk0)), rfl, bel.frame _, fun h => by cases h⟩
/-- FnExactGetField: THE STATEMENT. -/
theorem fnExactGetField_holds : Rows.FnExactGetFieldSaid :=
  OpenClaim.holds_of_wide 8 Try.f8 rfl rfl rfl rfl rfl rfl rfl ⟨rfl, rfl, rfl, rfl, rfl⟩ rfl rfl rfl rfl rfl (by kernel_rfl) Try.func8 (by kernel_rfl)
    (of_decide_eq_true (by kernel_rfl)) (by unfold Func.isWrapper; first | (rw [if_pos (by decide +kernel)]; kernel_rfl) | (rw [if_neg (by decide +kernel)]; exact ⟨rfl, rfl⟩))
    (fun os started H enc _ => fnExactGetField_lifted os started H enc)
set_option maxRecDepth 100000 in
set_option maxHeartbeats 1000000 in
theorem fnExactCountField_walk (a : Option Addr) (n c : Nat) (xs : List Fld) (s : ByteArray) (w : World) (hr : RdF w a n xs) (hn : n ≤ maxLen) (hx : ∀ x ∈ xs, SmallF maxLen x) (hs : s.size ≤ maxLen) :
    Calls Try.prog 10 #[.slice a n c, .string s] w fun e w' => e = .returned (.bool true) ∧ Below w.heap.size w w' := by
  unfold maxLen at hs
  by_cases hbig : 1048576 < s.size
  · have hd : decide ((1048576 : Int) < s.size) = true := by simp; omega
    go_enter Try.func10, Try.ntmps10
    go_wp2
    go_ret
    exact ⟨rfl, Below.refl _ _⟩
  have hd : decide ((1048576 : Int) < s.size) = false := by simp; omega
  go_enter Try.func10, Try.ntmps10
  go_wp2_with fail
  refine (szFieldS_any a n c xs 1048576 w hr hn (by omega) (by omega) hx).mono ?_
  rintro e w1 ⟨r, rfl, hr1, hr2, hsz, hb1⟩
  by_cases hneg : r < 0
  · clear hsz
    go_wp2
    go_ret
    exact ⟨rfl, hb1⟩
  obtain ⟨hln, hsm⟩ := hsz (by omega)
  have HSM : Hid (∀ x ∈ xs, SmallF 1073741824 x) := fun x hx => (hsm x hx).up (by omega)
  have hlen := hr.1
  have hn1 : n ≤ 1073741824 := by omega
  have hx1 : xs.length ≤ 1073741824 := by omega
  have hx2 : xs.length ≤ maxLen := by unfold maxLen; omega
  have HD := Lib.hid hr
  have HX2 := Lib.hid hx2
  have HX1 := Lib.hid hx1
  have HN1 := Lib.hid hn1
  clear hsz hsm hx hr hlen hx2 hx1 hn1 hn
  go_wp2_with fail
  refine (toFieldS_any a n c xs _ (HD.out.below hb1) HN1.out).mono ?_
  rintro e w2 ⟨a2, c2, rfl, ho2, hd2, hc2, hb2⟩
  have hB2 := nx hb1 hb2
  go_wp2_with fail
  refine (countFieldS_any a2 _ c2 xs s _ hd2 HX1.out HSM.out (by omega)).mono ?_
  rintro e w3 ⟨rfl, hb3⟩
  have hB3 := nx hB2 hb3
  go_wp2_with fail
  refine (toFieldS_any a n c xs _ (HD.out.below hB3) HN1.out).mono ?_
  rintro e w4 ⟨a4, c4, rfl, ho4, hd4, hc4, hb4⟩
  have hB4 := nx hB3 hb4
  have HD4 := Lib.hid hd4
  go_wp2_with fail
  refine (countField_any a4 _ c4 xs s _ hd4 HX1.out HSM.out (by omega)).mono ?_
  rintro e w5 ⟨rfl, hb5⟩
  have hB5 := nx hB4 hb5
  have e1 : (((countF xs s.data.toList : Nat) : Int) != ((countF xs s.data.toList : Nat) : Int)) = false := by simp
  generalize ((countF xs s.data.toList : Nat) : Int) = m at *
  go_wp2_with fail
  refine (toFieldS_any a n c xs _ (HD.out.below hB5) HN1.out).mono ?_
  rintro e w6 ⟨a6, c6, rfl, ho6, hd6, hc6, hb6⟩
  have hB6 := nx hB5 hb6
  go_wp2_with fail
  refine (eqFieldS_any a4 a6 _ c4 _ c6 xs xs _ (HD4.out.below (nx hb5 hb6)) hd6 HX2.out HX2.out).mono ?_
  rintro e w7 ⟨rfl, hb7⟩
  rw [decide_eq_true (rfl : xs = xs)]
  go_wp2
  go_ret
  exact ⟨rfl, nx hB6 hb7⟩
set_option maxRecDepth 100000 in
theorem fnExactCountField_lifted (os : Os) (started : os.Started) (H : Type) (enc : TypeId × Value → H) :
    ReturnsInHanded {} Try.checked os 10 .any (Rows.fnExactCountFieldSpec.pre6 enc Try.prog Try.f10 Rows.fnExactCountFieldRow.domain false) (Rows.fnExactCountFieldSpec.post enc Try.prog Try.f10 false true false false) := by
  refine returnsInHanded_of_change (C := Try.checked) own started (by kernel_rfl) Try.func10
    (ChangeSpec.witness6 (enc := enc) (C := Try.checked) false ⟨#[], #[.slice none 0 0, .string ByteArray.empty], []⟩ 8 (by kernel_rfl) (by kernel_rfl) (by kernel_rfl) (by kernel_rfl)) ?_
  intro W base args ds gs before hval0 hW hcnd _
  have hval : ∀ (j : Nat) t v, Try.f10.params[j]? = some t → args[j]? = some v → Value.okWide Try.prog W .any base t v := hval0
  have hW' := hW
  obtain ⟨p, q, hA0, hV, rfl, hfz, hnd⟩ := hW
  have hA : DataW.TrodAll enc Try.prog W 0 (fun _ => true) true Try.f10.params.toList args.toList ds p := hA0
  rw [Try.params10] at hA hval
  obtain ⟨v0, vs0, d0, ds0, p0, q0, hargs, rfl, rfl, h0, r0⟩ := trodAll_cons hA
  obtain ⟨v1, vs1, d1, ds1, p1, q1, rfl, rfl, rfl, h1, r1⟩ := trodAll_cons r0
  obtain ⟨rfl, rfl, rfl⟩ := trodAll_nil r1
  obtain rfl : args = #[v0, v1] := by cases args; simp_all
  obtain ⟨rfl, rfl⟩ := trodVars_none hV
  obtain ⟨a0, n0, c0, rfl⟩ := okWide_slice Try.underlying46 (hval 0 46 v0 rfl rfl)
  have k0 := h0
  have lt0 : ∀ x ∈ p0, x.block < W.heap.size := by obtain ⟨m, hm⟩ := k0; exact DataW.trod_lt m _ _ _ hm
  obtain ⟨l0, w0, x0, y0⟩ := flds_of_trod h0
  obtain ⟨a1, rfl, rfl, rfl, w1⟩ := open_string Try.underlying9 (hval 1 9 v1 rfl rfl) h1
  clear hA0 hval0
  refine (fnExactCountField_walk a0 n0 c0 l0 a1 W w0 x0 y0 w1).mono fun e W' ⟨he, bel⟩ => ?_
  subst he
  exact ⟨_, rfl, _, _, _, [], _, [], hW', trodAll_mk1 (shut_bool Try.underlying4 _), (trodAll_cons_mk (Below.trod laidOut (by kernel_rfl) (of_decide_eq_true (by kernel_rfl)) k0 bel lt0) (trodAll_cons_mk (shut_string Try.underlying9 w1) trodAll_mk0)), rfl, bel.frame _, fun h => by cases h⟩
/-- FnExactCountField: THE STATEMENT. -/
theorem fnExactCountField_holds : Rows.FnExactCountFieldSaid :=
  OpenClaim.holds_of_wide 10 Try.f10 rfl rfl rfl rfl rfl rfl rfl ⟨rfl, rfl, rfl, rfl, rfl⟩ rfl rfl rfl rfl rfl (by kernel_rfl) Try.func10 (by kernel_rfl)
    (of_decide_eq_true (by kernel_rfl)) (by unfold Func.isWrapper; first | (rw [if_pos (by decide +kernel)]; kernel_rfl) | (rw [if_neg (by decide +kernel)]; exact ⟨rfl, rfl⟩))
    (fun os started H enc _ => fnExactCountField_lifted os started H enc)
set_option maxRecDepth 100000 in
set_option maxHeartbeats 1000000 in
theorem fnExactFieldsSame_walk (a : Option Addr) (n c : Nat) (xs : List Fld) (a' : Option Addr) (n' c' : Nat) (ys : List Fld) (w : World) (hr : RdF w a n xs) (hn : n ≤ maxLen) (hx : ∀ x ∈ xs, SmallF maxLen x)
    (hr' : RdF w a' n' ys) (hn' : n' ≤ maxLen) (hx' : ∀ x ∈ ys, SmallF maxLen x) :
    Calls Try.prog 7 #[.slice a n c, .slice a' n' c'] w fun e w' => e = .returned (.bool true) ∧ Below w.heap.size w w' := by
  go_enter Try.func7, Try.ntmps7
  go_wp2_with fail
  refine (szFieldS_any a n c xs 1048576 w hr hn (by omega) (by omega) hx).mono ?_
  rintro e w1 ⟨r, rfl, hr1, hr2, hsz, hb1⟩
  by_cases hneg : r < 0
  · clear hsz
    go_wp2
    go_ret
    exact ⟨rfl, hb1⟩
  obtain ⟨hln, _⟩ := hsz (by omega)
  have hlen := hr.1
  have hn1 : n ≤ 1073741824 := by omega
  have HX2 : Hid (xs.length ≤ maxLen) := by show _ ≤ _; unfold maxLen; omega
  have HN1 := Lib.hid hn1
  have HD := Lib.hid hr
  clear hsz hx hr hlen hn1 hn
  go_wp2_with fail
  refine (szFieldS_any a' n' c' ys r _ (hr'.below hb1) hn' (by omega) (by omega) hx').mono ?_
  rintro e w2 ⟨r', rfl, hr1', hr2', hsz, hb2⟩
  have hB2 := nx hb1 hb2
  by_cases hneg' : r' < 0
  · clear hsz
    go_wp2
    go_ret
    exact ⟨rfl, hB2⟩
  obtain ⟨hln', _⟩ := hsz (by omega)
  have hlen' := hr'.1
  have hn1' : n' ≤ 1073741824 := by omega
  have HY2 : Hid (ys.length ≤ maxLen) := by show _ ≤ _; unfold maxLen; omega
  have HN1' := Lib.hid hn1'
  have HD' := Lib.hid hr'
  clear hsz hx' hr' hlen' hn1' hn'
  go_wp2_with fail
  refine (toFieldS_any a n c xs _ (HD.out.below hB2) HN1.out).mono ?_
  rintro e w3 ⟨a3, c3, rfl, _, hd3, _, hb3⟩
  have hB3 := nx hB2 hb3
  go_wp2_with fail
  refine (toFieldS_any a' n' c' ys _ (HD'.out.below hB3) HN1'.out).mono ?_
  rintro e w4 ⟨a4, c4, rfl, _, hd4, _, hb4⟩
  have hB4 := nx hB3 hb4
  go_wp2_with fail
  refine (fieldsSameS_any a3 a4 _ c3 _ c4 xs ys _ (hd3.below hb4) hd4 HX2.out HY2.out).mono ?_
  rintro e w5 ⟨rfl, hb5⟩
  have hB5 := nx hB4 hb5
  clear hd3 hd4
  go_wp2_with fail
  refine (toFieldS_any a n c xs _ (HD.out.below hB5) HN1.out).mono ?_
  rintro e w6 ⟨a6, c6, rfl, _, hd6, _, hb6⟩
  have hB6 := nx hB5 hb6
  have HD6 := Lib.hid hd6
  go_wp2_with fail
  refine (toFieldS_any a' n' c' ys _ (HD'.out.below hB6) HN1'.out).mono ?_
  rintro e w7 ⟨a7, c7, rfl, _, hd7, _, hb7⟩
  have hB7 := nx hB6 hb7
  have HD7 := Lib.hid hd7
  clear hd6 hd7
  go_wp2_with fail
  refine (fieldsSame_any a6 a7 _ c6 _ c7 xs ys _ (HD6.out.below hb7) HD7.out HX2.out HY2.out).mono ?_
  rintro e w8 ⟨rfl, hb8⟩
  have hB8 := nx hB7 hb8
  have h78 := hb8
  have h68 := nx hb7 hb8
  generalize decide (xs = ys) = q at *
  cases q
  all_goals
    go_wp2_with fail
    refine (toFieldS_any a n c xs _ (HD.out.below hB8) HN1.out).mono ?_
    rintro e w9 ⟨a9, c9, rfl, _, hd9, _, hb9⟩
    have hB9 := nx hB8 hb9
    go_wp2_with fail
    refine (eqFieldS_any a6 a9 _ c6 _ c9 xs xs _ (HD6.out.below (nx h68 hb9)) hd9 HX2.out HX2.out).mono ?_
    rintro e w10 ⟨rfl, hb10⟩
    rw [decide_eq_true (rfl : xs = xs)]
    have hB10 := nx hB9 hb10
    have h710 := nx (nx h78 hb9) hb10
    clear hd9
    go_wp2_with fail
    refine (toFieldS_any a' n' c' ys _ (HD'.out.below hB10) HN1'.out).mono ?_
    rintro e w11 ⟨a11, c11, rfl, _, hd11, _, hb11⟩
    have hB11 := nx hB10 hb11
    go_wp2_with fail
    refine (eqFieldS_any a7 a11 _ c7 _ c11 ys ys _ (HD7.out.below (nx h710 hb11)) hd11 HY2.out HY2.out).mono ?_
    rintro e w12 ⟨rfl, hb12⟩
    rw [decide_eq_true (rfl : ys = ys)]
    go_wp2
    go_ret
    exact ⟨rfl, nx hB11 hb12⟩
set_option maxRecDepth 100000 in
theorem fnExactFieldsSame_lifted (os : Os) (started : os.Started) (H : Type) (enc : TypeId × Value → H) :
    ReturnsInHanded {} Try.checked os 7 .any (Rows.fnExactFieldsSameSpec.pre6 enc Try.prog Try.f7 Rows.fnExactFieldsSameRow.domain false) (Rows.fnExactFieldsSameSpec.post enc Try.prog Try.f7 false true false false) := by
  refine returnsInHanded_of_change (C := Try.checked) own started (by kernel_rfl) Try.func7
    (ChangeSpec.witness6 (enc := enc) (C := Try.checked) false ⟨#[], #[.slice none 0 0, .slice none 0 0], []⟩ 8 (by kernel_rfl) (by kernel_rfl) (by kernel_rfl) (by kernel_rfl)) ?_
  intro W base args ds gs before hval0 hW hcnd _
  have hval : ∀ (j : Nat) t v, Try.f7.params[j]? = some t → args[j]? = some v → Value.okWide Try.prog W .any base t v := hval0
  have hW' := hW
  obtain ⟨p, q, hA0, hV, rfl, hfz, hnd⟩ := hW
  have hA : DataW.TrodAll enc Try.prog W 0 (fun _ => true) true Try.f7.params.toList args.toList ds p := hA0
  rw [Try.params7] at hA hval
  obtain ⟨v0, vs0, d0, ds0, p0, q0, hargs, rfl, rfl, h0, r0⟩ := trodAll_cons hA
  obtain ⟨v1, vs1, d1, ds1, p1, q1, rfl, rfl, rfl, h1, r1⟩ := trodAll_cons r0
  obtain ⟨rfl, rfl, rfl⟩ := trodAll_nil r1
  obtain rfl : args = #[v0, v1] := by cases args; simp_all
  obtain ⟨rfl, rfl⟩ := trodVars_none hV
  obtain ⟨a0, n0, c0, rfl⟩ := okWide_slice Try.underlying46 (hval 0 46 v0 rfl rfl)
  have k0 := h0
  have lt0 : ∀ x ∈ p0, x.block < W.heap.size := by obtain ⟨m, hm⟩ := k0; exact DataW.trod_lt m _ _ _ hm
  obtain ⟨l0, w0, x0, y0⟩ := flds_of_trod h0
  obtain ⟨a1, n1, c1, rfl⟩ := okWide_slice Try.underlying46 (hval 1 46 v1 rfl rfl)
  have k1 := h1
  have lt1 : ∀ x ∈ p1, x.block < W.heap.size := by obtain ⟨m, hm⟩ := k1; exact DataW.trod_lt m _ _ _ hm
  obtain ⟨l1, w1, x1, y1⟩ := flds_of_trod h1
  clear hA0 hval0
  refine (fnExactFieldsSame_walk a0 n0 c0 l0 a1 n1 c1 l1 W w0 x0 y0 w1 x1 y1).mono fun e W' ⟨he, bel⟩ => ?_
  subst he
  exact ⟨_, rfl, _, _, _, [], _, [], hW', trodAll_mk1 (shut_bool Try.underlying4 _), (trodAll_cons_mk (Below.trod laidOut (by kernel_rfl) (of_decide_eq_true (by kernel_rfl)) k0 bel lt0) (trodAll_cons_mk (Below.trod laidOut (by kernel_rfl) (of_decide_eq_true (by kernel_rfl)) k1 bel lt1) trodAll_mk0)), rfl, bel.frame _, fun h => by cases h⟩
/-- FnExactFieldsSame: THE STATEMENT. -/
theorem fnExactFieldsSame_holds : Rows.FnExactFieldsSameSaid :=
  OpenClaim.holds_of_wide 7 Try.f7 rfl rfl rfl rfl rfl rfl rfl ⟨rfl, rfl, rfl, rfl, rfl⟩ rfl rfl rfl rfl rfl (by kernel_rfl) Try.func7 (by kernel_rfl)
    (of_decide_eq_true (by kernel_rfl)) (by unfold Func.isWrapper; first | (rw [if_pos (by decide +kernel)]; kernel_rfl) | (rw [if_neg (by decide +kernel)]; exact ⟨rfl, rfl⟩))
    (fun os started H enc _ => fnExactFieldsSame_lifted os started H enc)
end Go.Proofs.Ytfjpajeipihlaab
