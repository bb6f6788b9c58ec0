/-
  The exact laws of chapter 9: each law's walk. For every input of the law: it returns true, and the input reads as it did. Conditions: none but the statement's own.
-/
import Derived.Test.YtnlnkcjphioehabLaw0
import Derived.Test.YtnlnkcjphioehabLawL
import Derived.Test.YtnlnkcjphioehabLinS
namespace Go.Proofs.Ytnlnkcjphioehab
open Go.ChangeShapes Go.WideShapes Go.ChangeAt Go.RowKit
open Go.ChangeMaps (open_string shut_string)

theorem sel9x_f (s : ByteArray) : (s.toList != s.toList) = false := by simp
set_option maxRecDepth 100000 in
set_option maxHeartbeats 400000 in
theorem fnExactNormalText_walk (s : ByteArray) (w : World) (hs : s.size ≤ maxLen) :
    Calls Try.prog 5 #[.string s] w fun e w' => e = .returned (.bool true) ∧ Below w.heap.size w w' := by
  unfold maxLen at hs
  by_cases hn : 1048576 < s.size
  · have hd : decide ((1048576 : Int) < s.size) = true := by simp; omega
    go_enter Try.func5, Try.ntmps5
    go_wp2
    go_ret
    exact ⟨rfl, Below.refl _ _⟩
  have hd : decide ((1048576 : Int) < s.size) = false := by simp; omega
  have HI := Lib.hid (fun u => normalText_any s u (by omega))
  have HS := Lib.hid (fun u => normalTextS_any s u (by omega))
  have e1 := sel9x_f (str (normG false s.data.toList))
  generalize str (normG false s.data.toList) = X at *
  go_enter Try.func5, Try.ntmps5
  go_wp2_with fail
  refine (HS.out _).mono ?_
  rintro e w1 ⟨rfl, hb1⟩
  go_wp2_with fail
  refine (HI.out _).mono ?_
  rintro e w2 ⟨rfl, hb2⟩
  go_wp2
  go_ret
  exact ⟨rfl, nx hb1 hb2⟩
set_option maxRecDepth 100000 in
theorem fnExactNormalText_lifted (os : Os) (started : os.Started) (H : Type) (enc : TypeId × Value → H) :
    ReturnsInHanded {} Try.checked os 5 .any (Rows.fnExactNormalTextSpec.pre6 enc Try.prog Try.f5 Rows.fnExactNormalTextRow.domain false) (Rows.fnExactNormalTextSpec.post enc Try.prog Try.f5 false true false false) := by
  refine returnsInHanded_of_change (C := Try.checked) own started (by kernel_rfl) Try.func5
    (ChangeSpec.witness6 (enc := enc) (C := Try.checked) false ⟨#[], #[.string ByteArray.empty], []⟩ 8 (by kernel_rfl) (by kernel_rfl) (by kernel_rfl) (by kernel_rfl)) ?_
  intro W base args ds gs before hval0 hW hcnd _
  have hval : ∀ (j : Nat) t v, Try.f5.params[j]? = some t → args[j]? = some v → Value.okWide Try.prog W .any base t v := hval0
  have hW' := hW
  obtain ⟨p, q, hA0, hV, rfl, hfz, hnd⟩ := hW
  have hA : DataW.TrodAll enc Try.prog W 0 (fun _ => true) true Try.f5.params.toList args.toList ds p := hA0
  rw [Try.params5] at hA hval
  obtain ⟨v0, vs0, d0, ds0, p0, q0, hargs, rfl, rfl, h0, r0⟩ := trodAll_cons hA
  obtain ⟨rfl, rfl, rfl⟩ := trodAll_nil r0
  obtain rfl : args = #[v0] := by cases args; simp_all
  obtain ⟨rfl, rfl⟩ := trodVars_none hV
  obtain ⟨a0, rfl, rfl, rfl, w0⟩ := open_string Try.underlying9 (hval 0 9 v0 rfl rfl) h0
  clear hA0 hval0
  refine (fnExactNormalText_walk a0 W w0).mono fun e W' ⟨he, bel⟩ => ?_
  subst he
  exact ⟨_, rfl, _, _, _, [], _, [], hW', trodAll_mk1 (shut_bool Try.underlying4 _), (trodAll_cons_mk (shut_string Try.underlying9 w0) trodAll_mk0), rfl, bel.frame _, fun h => by cases h⟩
/-- FnExactNormalText: THE STATEMENT. -/
theorem fnExactNormalText_holds : Rows.FnExactNormalTextSaid :=
  OpenClaim.holds_of_wide 5 Try.f5 rfl rfl rfl rfl rfl rfl rfl ⟨rfl, rfl, rfl, rfl, rfl⟩ rfl rfl rfl rfl rfl (by kernel_rfl) Try.func5 (by kernel_rfl)
    (of_decide_eq_true (by kernel_rfl)) (by unfold Func.isWrapper; first | (rw [if_pos (by decide +kernel)]; kernel_rfl) | (rw [if_neg (by decide +kernel)]; exact ⟨rfl, rfl⟩))
    (fun os started H enc _ => fnExactNormalText_lifted os started H enc)
set_option maxRecDepth 100000 in
set_option maxHeartbeats 400000 in
theorem fnExactCountBare_walk (s : ByteArray) (w : World) (hs : s.size ≤ maxLen) :
    Calls Try.prog 6 #[.string s] w fun e w' => e = .returned (.bool true) ∧ Below w.heap.size w w' := by
  unfold maxLen at hs
  by_cases hn : 1048576 < s.size
  · have hd : decide ((1048576 : Int) < s.size) = true := by simp; omega
    go_enter Try.func6, Try.ntmps6
    go_wp2
    go_ret
    exact ⟨rfl, Below.refl _ _⟩
  have hd : decide ((1048576 : Int) < s.size) = false := by simp; omega
  have HI := Lib.hid (fun u => countBare_any s u (by omega))
  have HS := Lib.hid (fun u => countBareS_any s u (by omega))
  have e1 : ((cntG false s.data.toList : Int) != (cntG false s.data.toList : Int)) = false := by simp
  generalize cntG false s.data.toList = m at *
  go_enter Try.func6, Try.ntmps6
  go_wp2_with fail
  refine (HS.out _).mono ?_
  rintro e w1 ⟨rfl, rfl⟩
  go_wp2_with fail
  refine (HI.out _).mono ?_
  rintro e w1 ⟨rfl, rfl⟩
  go_wp2
  go_ret
  exact ⟨rfl, Below.refl _ _⟩
set_option maxRecDepth 100000 in
theorem fnExactCountBare_lifted (os : Os) (started : os.Started) (H : Type) (enc : TypeId × Value → H) :
    ReturnsInHanded {} Try.checked os 6 .any (Rows.fnExactCountBareSpec.pre6 enc Try.prog Try.f6 Rows.fnExactCountBareRow.domain false) (Rows.fnExactCountBareSpec.post enc Try.prog Try.f6 false true false false) := by
  refine returnsInHanded_of_change (C := Try.checked) own started (by kernel_rfl) Try.func6
    (ChangeSpec.witness6 (enc := enc) (C := Try.checked) false ⟨#[], #[.string ByteArray.empty], []⟩ 8 (by kernel_rfl) (by kernel_rfl) (by kernel_rfl) (by kernel_rfl)) ?_
  intro W base args ds gs before hval0 hW hcnd _
  have hval : ∀ (j : Nat) t v, Try.f6.params[j]? = some t → args[j]? = some v → Value.okWide Try.prog W .any base t v := hval0
  have hW' := hW
  obtain ⟨p, q, hA0, hV, rfl, hfz, hnd⟩ := hW
  have hA : DataW.TrodAll enc Try.prog W 0 (fun _ => true) true Try.f6.params.toList args.toList ds p := hA0
  rw [Try.params6] at hA hval
  obtain ⟨v0, vs0, d0, ds0, p0, q0, hargs, rfl, rfl, h0, r0⟩ := trodAll_cons hA
  obtain ⟨rfl, rfl, rfl⟩ := trodAll_nil r0
  obtain rfl : args = #[v0] := by cases args; simp_all
  obtain ⟨rfl, rfl⟩ := trodVars_none hV
  obtain ⟨a0, rfl, rfl, rfl, w0⟩ := open_string Try.underlying9 (hval 0 9 v0 rfl rfl) h0
  clear hA0 hval0
  refine (fnExactCountBare_walk a0 W w0).mono fun e W' ⟨he, bel⟩ => ?_
  subst he
  exact ⟨_, rfl, _, _, _, [], _, [], hW', trodAll_mk1 (shut_bool Try.underlying4 _), (trodAll_cons_mk (shut_string Try.underlying9 w0) trodAll_mk0), rfl, bel.frame _, fun h => by cases h⟩
/-- FnExactCountBare: THE STATEMENT. -/
theorem fnExactCountBare_holds : Rows.FnExactCountBareSaid :=
  OpenClaim.holds_of_wide 6 Try.f6 rfl rfl rfl rfl rfl rfl rfl ⟨rfl, rfl, rfl, rfl, rfl⟩ rfl rfl rfl rfl rfl (by kernel_rfl) Try.func6 (by kernel_rfl)
    (of_decide_eq_true (by kernel_rfl)) (by unfold Func.isWrapper; first | (rw [if_pos (by decide +kernel)]; kernel_rfl) | (rw [if_neg (by decide +kernel)]; exact ⟨rfl, rfl⟩))
    (fun os started H enc _ => fnExactCountBare_lifted os started H enc)
set_option maxRecDepth 100000 in
set_option maxHeartbeats 2000000 in
theorem fnExactStuffLines_walk (a : Option Addr) (n c : Nat) (xs : List (List UInt8)) (w : World) (hr : RdL w a n xs) (hn : n ≤ maxLen) (hx : ∀ j, (hj : j < xs.length) → xs[j].length ≤ maxLen) :
    Calls Try.prog 3 #[.slice a n c] w fun e w' => e = .returned (.bool true) ∧ Below w.heap.size w w' := by
  go_enter Try.func3, Try.ntmps3
  go_wp2_with fail
  refine (szStringS_any a n c xs 1048576 _ hr hn (by omega) (by omega) hx).mono ?_
  rintro e w1 ⟨r, rfl, hr1, hr2, hsz, rfl⟩
  by_cases hneg : r < 0
  · go_wp2
    go_ret
    exact ⟨rfl, Below.refl _ _⟩
  · obtain ⟨hnl, hxl⟩ := hsz (by omega)
    have hlen := hr.1
    have HN : Hid (n ≤ 1073741824) := by show n ≤ _; omega
    have HX : Hid (∀ x ∈ xs, x.length ≤ 1073741000) := fun x h => by have := hxl x h; omega
    have HL2 : Hid (xs.length ≤ 1073741824) := by show _ ≤ _; omega
    have HI : Hid (∀ u b c, RdL u b xs.length xs → Calls Try.prog 11 #[.slice b xs.length c] u (StuRet (stuW xs) u)) := fun u b c h => stuffLines_any b xs.length c xs u h HL2.out HX.out
    have HI : Hid (∀ u b c, RdL u b xs.length xs → Calls Try.prog 11 #[.slice b xs.length c] u fun e w' => e = .returned (.tuple #[.string (str ((stuW xs).getD [])), .bool (stuW xs).isSome]) ∧ Below u.heap.size u w') := HI.out
    have HS : Hid (∀ u b c, RdL u b xs.length xs → Calls Try.prog 9 #[.slice b xs.length c] u fun e w' => e = .returned (.tuple #[.string (str ((stuW xs).getD [])), .bool (stuW xs).isSome]) ∧ u = w') := fun u b c h => stuffLinesS_any b xs.length c xs u h HL2.out HX.out
    have e1 := sel9x_f (str ((stuW xs).getD []))
    have HR := Lib.hid hr
    clear hsz hnl hxl hlen hx hr
    generalize str ((stuW xs).getD []) = B at *
    generalize (stuW xs).isSome = ok at *
    go_wp2_with fail
    refine (toStringS_any a n c xs _ HR.out HN.out).mono ?_
    rintro e w1 ⟨a1, c1, rfl, ho1, hd1, hb1⟩
    go_wp2_with fail
    refine (HS.out _ a1 c1 hd1).mono ?_
    rintro e w2 ⟨rfl, rfl⟩
    clear hd1 ho1
    go_wp2_with fail
    refine (toStringS_any a n c xs _ (HR.out.below hb1) HN.out).mono ?_
    rintro e w3 ⟨a3, c3, rfl, ho3, hd3, hb3⟩
    have hb13 := nx hb1 hb3
    have HD3 := Lib.hid hd3
    clear hd3 ho3
    go_wp2_with fail
    refine (HI.out _ a3 c3 HD3.out).mono ?_
    rintro e w4 ⟨rfl, hb4⟩
    have hb14 := nx hb13 hb4
    have HD34 := Lib.hid (HD3.out.below hb4)
    cases ok
    all_goals
      go_wp2_with fail
      refine (toStringS_any a n c xs _ (HR.out.below hb14) HN.out).mono ?_
      rintro e w5 ⟨a5, c5, rfl, ho5, hd5, hb5⟩
      have hb15 := nx hb14 hb5
      have HD35 := Lib.hid (HD34.out.below hb5)
      go_wp2_with fail
      refine (eqStringS_any _ _ _ _ _ _ xs xs _ HD35.out hd5 (by have := HL2.out; unfold maxLen; omega) (by have := HL2.out; unfold maxLen; omega)).mono ?_
      rintro e w6 ⟨rfl, hb6⟩
      rw [decide_eq_true (rfl : xs = xs)]
      go_wp2
      go_ret
      exact ⟨rfl, nx hb15 hb6⟩
set_option maxRecDepth 100000 in
theorem fnExactStuffLines_lifted (os : Os) (started : os.Started) (H : Type) (enc : TypeId × Value → H) :
    ReturnsInHanded {} Try.checked os 3 .any (Rows.fnExactStuffLinesSpec.pre6 enc Try.prog Try.f3 Rows.fnExactStuffLinesRow.domain false) (Rows.fnExactStuffLinesSpec.post enc Try.prog Try.f3 false true false false) := by
  refine returnsInHanded_of_change (C := Try.checked) own started (by kernel_rfl) Try.func3
    (ChangeSpec.witness6 (enc := enc) (C := Try.checked) false ⟨#[], #[.slice none 0 0], []⟩ 8 (by kernel_rfl) (by kernel_rfl) (by kernel_rfl) (by kernel_rfl)) ?_
  intro W base args ds gs before hval0 hW hcnd _
  have hval : ∀ (j : Nat) t v, Try.f3.params[j]? = some t → args[j]? = some v → Value.okWide Try.prog W .any base t v := hval0
  have hW' := hW
  obtain ⟨p, q, hA0, hV, rfl, hfz, hnd⟩ := hW
  have hA : DataW.TrodAll enc Try.prog W 0 (fun _ => true) true Try.f3.params.toList args.toList ds p := hA0
  rw [Try.params3] at hA hval
  obtain ⟨v0, vs0, d0, ds0, p0, q0, hargs, rfl, rfl, h0, r0⟩ := trodAll_cons hA
  obtain ⟨rfl, rfl, rfl⟩ := trodAll_nil r0
  obtain rfl : args = #[v0] := by cases args; simp_all
  obtain ⟨rfl, rfl⟩ := trodVars_none hV
  obtain ⟨a0, n0, c0, rfl⟩ := okWide_slice Try.underlying22 (hval 0 22 v0 rfl rfl)
  have k0 := h0
  have lt0 : ∀ x ∈ p0, x.block < W.heap.size := by obtain ⟨m, hm⟩ := k0; exact DataW.trod_lt m _ _ _ hm
  obtain ⟨l0, w0, x0, y0⟩ := strs_of_trod Try.underlying22 Try.underlying9 (by kernel_rfl) h0
  clear hA0 hval0
  refine (fnExactStuffLines_walk a0 n0 c0 l0 W w0 x0 y0).mono fun e W' ⟨he, bel⟩ => ?_
  subst he
  exact ⟨_, rfl, _, _, _, [], _, [], hW', trodAll_mk1 (shut_bool Try.underlying4 _), (trodAll_cons_mk (Below.trod laidOut (by kernel_rfl) (of_decide_eq_true (by kernel_rfl)) k0 bel lt0) trodAll_mk0), rfl, bel.frame _, fun h => by cases h⟩
/-- FnExactStuffLines: THE STATEMENT. -/
theorem fnExactStuffLines_holds : Rows.FnExactStuffLinesSaid :=
  OpenClaim.holds_of_wide 3 Try.f3 rfl rfl rfl rfl rfl rfl rfl ⟨rfl, rfl, rfl, rfl, rfl⟩ rfl rfl rfl rfl rfl (by kernel_rfl) Try.func3 (by kernel_rfl)
    (of_decide_eq_true (by kernel_rfl)) (by unfold Func.isWrapper; first | (rw [if_pos (by decide +kernel)]; kernel_rfl) | (rw [if_neg (by decide +kernel)]; exact ⟨rfl, rfl⟩))
    (fun os started H enc _ => fnExactStuffLines_lifted os started H enc)
theorem exactUnstuffText_two (s : ByteArray) (hs : s.size ≤ 1048576) : ∃ (xs : List (List UInt8)) (R : ByteArray) (ok : Bool), xs.length ≤ 1048576 ∧
      Hid (∀ u, MxL u → Calls Try.prog 14 #[.string s] u fun e w' => ∃ a c, e = .returned (.tuple #[.slice a xs.length c, .string R, .bool ok]) ∧ OwnL u.heap.size (.slice a xs.length c) xs w' ∧ Below u.heap.size u w') ∧
      Hid (∀ u, Calls Try.prog 13 #[.string s] u fun e w' => ∃ a c, e = .returned (.tuple #[.slice a xs.length c, .string R, .bool ok]) ∧ OwnL u.heap.size (.slice a xs.length c) xs w' ∧ Below u.heap.size u w') := by
  refine ⟨((unsW s.data.toList).getD ([], [])).1, str ((unsW s.data.toList).getD ([], [])).2, (unsW s.data.toList).isSome, ?_, fun u h => (unstuffText_any s u h (by omega)).mono ?_, fun u => (unstuffTextS_any s u (by omega)).mono ?_⟩
  · cases ho : unsW s.data.toList with
    | none => simp
    | some p =>
      unfold unsW at ho
      split at ho
      · rename_i h0
        have := (unsN_lens _ _ _ ho).1
        show p.1.length ≤ _
        omega
      · cases ho
  · rintro e w' ⟨v, rfl, ho, hb⟩
    obtain ⟨a, c, rfl, _⟩ := ho.read
    exact ⟨a, c, rfl, ho, hb⟩
  · rintro e w' ⟨v, rfl, ho, hb⟩
    obtain ⟨a, c, rfl, _⟩ := ho.read
    exact ⟨a, c, rfl, ho, hb⟩
theorem exactSplitWire_two (s : ByteArray) (hs : s.size ≤ 1048576) : ∃ (xs : List (List UInt8)) (R : ByteArray) (_ok : Bool), xs.length ≤ 1048576 ∧
      Hid (∀ u, MxL u → Calls Try.prog 22 #[.string s] u fun e w' => ∃ a c, e = .returned (.tuple #[.slice a xs.length c, .string R]) ∧ OwnL u.heap.size (.slice a xs.length c) xs w' ∧ Below u.heap.size u w') ∧
      Hid (∀ u, Calls Try.prog 21 #[.string s] u fun e w' => ∃ a c, e = .returned (.tuple #[.slice a xs.length c, .string R]) ∧ OwnL u.heap.size (.slice a xs.length c) xs w' ∧ Below u.heap.size u w') := by
  refine ⟨(spliL s.data.toList).1, str (spliL s.data.toList).2, true, ?_, fun u h => (splitWire_any s u h (by omega)).mono ?_, fun u => (splitWireS_any s u (by omega)).mono ?_⟩
  · have := (spliN_lens (s.data.toList.length + 1) s.data.toList).1
    rw [size_list] at this
    show (spliL s.data.toList).1.length ≤ _
    unfold spliL
    rw [size_list]
    omega
  · rintro e w' ⟨v, rfl, ho, hb⟩
    obtain ⟨a, c, rfl, _⟩ := ho.read
    exact ⟨a, c, rfl, ho, hb⟩
  · rintro e w' ⟨v, rfl, ho, hb⟩
    obtain ⟨a, c, rfl, _⟩ := ho.read
    exact ⟨a, c, rfl, ho, hb⟩
set_option maxRecDepth 100000 in
set_option maxHeartbeats 4000000 in
theorem fnExactUnstuffText_walk (s : ByteArray) (w : World) (hmx : ∃ m, w.cell? ⟨0, 0, none⟩ = some (.int .i64 m)) (hs : s.size ≤ maxLen) :
    Calls Try.prog 4 #[.string s] w fun e w' => e = .returned (.bool true) ∧ Below w.heap.size w w' := by
  have hm' := hs
  unfold maxLen at hm'
  have HMX : Hid (∀ u, Below w.heap.size w u → MxL u) := fun u h => MxL.below hmx h
  by_cases hn : 1048576 < s.size
  · have hd : decide ((1048576 : Int) < s.size) = true := by simp; omega
    go_enter Try.func4, Try.ntmps4
    go_wp2
    go_ret
    exact ⟨rfl, Below.refl _ _⟩
  have hd : decide ((1048576 : Int) < s.size) = false := by simp; omega
  obtain ⟨xs, R, ok, hlen, HI, HS⟩ : ∃ (xs : List (List UInt8)) (R : ByteArray) (ok : Bool), xs.length ≤ 1048576 ∧
      Hid (∀ u, MxL u → Calls Try.prog 14 #[.string s] u fun e w' => ∃ a c, e = .returned (.tuple #[.slice a xs.length c, .string R, .bool ok]) ∧ OwnL u.heap.size (.slice a xs.length c) xs w' ∧ Below u.heap.size u w') ∧
      Hid (∀ u, Calls Try.prog 13 #[.string s] u fun e w' => ∃ a c, e = .returned (.tuple #[.slice a xs.length c, .string R, .bool ok]) ∧ OwnL u.heap.size (.slice a xs.length c) xs w' ∧ Below u.heap.size u w') := by
    exact exactUnstuffText_two s (by omega)
  have e1 := sel9x_f R
  go_enter Try.func4, Try.ntmps4
  go_wp2_with fail
  refine (HS.out _).mono ?_
  rintro e w1 ⟨a1, c1, rfl, ho1, hb1⟩
  obtain ⟨_, _, hv1, hr1, hm1⟩ := ho1.read
  injection hv1 with f1 f2 f3
  subst f1 f3
  go_wp2_with fail
  refine (HI.out _ (HMX.out _ hb1)).mono ?_
  rintro e w2 ⟨a2, c2, rfl, ho2, hb2⟩
  obtain ⟨_, _, hv2, hr2, hm2⟩ := ho2.read
  injection hv2 with f1 f2 f3
  subst f1 f3
  have hb12 := nx hb1 hb2
  have HR12 := Lib.hid (hr1.below hb2)
  have HR2 := Lib.hid hr2
  have HO2 := Lib.hid ho2
  have HR1 := Lib.hid hr1
  have HM := Lib.hid hm1
  clear ho1 ho2 hr1 hr2 hm1 hm2
  go_wp2_with fail
  refine (eqStringS_any _ _ _ _ _ _ xs xs _ HR2.out HR12.out HM.out HM.out).mono ?_
  rintro e w3 ⟨rfl, hb3⟩
  rw [decide_eq_true (rfl : xs = xs)]
  have hb13 := nx hb12 hb3
  have hz1 := hb1.size
  have hz2 := hb2.size
  have hz3 := hb3.size
  have HO3 := Lib.hid (HO2.out.keep hb3)
  go_wp2_with fail
  refine (markStringS_any w1.heap.size a2 xs.length c2 xs 1 _ HO3.out rfl (by omega) (by omega) (by omega)).mono ?_
  rintro e w4 ⟨rfl, ho4, hb4⟩
  have HR14 : Hid (RdL w4 a1 xs.length xs) := HR1.out.below ((hb2.trans (hb3.mono hz2)).trans hb4)
  have hb14 : Below w.heap.size w w4 := hb13.trans (hb4.mono hz1)
  have HM4 : Hid (RdL w4 a2 xs.length (marksFrom 1 xs.length)) := by
    obtain ⟨a', c', hv, hr, _⟩ := ho4.read
    rw [marksFrom_len] at hv hr
    injection hv with e1 _ _
    show RdL _ _ _ _
    rw [e1]; exact hr
  clear ho4
  go_wp2_with fail
  refine (heldStringS_any a2 xs.length c2 1 _ HM4.out (by omega) (by omega)).mono ?_
  rintro e w5 ⟨rfl, hb5⟩
  have hb15 := nx hb14 hb5
  have HM5 := Lib.hid (HM4.out.below hb5)
  go_wp2_with fail
  refine (HI.out _ (HMX.out _ hb15)).mono ?_
  rintro e w6 ⟨a6, c6, rfl, ho6, hb6⟩
  obtain ⟨_, _, hv6, hr6, hm6⟩ := ho6.read
  injection hv6 with f1 f2 f3
  subst f1 f3
  have HR6 := Lib.hid hr6
  have HR16 := Lib.hid ((HR14.out.below hb5).below hb6)
  have HM6 := Lib.hid (HM5.out.below hb6)
  have hb16 := nx hb15 hb6
  clear ho6 hr6 hm6
  go_wp2_with fail
  refine (eqStringS_any _ _ _ _ _ _ xs xs _ HR6.out HR16.out HM.out HM.out).mono ?_
  rintro e w7 ⟨rfl, hb7⟩
  rw [decide_eq_true (rfl : xs = xs)]
  have hb17 := nx hb16 hb7
  have HM7 := Lib.hid (HM6.out.below hb7)
  go_wp2_with fail
  refine (heldStringS_any a2 xs.length c2 1 _ HM7.out (by omega) (by omega)).mono ?_
  rintro e w8 ⟨rfl, hb8⟩
  go_wp2
  go_ret
  exact ⟨rfl, nx hb17 hb8⟩
set_option maxRecDepth 100000 in
theorem fnExactUnstuffText_lifted (os : Os) (started : os.Started) (H : Type) (enc : TypeId × Value → H) :
    ReturnsInHanded {} Try.checked os 4 .any (Rows.fnExactUnstuffTextSpec.pre6 enc Try.prog Try.f4 Rows.fnExactUnstuffTextRow.domain false) (Rows.fnExactUnstuffTextSpec.post enc Try.prog Try.f4 false true false false) := by
  refine returnsInHanded_of_change_shaped (C := Try.checked) own started (by kernel_rfl) Try.func4
    (ChangeSpec.witness6 (enc := enc) (C := Try.checked) false ⟨#[], #[.string ByteArray.empty], []⟩ 8 (by kernel_rfl) (by kernel_rfl) (by kernel_rfl) (by kernel_rfl)) ?_
  intro W base args ds gs before hval0 hW hcnd _ hsh _
  have hval : ∀ (j : Nat) t v, Try.f4.params[j]? = some t → args[j]? = some v → Value.okWide Try.prog W .any base t v := hval0
  have hW' := hW
  obtain ⟨p, q, hA0, hV, rfl, hfz, hnd⟩ := hW
  have hA : DataW.TrodAll enc Try.prog W 0 (fun _ => true) true Try.f4.params.toList args.toList ds p := hA0
  rw [Try.params4] at hA hval
  obtain ⟨v0, vs0, d0, ds0, p0, q0, hargs, rfl, rfl, h0, r0⟩ := trodAll_cons hA
  obtain ⟨rfl, rfl, rfl⟩ := trodAll_nil r0
  obtain rfl : args = #[v0] := by cases args; simp_all
  obtain ⟨rfl, rfl⟩ := trodVars_none hV
  obtain ⟨a0, rfl, rfl, rfl, w0⟩ := open_string Try.underlying9 (hval 0 9 v0 rfl rfl) h0
  clear hA0 hval0
  refine (fnExactUnstuffText_walk a0 W (mx_of_shaped hsh) w0).mono fun e W' ⟨he, bel⟩ => ?_
  subst he
  exact ⟨_, rfl, _, _, _, [], _, [], hW', trodAll_mk1 (shut_bool Try.underlying4 _), (trodAll_cons_mk (shut_string Try.underlying9 w0) trodAll_mk0), rfl, bel.frame _, fun h => by cases h⟩
/-- FnExactUnstuffText: THE STATEMENT. -/
theorem fnExactUnstuffText_holds : Rows.FnExactUnstuffTextSaid :=
  OpenClaim.holds_of_wide 4 Try.f4 rfl rfl rfl rfl rfl rfl rfl ⟨rfl, rfl, rfl, rfl, rfl⟩ rfl rfl rfl rfl rfl (by kernel_rfl) Try.func4 (by kernel_rfl)
    (of_decide_eq_true (by kernel_rfl)) (by unfold Func.isWrapper; first | (rw [if_pos (by decide +kernel)]; kernel_rfl) | (rw [if_neg (by decide +kernel)]; exact ⟨rfl, rfl⟩))
    (fun os started H enc _ => fnExactUnstuffText_lifted os started H enc)
set_option maxRecDepth 100000 in
set_option maxHeartbeats 4000000 in
theorem fnExactSplitWire_walk (s : ByteArray) (w : World) (hmx : ∃ m, w.cell? ⟨0, 0, none⟩ = some (.int .i64 m)) (hs : s.size ≤ maxLen) :
    Calls Try.prog 7 #[.string s] w fun e w' => e = .returned (.bool true) ∧ Below w.heap.size w w' := by
  have hm' := hs
  unfold maxLen at hm'
  have HMX : Hid (∀ u, Below w.heap.size w u → MxL u) := fun u h => MxL.below hmx h
  by_cases hn : 1048576 < s.size
  · have hd : decide ((1048576 : Int) < s.size) = true := by simp; omega
    go_enter Try.func7, Try.ntmps7
    go_wp2
    go_ret
    exact ⟨rfl, Below.refl _ _⟩
  have hd : decide ((1048576 : Int) < s.size) = false := by simp; omega
  obtain ⟨xs, R, ok, hlen, HI, HS⟩ : ∃ (xs : List (List UInt8)) (R : ByteArray) (ok : Bool), xs.length ≤ 1048576 ∧
      Hid (∀ u, MxL u → Calls Try.prog 22 #[.string s] u fun e w' => ∃ a c, e = .returned (.tuple #[.slice a xs.length c, .string R]) ∧ OwnL u.heap.size (.slice a xs.length c) xs w' ∧ Below u.heap.size u w') ∧
      Hid (∀ u, Calls Try.prog 21 #[.string s] u fun e w' => ∃ a c, e = .returned (.tuple #[.slice a xs.length c, .string R]) ∧ OwnL u.heap.size (.slice a xs.length c) xs w' ∧ Below u.heap.size u w') := by
    exact exactSplitWire_two s (by omega)
  have e1 := sel9x_f R
  go_enter Try.func7, Try.ntmps7
  go_wp2_with fail
  refine (HS.out _).mono ?_
  rintro e w1 ⟨a1, c1, rfl, ho1, hb1⟩
  obtain ⟨_, _, hv1, hr1, hm1⟩ := ho1.read
  injection hv1 with f1 f2 f3
  subst f1 f3
  go_wp2_with fail
  refine (HI.out _ (HMX.out _ hb1)).mono ?_
  rintro e w2 ⟨a2, c2, rfl, ho2, hb2⟩
  obtain ⟨_, _, hv2, hr2, hm2⟩ := ho2.read
  injection hv2 with f1 f2 f3
  subst f1 f3
  have hb12 := nx hb1 hb2
  have HR12 := Lib.hid (hr1.below hb2)
  have HR2 := Lib.hid hr2
  have HO2 := Lib.hid ho2
  have HR1 := Lib.hid hr1
  have HM := Lib.hid hm1
  clear ho1 ho2 hr1 hr2 hm1 hm2
  go_wp2_with fail
  refine (eqStringS_any _ _ _ _ _ _ xs xs _ HR2.out HR12.out HM.out HM.out).mono ?_
  rintro e w3 ⟨rfl, hb3⟩
  rw [decide_eq_true (rfl : xs = xs)]
  have hb13 := nx hb12 hb3
  have hz1 := hb1.size
  have hz2 := hb2.size
  have hz3 := hb3.size
  have HO3 := Lib.hid (HO2.out.keep hb3)
  go_wp2_with fail
  refine (markStringS_any w1.heap.size a2 xs.length c2 xs 1 _ HO3.out rfl (by omega) (by omega) (by omega)).mono ?_
  rintro e w4 ⟨rfl, ho4, hb4⟩
  have HR14 : Hid (RdL w4 a1 xs.length xs) := HR1.out.below ((hb2.trans (hb3.mono hz2)).trans hb4)
  have hb14 : Below w.heap.size w w4 := hb13.trans (hb4.mono hz1)
  have HM4 : Hid (RdL w4 a2 xs.length (marksFrom 1 xs.length)) := by
    obtain ⟨a', c', hv, hr, _⟩ := ho4.read
    rw [marksFrom_len] at hv hr
    injection hv with e1 _ _
    show RdL _ _ _ _
    rw [e1]; exact hr
  clear ho4
  go_wp2_with fail
  refine (heldStringS_any a2 xs.length c2 1 _ HM4.out (by omega) (by omega)).mono ?_
  rintro e w5 ⟨rfl, hb5⟩
  have hb15 := nx hb14 hb5
  have HM5 := Lib.hid (HM4.out.below hb5)
  go_wp2_with fail
  refine (HI.out _ (HMX.out _ hb15)).mono ?_
  rintro e w6 ⟨a6, c6, rfl, ho6, hb6⟩
  obtain ⟨_, _, hv6, hr6, hm6⟩ := ho6.read
  injection hv6 with f1 f2 f3
  subst f1 f3
  have HR6 := Lib.hid hr6
  have HR16 := Lib.hid ((HR14.out.below hb5).below hb6)
  have HM6 := Lib.hid (HM5.out.below hb6)
  have hb16 := nx hb15 hb6
  clear ho6 hr6 hm6
  go_wp2_with fail
  refine (eqStringS_any _ _ _ _ _ _ xs xs _ HR6.out HR16.out HM.out HM.out).mono ?_
  rintro e w7 ⟨rfl, hb7⟩
  rw [decide_eq_true (rfl : xs = xs)]
  have hb17 := nx hb16 hb7
  have HM7 := Lib.hid (HM6.out.below hb7)
  go_wp2_with fail
  refine (heldStringS_any a2 xs.length c2 1 _ HM7.out (by omega) (by omega)).mono ?_
  rintro e w8 ⟨rfl, hb8⟩
  go_wp2
  go_ret
  exact ⟨rfl, nx hb17 hb8⟩
set_option maxRecDepth 100000 in
theorem fnExactSplitWire_lifted (os : Os) (started : os.Started) (H : Type) (enc : TypeId × Value → H) :
    ReturnsInHanded {} Try.checked os 7 .any (Rows.fnExactSplitWireSpec.pre6 enc Try.prog Try.f7 Rows.fnExactSplitWireRow.domain false) (Rows.fnExactSplitWireSpec.post enc Try.prog Try.f7 false true false false) := by
  refine returnsInHanded_of_change_shaped (C := Try.checked) own started (by kernel_rfl) Try.func7
    (ChangeSpec.witness6 (enc := enc) (C := Try.checked) false ⟨#[], #[.string ByteArray.empty], []⟩ 8 (by kernel_rfl) (by kernel_rfl) (by kernel_rfl) (by kernel_rfl)) ?_
  intro W base args ds gs before hval0 hW hcnd _ hsh _
  have hval : ∀ (j : Nat) t v, Try.f7.params[j]? = some t → args[j]? = some v → Value.okWide Try.prog W .any base t v := hval0
  have hW' := hW
  obtain ⟨p, q, hA0, hV, rfl, hfz, hnd⟩ := hW
  have hA : DataW.TrodAll enc Try.prog W 0 (fun _ => true) true Try.f7.params.toList args.toList ds p := hA0
  rw [Try.params7] at hA hval
  obtain ⟨v0, vs0, d0, ds0, p0, q0, hargs, rfl, rfl, h0, r0⟩ := trodAll_cons hA
  obtain ⟨rfl, rfl, rfl⟩ := trodAll_nil r0
  obtain rfl : args = #[v0] := by cases args; simp_all
  obtain ⟨rfl, rfl⟩ := trodVars_none hV
  obtain ⟨a0, rfl, rfl, rfl, w0⟩ := open_string Try.underlying9 (hval 0 9 v0 rfl rfl) h0
  clear hA0 hval0
  refine (fnExactSplitWire_walk a0 W (mx_of_shaped hsh) w0).mono fun e W' ⟨he, bel⟩ => ?_
  subst he
  exact ⟨_, rfl, _, _, _, [], _, [], hW', trodAll_mk1 (shut_bool Try.underlying4 _), (trodAll_cons_mk (shut_string Try.underlying9 w0) trodAll_mk0), rfl, bel.frame _, fun h => by cases h⟩
/-- FnExactSplitWire: THE STATEMENT. -/
theorem fnExactSplitWire_holds : Rows.FnExactSplitWireSaid :=
  OpenClaim.holds_of_wide 7 Try.f7 rfl rfl rfl rfl rfl rfl rfl ⟨rfl, rfl, rfl, rfl, rfl⟩ rfl rfl rfl rfl rfl (by kernel_rfl) Try.func7 (by kernel_rfl)
    (of_decide_eq_true (by kernel_rfl)) (by unfold Func.isWrapper; first | (rw [if_pos (by decide +kernel)]; kernel_rfl) | (rw [if_neg (by decide +kernel)]; exact ⟨rfl, rfl⟩))
    (fun os started H enc _ => fnExactSplitWire_lifted os started H enc)
end Go.Proofs.Ytnlnkcjphioehab
