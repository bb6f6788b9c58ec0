/-
  Laws of chapter 3 on names: each law's walk. For every input of the law: it returns true, and the input reads as it did. Conditions: none but the statement's own.
-/
import Derived.Test.YtfjpajeipihlaaaLaw0
import Derived.Test.YtfjpajeipihlaaaDrawF2
import Derived.Test.YtfjpajeipihlaaaDropF
import Derived.Test.YtfjpajeipihlaaaSameF
namespace Go.Proofs.Ytfjpajeipihlaaa
open Go.ChangeShapes Go.WideShapes Go.ChangeAt Go.RowKit
open Go.ChangeMaps (open_string shut_string)

set_option maxRecDepth 100000 in
set_option maxHeartbeats 1000000 in
theorem fnGetField_walk (a : Option Addr) (n c : Nat) (w : World) (hc : Code w a n) (hnc : n ≤ c) (hm : c ≤ maxLen) :
    Calls Try.prog 6 #[.slice a n c] w fun e w' => e = .returned (.bool true) ∧ Below w.heap.size w w' := by
  have hm' := hm
  unfold maxLen at hm'
  by_cases hn : 1048576 < n
  · have hd : decide ((1048576 : Int) < n) = true := by simp; omega
    go_enter Try.func6, Try.ntmps6
    go_wp2
    go_ret
    exact ⟨rfl, Below.refl _ _⟩
  · have hd : decide ((1048576 : Int) < n) = false := by simp; omega
    go_enter Try.func6, Try.ntmps6
    go_wp2_with fail
    refine (drawGetField_any a n c w hc hnc hm).mono ?_
    rintro e w1 ⟨v, xs, s, rfl, ho, hl4, hsm, hs10, hb1⟩
    obtain ⟨a1, c1, rfl, hd1, _, _⟩ := ho.read fldC_len
    have HSM : Hid (∀ x ∈ xs, SmallF 1073741824 x) := fun x hx => (hsm x hx).up (by omega)
    have HD := Lib.hid hd1
    have hn1 : xs.length ≤ 1073741824 := by omega
    have HLO : Hid (getR xs (lowS s).data.toList = getR xs s.data.toList ∧ (getF xs (lowS s).data.toList).isSome = (getF xs s.data.toList).isSome) := by
      show _ ∧ _
      rw [lowS_list]; unfold getR; rw [getF_low]; exact ⟨rfl, rfl⟩
    have HCT := Lib.hid (getF_count xs s.data.toList)
    have hlz : (lowS s).size ≤ 1073741824 := by rw [lowS_size]; omega
    clear hd1 ho hsm
    go_wp2_with fail
    refine (getField_any a1 _ c1 xs s _ HD.out hn1 HSM.out (by omega)).mono ?_
    rintro e w2 ⟨rfl, hb2⟩
    generalize hG : getR xs s.data.toList = gr at *
    generalize hO : (getF xs s.data.toList).isSome = ok at *
    have HG : Hid (getR xs s.data.toList = gr ∧ (getF xs s.data.toList).isSome = ok) := ⟨hG, hO⟩
    clear hG hO
    go_wp2_with fail
    refine (getFieldS_any a1 _ c1 xs s _ (HD.out.below hb2) hn1 HSM.out (by omega)).mono ?_
    rintro e w3 ⟨rfl, hb3⟩
    rw [HG.out.1, HG.out.2]
    have e1 : ((str gr).toList != (str gr).toList) = false := by simp
    have e2 : ((str gr).toList == (str gr).toList) = true := by simp
    generalize hSG : str gr = sg at *
    have HSG := Lib.hid hSG
    clear hSG
    have hb13 := nx hb2 hb3
    cases ok
    all_goals
      go_wp2_with fail
      refine (lowerText_any s _ (by omega)).mono ?_
      rintro e w4 ⟨rfl, hb4⟩
      have hb14 := nx hb13 hb4
      go_wp2_with fail
      refine (getField_any a1 _ c1 xs (lowS s) _ (HD.out.below hb14) hn1 HSM.out hlz).mono ?_
      rintro e w5 ⟨rfl, hb5⟩
      rw [HLO.out.1, HLO.out.2, HSG.out]
      have hb15 := nx hb14 hb5
      go_wp2_with fail
      refine (countField_any a1 _ c1 xs s _ (HD.out.below hb15) hn1 HSM.out (by omega)).mono ?_
      rintro e w6 ⟨rfl, hb6⟩
      have hcz := HCT.out
      generalize countF xs s.data.toList = m at *
      go_wp2
      go_ret
      exact ⟨ret_bool (by first | rfl | (simp at hcz ⊢; first | exact hcz | omega)), nx hb1 (nx hb15 hb6)⟩
set_option maxRecDepth 100000 in
theorem fnGetField_lifted (os : Os) (started : os.Started) (H : Type) (enc : TypeId × Value → H) :
    ReturnsInHanded {} Try.checked os 6 .any (Rows.fnGetFieldSpec.pre6 enc Try.prog Try.f6 Rows.fnGetFieldRow.domain false) (Rows.fnGetFieldSpec.post enc Try.prog Try.f6 false true false false) := by
  refine returnsInHanded_of_change (C := Try.checked) own started (by kernel_rfl) Try.func6
    (ChangeSpec.witness6 (enc := enc) (C := Try.checked) false ⟨#[], #[.slice none 0 0], []⟩ 8 (by kernel_rfl) (by kernel_rfl) (by kernel_rfl) (by kernel_rfl)) ?_
  intro W base args ds gs before hval0 hW hcnd _
  have hval : ∀ (j : Nat) t v, Try.f6.params[j]? = some t → args[j]? = some v → Value.okWide Try.prog W .any base t v := hval0
  have hW' := hW
  obtain ⟨p, q, hA0, hV, rfl, hfz, hnd⟩ := hW
  have hA : DataW.TrodAll enc Try.prog W 0 (fun _ => true) true Try.f6.params.toList args.toList ds p := hA0
  rw [Try.params6] at hA hval
  obtain ⟨v0, vs0, d0, ds0, p0, q0, hargs, rfl, rfl, h0, r0⟩ := trodAll_cons hA
  obtain ⟨rfl, rfl, rfl⟩ := trodAll_nil r0
  obtain rfl : args = #[v0] := by cases args; simp_all
  obtain ⟨rfl, rfl⟩ := trodVars_none hV
  obtain ⟨a0, n0, c0, rfl⟩ := okWide_slice Try.underlying22 (hval 0 22 v0 rfl rfl)
  have k0 := h0
  have lt0 : ∀ x ∈ p0, x.block < W.heap.size := by obtain ⟨m, hm⟩ := k0; exact DataW.trod_lt m _ _ _ hm
  obtain ⟨w0, x0, y0⟩ := code_of_trod Try.underlying22 Try.underlying5 (by kernel_rfl) h0
  clear hA0 hval0
  refine (fnGetField_walk a0 n0 c0 W w0 x0 y0).mono fun e W' ⟨he, bel⟩ => ?_
  subst he
  exact ⟨_, rfl, _, _, _, [], _, [], hW', trodAll_mk1 (shut_bool Try.underlying4 _), (trodAll_cons_mk (Below.trod laidOut (by kernel_rfl) (of_decide_eq_true (by kernel_rfl)) k0 bel lt0) trodAll_mk0), rfl, bel.frame _, fun h => by cases h⟩
/-- FnGetField: THE STATEMENT. -/
theorem fnGetField_holds : Rows.FnGetFieldSaid :=
  OpenClaim.holds_of_wide 6 Try.f6 rfl rfl rfl rfl rfl rfl rfl ⟨rfl, rfl, rfl, rfl, rfl⟩ rfl rfl rfl rfl rfl (by kernel_rfl) Try.func6 (by kernel_rfl)
    (of_decide_eq_true (by kernel_rfl)) (by unfold Func.isWrapper; first | (rw [if_pos (by decide +kernel)]; kernel_rfl) | (rw [if_neg (by decide +kernel)]; exact ⟨rfl, rfl⟩))
    (fun os started H enc _ => fnGetField_lifted os started H enc)
set_option maxRecDepth 100000 in
set_option maxHeartbeats 1000000 in
theorem fnDropField_walk (a : Option Addr) (n c : Nat) (w : World) (hc : Code w a n) (hnc : n ≤ c) (hm : c ≤ maxLen) :
    Calls Try.prog 7 #[.slice a n c] w fun e w' => e = .returned (.bool true) ∧ Below w.heap.size w w' := by
  have hm' := hm
  unfold maxLen at hm'
  by_cases hn : 1048576 < n
  · have hd : decide ((1048576 : Int) < n) = true := by simp; omega
    go_enter Try.func7, Try.ntmps7
    go_wp2
    go_ret
    exact ⟨rfl, Below.refl _ _⟩
  · have hd : decide ((1048576 : Int) < n) = false := by simp; omega
    go_enter Try.func7, Try.ntmps7
    go_wp2_with fail
    refine (drawDropField_any a n c w hc hnc hm).mono ?_
    rintro e w1 ⟨v, xs, s, rfl, ho, hl4, hsm, hs10, hb1⟩
    obtain ⟨a1, c1, rfl, hd1, _, _⟩ := ho.read fldC_len
    have HSM : Hid (∀ x ∈ xs, SmallF 1073741824 x) := fun x hx => (hsm x hx).up (by omega)
    have HSD : Hid (∀ x ∈ dropF xs s.data.toList, SmallF 1073741824 x) := fun x hx => HSM.out x (dropF_mem hx).1
    have HD := Lib.hid hd1
    have hn1 : xs.length ≤ 1073741824 := by omega
    have hdl := dropF_count xs s.data.toList
    have HDD := Lib.hid (drop_drop xs s.data.toList)
    have HDG := Lib.hid (drop_get xs s.data.toList)
    have HDC := Lib.hid (drop_count xs s.data.toList)
    clear hd1 ho hsm
    go_wp2_with fail
    refine (dropField_any a1 _ c1 xs s _ HD.out hn1 HSM.out (by omega)).mono ?_
    rintro e w2 ⟨v2, rfl, ho2, hb2⟩
    obtain ⟨a2, c2, rfl, hd2, hz2, _⟩ := ho2.read fldC_len
    have HD2 := Lib.hid hd2
    have hn2 : (dropF xs s.data.toList).length ≤ 1073741824 := by omega
    clear ho2 hd2
    go_wp2_with fail
    refine (countField_any a1 _ c1 xs s _ (HD.out.below hb2) hn1 HSM.out (by omega)).mono ?_
    rintro e w3 ⟨rfl, hb3⟩
    have hB3 := nx hb2 hb3
    go_wp2_with fail
    refine (dropFieldS_any a1 _ c1 xs s _ (HD.out.below hB3) hn1 HSM.out (by omega)).mono ?_
    rintro e w4 ⟨v4, rfl, ho4, hb4⟩
    obtain ⟨a4, c4, rfl, hd4, hz4, _⟩ := ho4.read fldC_len
    have HD4 := Lib.hid hd4
    have hB4 := nx hB3 hb4
    have hC4 := nx hb3 hb4
    clear ho4 hd4
    go_wp2_with fail
    refine (fieldsSame_any a2 a4 _ c2 _ c4 _ _ _ (HD2.out.below hC4) HD4.out hz2 hz4).mono ?_
    rintro e w5 ⟨rfl, hb5⟩
    rw [decide_eq_true (rfl : dropF xs s.data.toList = dropF xs s.data.toList)]
    have hB5 := nx hB4 hb5
    have hC5 := nx hC4 hb5
    go_wp2_with fail
    refine (countFieldS_any a1 _ c1 xs s _ (HD.out.below hB5) hn1 HSM.out (by omega)).mono ?_
    rintro e w6 ⟨rfl, hb6⟩
    have e1 : (((countF xs s.data.toList : Nat) : Int) != ((countF xs s.data.toList : Nat) : Int)) = false := by simp
    have hB6 := nx hB5 hb6
    have hC6 := nx hC5 hb6
    go_wp2_with fail
    refine (getField_any a2 _ c2 _ s _ (HD2.out.below hC6) hn2 HSD.out (by omega)).mono ?_
    rintro e w7 ⟨rfl, hb7⟩
    rw [HDG.out]
    have hC7 := nx hC6 hb7
    have hB7 := nx hB6 hb7
    have e2 : (((dropF xs s.data.toList).length : Int) + ((countF xs s.data.toList : Nat) : Int) == (xs.length : Int)) = true := by rw [beq_iff_eq]; omega
    go_wp2_with fail
    refine (dropField_any a2 _ c2 _ s _ (HD2.out.below hC7) hn2 HSD.out (by omega)).mono ?_
    rintro e w8 ⟨v8, rfl, ho8, hb8⟩
    rw [HDD.out] at ho8
    obtain ⟨a8, c8, rfl, hd8, hz8, _⟩ := ho8.read fldC_len
    have hC8 := nx hC7 hb8
    have hB8 := nx hB7 hb8
    have HD8 := Lib.hid hd8
    clear ho8 hd8
    go_wp2_with fail
    refine (fieldsSame_any a8 a2 _ c8 _ c2 _ _ _ HD8.out (HD2.out.below hC8) hz8 hz2).mono ?_
    rintro e w9 ⟨rfl, hb9⟩
    rw [decide_eq_true (rfl : dropF xs s.data.toList = dropF xs s.data.toList)]
    have hC9 := nx hC8 hb9
    have hB9 := nx hB8 hb9
    go_wp2_with fail
    refine (countField_any a2 _ c2 _ s _ (HD2.out.below hC9) hn2 HSD.out (by omega)).mono ?_
    rintro e w10 ⟨rfl, hb10⟩
    rw [HDC.out]
    go_wp2
    go_ret
    exact ⟨rfl, nx hb1 (nx hB9 hb10)⟩
set_option maxRecDepth 100000 in
theorem fnDropField_lifted (os : Os) (started : os.Started) (H : Type) (enc : TypeId × Value → H) :
    ReturnsInHanded {} Try.checked os 7 .any (Rows.fnDropFieldSpec.pre6 enc Try.prog Try.f7 Rows.fnDropFieldRow.domain false) (Rows.fnDropFieldSpec.post enc Try.prog Try.f7 false true false false) := by
  refine returnsInHanded_of_change (C := Try.checked) own started (by kernel_rfl) Try.func7
    (ChangeSpec.witness6 (enc := enc) (C := Try.checked) false ⟨#[], #[.slice none 0 0], []⟩ 8 (by kernel_rfl) (by kernel_rfl) (by kernel_rfl) (by kernel_rfl)) ?_
  intro W base args ds gs before hval0 hW hcnd _
  have hval : ∀ (j : Nat) t v, Try.f7.params[j]? = some t → args[j]? = some v → Value.okWide Try.prog W .any base t v := hval0
  have hW' := hW
  obtain ⟨p, q, hA0, hV, rfl, hfz, hnd⟩ := hW
  have hA : DataW.TrodAll enc Try.prog W 0 (fun _ => true) true Try.f7.params.toList args.toList ds p := hA0
  rw [Try.params7] at hA hval
  obtain ⟨v0, vs0, d0, ds0, p0, q0, hargs, rfl, rfl, h0, r0⟩ := trodAll_cons hA
  obtain ⟨rfl, rfl, rfl⟩ := trodAll_nil r0
  obtain rfl : args = #[v0] := by cases args; simp_all
  obtain ⟨rfl, rfl⟩ := trodVars_none hV
  obtain ⟨a0, n0, c0, rfl⟩ := okWide_slice Try.underlying22 (hval 0 22 v0 rfl rfl)
  have k0 := h0
  have lt0 : ∀ x ∈ p0, x.block < W.heap.size := by obtain ⟨m, hm⟩ := k0; exact DataW.trod_lt m _ _ _ hm
  obtain ⟨w0, x0, y0⟩ := code_of_trod Try.underlying22 Try.underlying5 (by kernel_rfl) h0
  clear hA0 hval0
  refine (fnDropField_walk a0 n0 c0 W w0 x0 y0).mono fun e W' ⟨he, bel⟩ => ?_
  subst he
  exact ⟨_, rfl, _, _, _, [], _, [], hW', trodAll_mk1 (shut_bool Try.underlying4 _), (trodAll_cons_mk (Below.trod laidOut (by kernel_rfl) (of_decide_eq_true (by kernel_rfl)) k0 bel lt0) trodAll_mk0), rfl, bel.frame _, fun h => by cases h⟩
/-- FnDropField: THE STATEMENT. -/
theorem fnDropField_holds : Rows.FnDropFieldSaid :=
  OpenClaim.holds_of_wide 7 Try.f7 rfl rfl rfl rfl rfl rfl rfl ⟨rfl, rfl, rfl, rfl, rfl⟩ rfl rfl rfl rfl rfl (by kernel_rfl) Try.func7 (by kernel_rfl)
    (of_decide_eq_true (by kernel_rfl)) (by unfold Func.isWrapper; first | (rw [if_pos (by decide +kernel)]; kernel_rfl) | (rw [if_neg (by decide +kernel)]; exact ⟨rfl, rfl⟩))
    (fun os started H enc _ => fnDropField_lifted os started H enc)
end Go.Proofs.Ytfjpajeipihlaaa
