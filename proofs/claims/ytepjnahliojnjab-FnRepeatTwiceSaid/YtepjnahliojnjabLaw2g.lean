/-
  Laws of chapter 2 on repeated addresses: each law's walk. For every input of the law: it returns true, and the input reads as it did. Conditions: none but the statement's own.
-/
import Derived.Test.YtepjnahliojnjabLaw2
import Derived.Test.YtepjnahliojnjabDrawA3
import Derived.Test.YtepjnahliojnjabDrop
import Derived.Test.YtepjnahliojnjabMwA
namespace Go.Proofs.Ytepjnahliojnjab
open Go.ChangeShapes Go.WideShapes Go.ChangeAt Go.RowKit
open Go.ChangeMaps (open_string shut_string)

theorem dropR_small {xs : List Adr} {M : Nat} (h : ∀ x ∈ xs, SmallA M x) : ∀ x ∈ dropR xs, SmallA M x := fun x hx => h x (dropR_mem hx)
set_option maxRecDepth 100000 in
set_option maxHeartbeats 1000000 in
theorem fnRepeatTwice_walk (a : Option Addr) (n c : Nat) (w : World) (hc : Code w a n) (hnc : n ≤ c) (hm : c ≤ maxLen) :
    Calls Try.prog 6 #[.slice a n c] w fun e w' => e = .returned (.bool true) ∧ Below w.heap.size w w' := by
  have hm' := hm
  unfold maxLen at hm'
  by_cases hn : 1048576 < n
  · have hd : decide ((1048576 : Int) < n) = true := by simp; omega
    go_enter Try.func6, Try.ntmps6
    go_wp2
    go_ret
    exact ⟨rfl, Below.refl _ _⟩
  · have hd : decide ((1048576 : Int) < n) = false := by simp; omega
    go_enter Try.func6, Try.ntmps6
    go_wp2_with fail
    refine (drawDropRepeated_any a n c w hc hnc hm).mono ?_
    rintro e w1 ⟨v, xs, rfl, ho, hl8, hx8, hb1⟩
    have HO1 := Lib.hid ho
    obtain ⟨a1, c1, rfl, hr1, hmx, _⟩ := ho.read adrC_len
    have HR1 := Lib.hid hr1
    have HX : Hid (∀ x ∈ xs, SmallA 1073741000 x) := fun x hx => (hx8 x hx).up (by omega)
    have hdl := dropR_len xs
    have HTW := Lib.hid (dropR_twice xs)
    have HB1 := Lib.hid hb1
    clear ho hr1 hx8 hb1
    go_wp2_with fail
    refine (dropRepeated_any a1 xs.length c1 xs _ HR1.out (by omega) HX.out).mono ?_
    rintro e w2 ⟨v2, rfl, ho2, hb2⟩
    generalize hD : dropR xs = ds at *
    have HD := Lib.hid hD
    obtain ⟨a2, c2, rfl, hr2, hm2, _⟩ := ho2.read adrC_len
    have HR2 := Lib.hid hr2
    have HR12 : Hid (RdA w2 a1 xs.length xs) := HR1.out.below hb2
    have HO12 : Hid (OwnA w.heap.size (.slice a1 xs.length c1) xs w2) := HO1.out.keep hb2
    have HB2 := Lib.hid (nx HB1.out hb2)
    clear ho2 hr2 hb2 hD
    go_wp2_with fail
    refine (dropRepeatedS_any a1 xs.length c1 xs _ HR12.out (by omega) HX.out).mono ?_
    rintro e w3 ⟨v3, rfl, ho3, hb3⟩
    rw [HD.out] at ho3
    obtain ⟨a3, c3, rfl, hr3, hm3, _⟩ := ho3.read adrC_len
    have HR3 := Lib.hid hr3
    have HR23 : Hid (RdA w3 a2 ds.length ds) := HR2.out.below hb3
    have HO13 : Hid (OwnA w.heap.size (.slice a1 xs.length c1) xs w3) := HO12.out.keep hb3
    have HB3 := Lib.hid (nx HB2.out hb3)
    clear ho3 hr3 hb3
    go_wp2_with fail
    refine (mwAddresses_any a2 a3 ds.length c2 ds.length c3 ds ds _ HR23.out HR3.out hm2 hm2).mono ?_
    rintro e w4 ⟨rfl, hb4⟩
    rw [decide_eq_true (rfl : ds = ds)]
    have HR24 : Hid (RdA w4 a2 ds.length ds) := HR23.out.below hb4
    have HO14 : Hid (OwnA w.heap.size (.slice a1 xs.length c1) xs w4) := HO13.out.keep hb4
    have HB4 := Lib.hid (nx HB3.out hb4)
    clear hb4
    go_wp2_with (at_builtin; refine wpList_append_A rfl _ _ rfl w4.heap.size w.heap.size _ _ [] xs rfl rfl (OwnR.empty _ _ _ w4) (HO14.out.keep ((Below.refl _ _).alloc (Nat.le_refl _) _)) (by simp) (by simp; omega) ?_)
    intro v5 w5 ho5 hb5
    have hb45 : Below w4.heap.size w4 w5 := ((Below.refl w4.heap.size w4).alloc (Nat.le_refl _) _).trans hb5
    have HB45 := Lib.hid hb45
    have HO5 := Lib.hid ho5
    have hz45 := hb45.size
    clear ho5 hb5 hb45
    go_wp2_with (at_builtin; refine wpList_append_A rfl _ _ rfl w4.heap.size w.heap.size _ _ xs xs rfl rfl HO5.out (HO14.out.keep HB45.out) hz45 (by omega) ?_)
    intro v6 w6 ho6 hb6
    have HXX : Hid (∀ x ∈ xs ++ xs, SmallA 1073741000 x) := fun x hx => by
      rcases List.mem_append.1 hx with h | h
      · exact HX.out x h
      · exact HX.out x h
    have hll : (xs ++ xs).length ≤ 16 := by rw [List.length_append]; omega
    generalize xs ++ xs = tw at *
    obtain ⟨a6, c6, rfl, hr6, hm6, _⟩ := ho6.read adrC_len
    have HR6 := Lib.hid hr6
    have HB46 := Lib.hid (HB45.out.trans hb6)
    clear ho6 hr6 hb6
    go_wp2_with fail
    refine (dropRepeated_any a6 tw.length c6 tw _ HR6.out (by omega) HXX.out).mono ?_
    rintro e w7 ⟨v7, rfl, ho7, hb7⟩
    rw [HTW.out] at ho7
    obtain ⟨a7, c7, rfl, hr7, hm7, _⟩ := ho7.read adrC_len
    have HR7 := Lib.hid hr7
    have HR27 : Hid (RdA w7 a2 ds.length ds) := (HR24.out.below HB46.out).below hb7
    have HB7 := Lib.hid (nx (nx HB4.out HB46.out) hb7)
    have hle : decide ((ds.length : Int) ≤ xs.length) = true := by simp; omega
    clear ho7 hr7 hb7
    go_wp2_with fail
    refine (mwAddresses_any a7 a2 ds.length c7 ds.length c2 ds ds _ HR7.out HR27.out hm7 hm2).mono ?_
    rintro e w8 ⟨rfl, hb8⟩
    rw [decide_eq_true (rfl : ds = ds)]
    go_wp2
    go_ret
    exact ⟨rfl, nx HB7.out hb8⟩
set_option maxRecDepth 100000 in
theorem fnRepeatTwice_lifted (os : Os) (started : os.Started) (H : Type) (enc : TypeId × Value → H) :
    ReturnsInHanded {} Try.checked os 6 .any (Rows.fnRepeatTwiceSpec.pre6 enc Try.prog Try.f6 Rows.fnRepeatTwiceRow.domain false) (Rows.fnRepeatTwiceSpec.post enc Try.prog Try.f6 false true false false) := by
  refine returnsInHanded_of_change (C := Try.checked) own started (by kernel_rfl) Try.func6
    (ChangeSpec.witness6 (enc := enc) (C := Try.checked) false ⟨#[], #[.slice none 0 0], []⟩ 8 (by kernel_rfl) (by kernel_rfl) (by kernel_rfl) (by kernel_rfl)) ?_
  intro W base args ds gs before hval0 hW hcnd _
  have hval : ∀ (j : Nat) t v, Try.f6.params[j]? = some t → args[j]? = some v → Value.okWide Try.prog W .any base t v := hval0
  have hW' := hW
  obtain ⟨p, q, hA0, hV, rfl, hfz, hnd⟩ := hW
  have hA : DataW.TrodAll enc Try.prog W 0 (fun _ => true) true Try.f6.params.toList args.toList ds p := hA0
  rw [Try.params6] at hA hval
  obtain ⟨v0, vs0, d0, ds0, p0, q0, hargs, rfl, rfl, h0, r0⟩ := trodAll_cons hA
  obtain ⟨rfl, rfl, rfl⟩ := trodAll_nil r0
  obtain rfl : args = #[v0] := by cases args; simp_all
  obtain ⟨rfl, rfl⟩ := trodVars_none hV
  obtain ⟨a0, n0, c0, rfl⟩ := okWide_slice Try.underlying22 (hval 0 22 v0 rfl rfl)
  have k0 := h0
  have lt0 : ∀ x ∈ p0, x.block < W.heap.size := by obtain ⟨m, hm⟩ := k0; exact DataW.trod_lt m _ _ _ hm
  obtain ⟨w0, x0, y0⟩ := code_of_trod Try.underlying22 Try.underlying5 (by kernel_rfl) h0
  clear hA0 hval0
  refine (fnRepeatTwice_walk a0 n0 c0 W w0 x0 y0).mono fun e W' ⟨he, bel⟩ => ?_
  subst he
  exact ⟨_, rfl, _, _, _, [], _, [], hW', trodAll_mk1 (shut_bool Try.underlying4 _), (trodAll_cons_mk (Below.trod laidOut (by kernel_rfl) (of_decide_eq_true (by kernel_rfl)) k0 bel lt0) trodAll_mk0), rfl, bel.frame _, fun h => by cases h⟩
/-- FnRepeatTwice: THE STATEMENT. -/
theorem fnRepeatTwice_holds : Rows.FnRepeatTwiceSaid :=
  OpenClaim.holds_of_wide 6 Try.f6 rfl rfl rfl rfl rfl rfl rfl ⟨rfl, rfl, rfl, rfl, rfl⟩ rfl rfl rfl rfl rfl (by kernel_rfl) Try.func6 (by kernel_rfl)
    (of_decide_eq_true (by kernel_rfl)) (by unfold Func.isWrapper; first | (rw [if_pos (by decide +kernel)]; kernel_rfl) | (rw [if_neg (by decide +kernel)]; exact ⟨rfl, rfl⟩))
    (fun os started H enc _ => fnRepeatTwice_lifted os started H enc)
end Go.Proofs.Ytepjnahliojnjab
