/-
  FnExactDomainsOf: the law's walk. For every input of the law: it returns true, and the input reads as it did. Conditions: none but the statement's own.
-/
import Derived.Test.YthcmdmjijdafoaaMarkA
import Derived.Test.YthcmdmjijdafoaaMarkS
import Derived.Test.YthcmdmjijdafoaaDomI
import Derived.Test.YthcmdmjijdafoaaDomS
namespace Go.Proofs.Ythcmdmjijdafoaa
open Go.ChangeShapes Go.WideShapes Go.ChangeAt Go.RowKit
open Go.ChangeMaps (open_string shut_string)

set_option maxRecDepth 100000 in
set_option maxHeartbeats 1000000 in
theorem fnExactDomainsOf_walk (a : Option Addr) (n c : Nat) (xs : List Adr) (w : World) (hr : RdA w a n xs) (hn : n ≤ maxLen) (hx : ∀ x ∈ xs, SmallA maxLen x) :
    Calls Try.prog 7 #[.slice a n c] w fun e w' => e = .returned (.bool true) ∧ Below w.heap.size w w' := by
  go_enter Try.func7, Try.ntmps7
  go_wp2_with fail
  refine (szAddressS_any a n c xs 1048576 w hr hn (by omega) (by omega) hx).mono ?_
  rintro e w1 ⟨r, rfl, hr1, hr2, hsz, hb1⟩
  by_cases hneg : r < 0
  · clear hsz
    go_wp2
    go_ret
    exact ⟨rfl, hb1⟩
  obtain ⟨hln, hsm⟩ := hsz (by omega)
  have HSM : Hid (∀ x ∈ xs, SmallA 1073741000 x) := fun x hx => (hsm x hx).up (by omega)
  have hlen := hr.1
  have hn1 : n ≤ 1073741824 := by omega
  have hx1 : xs.length ≤ 1073741824 := by omega
  have hx2 : xs.length ≤ maxLen := by unfold maxLen; omega
  have HD := Lib.hid hr
  have HX2 := Lib.hid hx2
  have HX1 := Lib.hid hx1
  have HXM : Hid (xs.length ≤ 1048576) := by show _ ≤ _; omega
  have HN1 := Lib.hid hn1
  clear hsz hsm hx hr hlen hx2 hx1 hn1 hn
  have hdl := doms_len xs
  generalize hys : domsL xs = ys at *
  have HYS := Lib.hid hys
  clear hys
  have HY2 : Hid (ys.length ≤ maxLen) := by show _ ≤ _; have := HX1.out; unfold maxLen; omega
  go_wp2_with fail
  refine (toAddressS_any a n c xs _ (HD.out.below hb1) HN1.out).mono ?_
  rintro e w2 ⟨a2, c2, rfl, ho2, hd2, hc2, hb2⟩
  have hB2 := nx hb1 hb2
  go_wp2_with fail
  refine (domainsOfS_any a2 _ c2 xs _ hd2 HXM.out HSM.out).mono ?_
  rintro e w3 ⟨v3, rfl, ho3, hb3⟩
  rw [HYS.out] at ho3
  obtain ⟨a3, c3, rfl, hd3, _⟩ := ho3.read
  have hB3 := nx hB2 hb3
  have HD3 := Lib.hid hd3
  have HO3 := Lib.hid ho3
  clear ho2 hd2 ho3 hd3
  go_wp2_with fail
  refine (toAddressS_any a n c xs _ (HD.out.below hB3) HN1.out).mono ?_
  rintro e w4 ⟨a4, c4, rfl, ho4, hd4, hc4, hb4⟩
  have hB4 := nx hB3 hb4
  have HD4 := Lib.hid hd4
  have HO4 := Lib.hid ho4
  have HOL4 := Lib.hid (OwnR.lt ho4)
  clear ho4
  go_wp2_with fail
  refine (domainsOf_any a4 _ c4 xs _ hd4 HXM.out HSM.out).mono ?_
  rintro e w5 ⟨v5, rfl, ho5, hb5⟩
  rw [HYS.out] at ho5
  obtain ⟨a5, c5, rfl, hd5, _⟩ := ho5.read
  have hB5 := nx hB4 hb5
  have HD5 := Lib.hid hd5
  have HO5 := Lib.hid ho5
  have HOL5 := Lib.hid (OwnL.lt ho5)
  clear ho5 hd4 hd5
  go_wp2_with fail
  refine (eqStringS_any a5 a3 _ c5 _ c3 ys ys _ HD5.out (HD3.out.below (nx hb4 hb5)) HY2.out HY2.out).mono ?_
  rintro e w6 ⟨rfl, hb6⟩
  rw [decide_eq_true (rfl : ys = ys)]
  have hB6 := nx hB5 hb6
  go_wp2_with fail
  refine (toAddressS_any a n c xs _ (HD.out.below hB6) HN1.out).mono ?_
  rintro e w7 ⟨a7, c7, rfl, ho7, hd7, hc7, hb7⟩
  have hB7 := nx hB6 hb7
  go_wp2_with fail
  refine (eqAddressS_any a4 a7 _ c4 _ c7 xs xs _ (HD4.out.below (nx (nx hb5 hb6) hb7)) hd7 HX2.out HX2.out).mono ?_
  rintro e w8 ⟨rfl, hb8⟩
  rw [decide_eq_true (rfl : xs = xs)]
  have hB8 := nx hB7 hb8
  have h48 := nx (nx (nx hb5 hb6) hb7) hb8
  have h58 := nx (nx hb6 hb7) hb8
  have h38 := nx hb4 h48
  have HO48 := Lib.hid (HO4.out.keep h48)
  have HO58 := Lib.hid (HO5.out.keep h58)
  have HO38 := Lib.hid (HO3.out.keep h38)
  clear ho7 hd7
  go_wp2_with fail
  refine (markAddressO_any w3.heap.size a4 _ c4 xs 1 _ HO48.out rfl (by omega) (by omega)).mono ?_
  rintro e w9 ⟨rfl, ho9, hn9⟩
  have hs4 := hb4.size
  have hs5 := hb5.size
  have hs8 := h58.size
  have hB9 : Below w.heap.size w w9 := hB8.trans (hn9.below (fun g hg => by have := (HOL4.out g hg).1; have := hB3.size; omega) hB8.size)
  have HO59 := Lib.hid (HO58.out.only hn9 (fun g hg e => by have := (HOL5.out g hg).1; have := (HOL4.out g e).2; omega))
  have HO39 := Lib.hid (HO38.out.only hn9 (fun g hg e => by have := (OwnL.lt HO3.out g hg).2; have := (HOL4.out g e).1; omega))
  have HN9 := Lib.hid hn9
  have hneg9 : decide (((1 + 3 * xs.length : Nat) : Int) < 0) = false := by simp; omega
  clear ho9 hn9
  obtain ⟨a5', c5', hv5, hd59, _⟩ := HO59.out.read
  injection hv5 with h1 _ h3
  subst h1 h3
  obtain ⟨a3', c3', hv3, hd39, _⟩ := HO39.out.read
  injection hv3 with h1 _ h3
  subst h1 h3
  go_wp2_with fail
  refine (eqStringS_any a5 a3 _ c5 _ c3 ys ys _ hd59 hd39 HY2.out HY2.out).mono ?_
  rintro e w10 ⟨rfl, hb10⟩
  rw [decide_eq_true (rfl : ys = ys)]
  have hB10 := nx hB9 hb10
  have HO510 := Lib.hid (HO59.out.keep hb10)
  have HO310 := Lib.hid (HO39.out.keep hb10)
  go_wp2_with fail
  refine (markStringS_only w4.heap.size a5 _ c5 ys 1 _ HO510.out rfl (by omega) (by omega)).mono ?_
  rintro e w11 ⟨rfl, ho11, hn11⟩
  have hB11 : Below w.heap.size w w11 := hB10.trans (hn11.below (fun g hg => by have := (HOL5.out g hg).1; have := hB4.size; omega) hB10.size)
  have HO11 := Lib.hid ho11
  have HO311 := Lib.hid (HO310.out.only hn11 (fun g hg e => by have := (OwnL.lt HO3.out g hg).2; have := (HOL5.out g e).1; omega))
  have ho11' : OwnL w4.heap.size (.slice a5 (marksFrom 1 ys.length).length c5) (marksFrom 1 ys.length) w11 := by rw [marksFrom_len]; exact ho11
  obtain ⟨a5'', c5'', hv5, hd11, _⟩ := ho11'.read
  injection hv5 with h1 _ h3
  subst h1 h3
  rw [marksFrom_len] at hd11
  have HD11 := Lib.hid hd11
  obtain ⟨a3'', c3'', hv3, hd311, _⟩ := HO311.out.read
  injection hv3 with h1 _ h3
  subst h1 h3
  have HD311 := Lib.hid hd311
  clear ho11 hn11 ho11' hd59 hd39 hd11 hd311
  go_wp2_with fail
  refine (heldStringS_any a5 ys.length c5 1 _ HD11.out (by omega) (by omega)).mono ?_
  rintro e w12 ⟨rfl, hb12⟩
  have hB12 := nx hB11 hb12
  have hneg12 : decide (((1 + ys.length : Nat) : Int) < 0) = false := by simp; omega
  have hne12 : (((1 + ys.length : Nat) : Int) != ((1 + ys.length : Nat) : Int)) = false := by simp
  go_wp2_with fail
  refine (toAddressS_any a n c xs _ (HD.out.below hB12) HN1.out).mono ?_
  rintro e w13 ⟨a13, c13, rfl, ho13, hd13, hc13, hb13⟩
  have hB13 := nx hB12 hb13
  go_wp2_with fail
  refine (domainsOf_any a13 _ c13 xs _ hd13 HXM.out HSM.out).mono ?_
  rintro e w14 ⟨v14, rfl, ho14, hb14⟩
  rw [HYS.out] at ho14
  obtain ⟨a14, c14, rfl, hd14, _⟩ := ho14.read
  have hB14 := nx hB13 hb14
  have h1114 := nx (nx hb12 hb13) hb14
  clear ho13 hd13 ho14
  go_wp2_with fail
  refine (eqStringS_any a14 a3 _ c14 _ c3 ys ys _ hd14 (HD311.out.below h1114) HY2.out HY2.out).mono ?_
  rintro e w15 ⟨rfl, hb15⟩
  rw [decide_eq_true (rfl : ys = ys)]
  have hB15 := nx hB14 hb15
  go_wp2_with fail
  refine (heldStringS_any a5 ys.length c5 1 _ (HD11.out.below (nx h1114 hb15)) (by omega) (by omega)).mono ?_
  rintro e w16 ⟨rfl, hb16⟩
  go_wp2
  go_ret
  exact ⟨rfl, nx hB15 hb16⟩
set_option maxRecDepth 100000 in
theorem fnExactDomainsOf_lifted (os : Os) (started : os.Started) (H : Type) (enc : TypeId × Value → H) :
    ReturnsInHanded {} Try.checked os 7 .any (Rows.fnExactDomainsOfSpec.pre6 enc Try.prog Try.f7 Rows.fnExactDomainsOfRow.domain false) (Rows.fnExactDomainsOfSpec.post enc Try.prog Try.f7 false true false false) := by
  refine returnsInHanded_of_change (C := Try.checked) own started (by kernel_rfl) Try.func7
    (ChangeSpec.witness6 (enc := enc) (C := Try.checked) false ⟨#[], #[.slice none 0 0], []⟩ 8 (by kernel_rfl) (by kernel_rfl) (by kernel_rfl) (by kernel_rfl)) ?_
  intro W base args ds gs before hval0 hW hcnd _
  have hval : ∀ (j : Nat) t v, Try.f7.params[j]? = some t → args[j]? = some v → Value.okWide Try.prog W .any base t v := hval0
  have hW' := hW
  obtain ⟨p, q, hA0, hV, rfl, hfz, hnd⟩ := hW
  have hA : DataW.TrodAll enc Try.prog W 0 (fun _ => true) true Try.f7.params.toList args.toList ds p := hA0
  rw [Try.params7] at hA hval
  obtain ⟨v0, vs0, d0, ds0, p0, q0, hargs, rfl, rfl, h0, r0⟩ := trodAll_cons hA
  obtain ⟨rfl, rfl, rfl⟩ := trodAll_nil r0
  obtain rfl : args = #[v0] := by cases args; simp_all
  obtain ⟨rfl, rfl⟩ := trodVars_none hV
  obtain ⟨a0, n0, c0, rfl⟩ := okWide_slice Try.underlying35 (hval 0 35 v0 rfl rfl)
  have k0 := h0
  have lt0 : ∀ x ∈ p0, x.block < W.heap.size := by obtain ⟨m, hm⟩ := k0; exact DataW.trod_lt m _ _ _ hm
  obtain ⟨l0, w0, x0, y0⟩ := adrs_of_trod h0
  clear hA0 hval0
  refine (fnExactDomainsOf_walk a0 n0 c0 l0 W w0 x0 y0).mono fun e W' ⟨he, bel⟩ => ?_
  subst he
  exact ⟨_, rfl, _, _, _, [], _, [], hW', trodAll_mk1 (shut_bool Try.underlying4 _), (trodAll_cons_mk (Below.trod laidOut (by kernel_rfl) (of_decide_eq_true (by kernel_rfl)) k0 bel lt0) trodAll_mk0), rfl, bel.frame _, fun h => by cases h⟩
/-- FnExactDomainsOf: THE STATEMENT. -/
theorem fnExactDomainsOf_holds : Rows.FnExactDomainsOfSaid :=
  OpenClaim.holds_of_wide 7 Try.f7 rfl rfl rfl rfl rfl rfl rfl ⟨rfl, rfl, rfl, rfl, rfl⟩ rfl rfl rfl rfl rfl (by kernel_rfl) Try.func7 (by kernel_rfl)
    (of_decide_eq_true (by kernel_rfl)) (by unfold Func.isWrapper; first | (rw [if_pos (by decide +kernel)]; kernel_rfl) | (rw [if_neg (by decide +kernel)]; exact ⟨rfl, rfl⟩))
    (fun os started H enc _ => fnExactDomainsOf_lifted os started H enc)
end Go.Proofs.Ythcmdmjijdafoaa
