/-
  FnInZone: the law's walk. For every input of the law: it returns true, and the input reads as it did. Conditions: none but the statement's own.
-/
import Derived.Test.YtejplhhlecnagaaLaw0
import Derived.Test.YtejplhhlecnagaaDrawE
import Derived.Test.YtejplhhlecnagaaDateQ
import Derived.Test.YtejplhhlecnagaaDateN
namespace Go.Proofs.Ytejplhhlecnagaa
open Go.ChangeShapes Go.WideShapes Go.ChangeAt Go.RowKit
open Go.ChangeMaps (open_string shut_string)

set_option maxRecDepth 100000 in
set_option maxHeartbeats 4000000 in
theorem fnInZone_walk (a : Option Addr) (n c : Nat) (w : World) (hc : Code w a n) (hnc : n ≤ c) (hm : c ≤ maxLen) :
    Calls Try.prog 5 #[.slice a n c] w fun e w' => e = .returned (.bool true) ∧ Below w.heap.size w w' := by
  have hm' := hm
  unfold maxLen at hm'
  by_cases hn : 1048576 < n
  · have hd : decide ((1048576 : Int) < n) = true := by simp; omega
    go_enter Try.func5, Try.ntmps5
    go_wp2
    go_ret
    exact ⟨rfl, Below.refl _ _⟩
  · have hd : decide ((1048576 : Int) < n) = false := by simp; omega
    go_enter Try.func5, Try.ntmps5
    go_wp2_with fail
    refine (dDrawInZone_any a n c w hc hnc hm).mono ?_
    rintro e w1 ⟨D, zn, rfl, hsm, hzn, hb1⟩
    obtain ⟨y, m, d, h, mi, s, z⟩ := D
    unfold datV
    simp only
    have HB1 := Lib.hid hb1
    clear hb1 hsm
    cases hO : zoneO ⟨y, m, d, h, mi, s, z⟩ zn with
    | none =>
      have H1 := Lib.hid (inZone_none hO)
      have H2 := Lib.hid (inZoneS_none hO)
      clear hO
      go_wp2_with fail
      refine (H1.out _).mono ?_
      rintro e w2 ⟨rfl, hb2⟩
      have hs1 := (nx (laid7_below y m d h mi s z 26 w1) hb2)
      have L0_1 := Lib.hid ((laid7_new y m d h mi s z 26 w1).below hb2)
      have HT1 := Lib.hid (nx HB1.out hs1)
      clear hs1
      obtain ⟨c00, c01, c02, c03, c04, c05, c06⟩ := L0_1.out
      have hl0 := lt_of_cell c00
      simp only at c00 c01 c02 c03 c04 c05 c06
      go_wp2_with fail
      refine (H2.out _).mono ?_
      rintro e w3 ⟨rfl, hb3⟩
      have hs2 := (nx (laid7_below 0 0 0 0 0 0 0 26 w2) hb3)
      have L0_2 := Lib.hid (L0_1.out.below hs2)
      have L1_2 := Lib.hid ((laid7_new 0 0 0 0 0 0 0 26 w2).below hb3)
      have HT2 := Lib.hid (nx HT1.out hs2)
      clear hs2
      clear c00 c01 c02 c03 c04 c05 c06 hl0
      obtain ⟨c00, c01, c02, c03, c04, c05, c06⟩ := L0_2.out
      have hl0 := lt_of_cell c00
      simp only at c00 c01 c02 c03 c04 c05 c06
      obtain ⟨c10, c11, c12, c13, c14, c15, c16⟩ := L1_2.out
      have hl1 := lt_of_cell c10
      simp only at c10 c11 c12 c13 c14 c15 c16
      have HEND := Lib.hid (nx HT2.out (laid7_below 0 0 0 0 0 0 0 26 w3))
      go_wp2
      go_ret
      exact ⟨rfl, HEND.out⟩
    | some E =>
      obtain ⟨y2, m2, d2, h2, mi2, s2, z2⟩ := E
      obtain ⟨f1, f2, f3, f4, f5⟩ := zone_facts hO
      simp only at f4 f5
      subst f4
      have H1 := Lib.hid (inZone_some hO)
      have H2 := Lib.hid (inZoneS_some hO)
      have H3 := Lib.hid (secondsOf_ok f1)
      have H4 := Lib.hid (secondsOf_ok f2)
      have H5 := Lib.hid (inZone_some f5)
      have H6 := Lib.hid (dateValid_q true (okDB_ok f2))
      rw [f3] at H4
      generalize secs ⟨y, m, d, h, mi, s, z⟩ = N at *
      clear hO f1 f2 f3 f5
      go_wp2_with fail
      refine (H1.out _).mono ?_
      rintro e w2 ⟨rfl, hb2⟩
      have hs1 := (nx (laid7_below y m d h mi s z 26 w1) hb2)
      have L0_1 := Lib.hid ((laid7_new y m d h mi s z 26 w1).below hb2)
      have HT1 := Lib.hid (nx HB1.out hs1)
      clear hs1
      obtain ⟨c00, c01, c02, c03, c04, c05, c06⟩ := L0_1.out
      have hl0 := lt_of_cell c00
      simp only at c00 c01 c02 c03 c04 c05 c06
      go_wp2_with fail
      refine (H2.out _).mono ?_
      rintro e w3 ⟨rfl, hb3⟩
      have hs2 := (nx (laid7_below y2 m2 d2 h2 mi2 s2 z2 26 w2) hb3)
      have L0_2 := Lib.hid (L0_1.out.below hs2)
      have L1_2 := Lib.hid ((laid7_new y2 m2 d2 h2 mi2 s2 z2 26 w2).below hb3)
      have HT2 := Lib.hid (nx HT1.out hs2)
      clear hs2
      clear c00 c01 c02 c03 c04 c05 c06 hl0
      obtain ⟨c00, c01, c02, c03, c04, c05, c06⟩ := L0_2.out
      have hl0 := lt_of_cell c00
      simp only at c00 c01 c02 c03 c04 c05 c06
      obtain ⟨c10, c11, c12, c13, c14, c15, c16⟩ := L1_2.out
      have hl1 := lt_of_cell c10
      simp only at c10 c11 c12 c13 c14 c15 c16
      go_wp2_with fail
      refine (H3.out _).mono ?_
      rintro e w4 ⟨rfl, hb4⟩
      have hs3 := (nx (laid7_below y2 m2 d2 h2 mi2 s2 z2 26 w3) hb4)
      have L0_3 := Lib.hid (L0_2.out.below hs3)
      have L1_3 := Lib.hid (L1_2.out.below hs3)
      have L2_3 := Lib.hid ((laid7_new y2 m2 d2 h2 mi2 s2 z2 26 w3).below hb4)
      have HT3 := Lib.hid (nx HT2.out hs3)
      clear hs3
      clear c00 c01 c02 c03 c04 c05 c06 hl0 c10 c11 c12 c13 c14 c15 c16 hl1
      obtain ⟨c00, c01, c02, c03, c04, c05, c06⟩ := L0_3.out
      have hl0 := lt_of_cell c00
      simp only at c00 c01 c02 c03 c04 c05 c06
      obtain ⟨c10, c11, c12, c13, c14, c15, c16⟩ := L1_3.out
      have hl1 := lt_of_cell c10
      simp only at c10 c11 c12 c13 c14 c15 c16
      obtain ⟨c20, c21, c22, c23, c24, c25, c26⟩ := L2_3.out
      have hl2 := lt_of_cell c20
      simp only at c20 c21 c22 c23 c24 c25 c26
      go_wp2_with fail
      refine (H4.out _).mono ?_
      rintro e w5 ⟨rfl, hb5⟩
      have hs4 := hb5
      have L0_4 := Lib.hid (L0_3.out.below hs4)
      have L1_4 := Lib.hid (L1_3.out.below hs4)
      have L2_4 := Lib.hid (L2_3.out.below hs4)
      have HT4 := Lib.hid (nx HT3.out hs4)
      clear hs4
      clear c00 c01 c02 c03 c04 c05 c06 hl0 c10 c11 c12 c13 c14 c15 c16 hl1 c20 c21 c22 c23 c24 c25 c26 hl2
      obtain ⟨c00, c01, c02, c03, c04, c05, c06⟩ := L0_4.out
      have hl0 := lt_of_cell c00
      simp only at c00 c01 c02 c03 c04 c05 c06
      obtain ⟨c10, c11, c12, c13, c14, c15, c16⟩ := L1_4.out
      have hl1 := lt_of_cell c10
      simp only at c10 c11 c12 c13 c14 c15 c16
      obtain ⟨c20, c21, c22, c23, c24, c25, c26⟩ := L2_4.out
      have hl2 := lt_of_cell c20
      simp only at c20 c21 c22 c23 c24 c25 c26
      go_wp2_with fail
      refine (H5.out _).mono ?_
      rintro e w6 ⟨rfl, hb6⟩
      have hs5 := hb6
      have L0_5 := Lib.hid (L0_4.out.below hs5)
      have L1_5 := Lib.hid (L1_4.out.below hs5)
      have L2_5 := Lib.hid (L2_4.out.below hs5)
      have HT5 := Lib.hid (nx HT4.out hs5)
      clear hs5
      clear c00 c01 c02 c03 c04 c05 c06 hl0 c10 c11 c12 c13 c14 c15 c16 hl1 c20 c21 c22 c23 c24 c25 c26 hl2
      obtain ⟨c00, c01, c02, c03, c04, c05, c06⟩ := L0_5.out
      have hl0 := lt_of_cell c00
      simp only at c00 c01 c02 c03 c04 c05 c06
      obtain ⟨c10, c11, c12, c13, c14, c15, c16⟩ := L1_5.out
      have hl1 := lt_of_cell c10
      simp only at c10 c11 c12 c13 c14 c15 c16
      obtain ⟨c20, c21, c22, c23, c24, c25, c26⟩ := L2_5.out
      have hl2 := lt_of_cell c20
      simp only at c20 c21 c22 c23 c24 c25 c26
      go_wp2_with fail
      refine (H6.out _).mono ?_
      rintro e w7 ⟨rfl, hb7⟩
      have hs6 := (nx (laid7_below y m d h mi s z 26 w6) hb7)
      have L0_6 := Lib.hid (L0_5.out.below hs6)
      have L1_6 := Lib.hid (L1_5.out.below hs6)
      have L2_6 := Lib.hid (L2_5.out.below hs6)
      have L3_6 := Lib.hid ((laid7_new y m d h mi s z 26 w6).below hb7)
      have HT6 := Lib.hid (nx HT5.out hs6)
      clear hs6
      clear c00 c01 c02 c03 c04 c05 c06 hl0 c10 c11 c12 c13 c14 c15 c16 hl1 c20 c21 c22 c23 c24 c25 c26 hl2
      obtain ⟨c00, c01, c02, c03, c04, c05, c06⟩ := L0_6.out
      have hl0 := lt_of_cell c00
      simp only at c00 c01 c02 c03 c04 c05 c06
      obtain ⟨c10, c11, c12, c13, c14, c15, c16⟩ := L1_6.out
      have hl1 := lt_of_cell c10
      simp only at c10 c11 c12 c13 c14 c15 c16
      obtain ⟨c20, c21, c22, c23, c24, c25, c26⟩ := L2_6.out
      have hl2 := lt_of_cell c20
      simp only at c20 c21 c22 c23 c24 c25 c26
      obtain ⟨c30, c31, c32, c33, c34, c35, c36⟩ := L3_6.out
      have hl3 := lt_of_cell c30
      simp only at c30 c31 c32 c33 c34 c35 c36
      have HEND := Lib.hid HT6.out
      go_wp2
      go_ret
      exact ⟨rfl, HEND.out⟩
set_option maxRecDepth 100000 in
theorem fnInZone_lifted (os : Os) (started : os.Started) (H : Type) (enc : TypeId × Value → H) :
    ReturnsInHanded {} Try.checked os 5 .any (Rows.fnInZoneSpec.pre6 enc Try.prog Try.f5 Rows.fnInZoneRow.domain false) (Rows.fnInZoneSpec.post enc Try.prog Try.f5 false true false false) := by
  refine returnsInHanded_of_change (C := Try.checked) own started (by kernel_rfl) Try.func5
    (ChangeSpec.witness6 (enc := enc) (C := Try.checked) false ⟨#[], #[.slice none 0 0], []⟩ 8 (by kernel_rfl) (by kernel_rfl) (by kernel_rfl) (by kernel_rfl)) ?_
  intro W base args ds gs before hval0 hW hcnd _
  have hval : ∀ (j : Nat) t v, Try.f5.params[j]? = some t → args[j]? = some v → Value.okWide Try.prog W .any base t v := hval0
  have hW' := hW
  obtain ⟨p, q, hA0, hV, rfl, hfz, hnd⟩ := hW
  have hA : DataW.TrodAll enc Try.prog W 0 (fun _ => true) true Try.f5.params.toList args.toList ds p := hA0
  rw [Try.params5] at hA hval
  obtain ⟨v0, vs0, d0, ds0, p0, q0, hargs, rfl, rfl, h0, r0⟩ := trodAll_cons hA
  obtain ⟨rfl, rfl, rfl⟩ := trodAll_nil r0
  obtain rfl : args = #[v0] := by cases args; simp_all
  obtain ⟨rfl, rfl⟩ := trodVars_none hV
  obtain ⟨a0, n0, c0, rfl⟩ := okWide_slice Try.underlying22 (hval 0 22 v0 rfl rfl)
  have k0 := h0
  have lt0 : ∀ x ∈ p0, x.block < W.heap.size := by obtain ⟨m, hm⟩ := k0; exact DataW.trod_lt m _ _ _ hm
  obtain ⟨w0, x0, y0⟩ := code_of_trod Try.underlying22 Try.underlying5 (by kernel_rfl) h0
  clear hA0 hval0
  refine (fnInZone_walk a0 n0 c0 W w0 x0 y0).mono fun e W' ⟨he, bel⟩ => ?_
  subst he
  exact ⟨_, rfl, _, _, _, [], _, [], hW', trodAll_mk1 (shut_bool Try.underlying4 _), (trodAll_cons_mk (Below.trod laidOut (by kernel_rfl) (of_decide_eq_true (by kernel_rfl)) k0 bel lt0) trodAll_mk0), rfl, bel.frame _, fun h => by cases h⟩
/-- FnInZone: THE STATEMENT. -/
theorem fnInZone_holds : Rows.FnInZoneSaid :=
  OpenClaim.holds_of_wide 5 Try.f5 rfl rfl rfl rfl rfl rfl rfl ⟨rfl, rfl, rfl, rfl, rfl⟩ rfl rfl rfl rfl rfl (by kernel_rfl) Try.func5 (by kernel_rfl)
    (of_decide_eq_true (by kernel_rfl)) (by unfold Func.isWrapper; first | (rw [if_pos (by decide +kernel)]; kernel_rfl) | (rw [if_neg (by decide +kernel)]; exact ⟨rfl, rfl⟩))
    (fun os started H enc _ => fnInZone_lifted os started H enc)
end Go.Proofs.Ytejplhhlecnagaa
