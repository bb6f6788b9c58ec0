/-
  FnDateOrder: the law's walk. For every input of the law: it returns true, and the input reads as it did. Conditions: none but the statement's own.
-/
import Derived.Test.YtejplhhlecnagaaLaw0
import Derived.Test.YtejplhhlecnagaaDrawE
import Derived.Test.YtejplhhlecnagaaDateQ
import Derived.Test.YtejplhhlecnagaaDateN
namespace Go.Proofs.Ytejplhhlecnagaa
open Go.ChangeShapes Go.WideShapes Go.ChangeAt Go.RowKit
open Go.ChangeMaps (open_string shut_string)

set_option maxRecDepth 100000 in
set_option maxHeartbeats 4000000 in
theorem fnDateOrder_walk (a : Option Addr) (n c : Nat) (w : World) (hc : Code w a n) (hnc : n ≤ c) (hm : c ≤ maxLen) :
    Calls Try.prog 8 #[.slice a n c] w fun e w' => e = .returned (.bool true) ∧ Below w.heap.size w w' := by
  have hm' := hm
  unfold maxLen at hm'
  by_cases hn : 1048576 < n
  · have hd : decide ((1048576 : Int) < n) = true := by simp; omega
    go_enter Try.func8, Try.ntmps8
    go_wp2
    go_ret
    exact ⟨rfl, Below.refl _ _⟩
  · have hd : decide ((1048576 : Int) < n) = false := by simp; omega
    go_enter Try.func8, Try.ntmps8
    go_wp2_with fail
    refine (dDrawDateOf_any a n c w hc hnc hm).mono ?_
    rintro e w1 ⟨n1, z, rfl, hn1, hz1, hb1⟩
    have HB1 := Lib.hid hb1
    clear hb1
    cases hO : dateO n1 z with
    | none =>
      have H1 := Lib.hid (dateOf_none hO)
      have H2 := Lib.hid (dateOfS_none hO)
      clear hO
      go_wp2_with fail
      refine (H1.out _).mono ?_
      rintro e w2 ⟨rfl, hb2⟩
      have hs1 := hb2
      have HT1 := Lib.hid (nx HB1.out hs1)
      clear hs1
      go_wp2_with fail
      refine (H2.out _).mono ?_
      rintro e w3 ⟨rfl, hb3⟩
      have hs2 := (nx (laid7_below 0 0 0 0 0 0 0 26 w2) hb3)
      have L0_2 := Lib.hid ((laid7_new 0 0 0 0 0 0 0 26 w2).below hb3)
      have HT2 := Lib.hid (nx HT1.out hs2)
      clear hs2
      obtain ⟨c00, c01, c02, c03, c04, c05, c06⟩ := L0_2.out
      have hl0 := lt_of_cell c00
      simp only at c00 c01 c02 c03 c04 c05 c06
      have HEND := Lib.hid (nx HT2.out (laid7_below 0 0 0 0 0 0 0 26 w3))
      go_wp2
      go_ret
      exact ⟨rfl, HEND.out⟩
    | some D =>
      have HO := Lib.hid hO
      have HSD := Lib.hid (dateO_some.1 hO).1.1
      obtain ⟨y, m, d, h, mi, s, z1⟩ := D
      have H1 := Lib.hid (dateOf_some hO)
      have H2 := Lib.hid (dateOfS_some hO)
      clear hO
      cases hP : dateO (n1 + 3599) z with
      | none =>
        have H3 := Lib.hid (dateOf_none hP)
        clear hP
        go_wp2_with fail
        refine (H1.out _).mono ?_
        rintro e w2 ⟨rfl, hb2⟩
        have hs1 := hb2
        have HT1 := Lib.hid (nx HB1.out hs1)
        clear hs1
        go_wp2_with fail
        refine (H2.out _).mono ?_
        rintro e w3 ⟨rfl, hb3⟩
        have hs2 := (nx (laid7_below y m d h mi s z1 26 w2) hb3)
        have L0_2 := Lib.hid ((laid7_new y m d h mi s z1 26 w2).below hb3)
        have HT2 := Lib.hid (nx HT1.out hs2)
        clear hs2
        obtain ⟨c00, c01, c02, c03, c04, c05, c06⟩ := L0_2.out
        have hl0 := lt_of_cell c00
        simp only at c00 c01 c02 c03 c04 c05 c06
        go_wp2_with fail
        refine (H3.out _).mono ?_
        rintro e w4 ⟨rfl, hb4⟩
        have hs3 := (nx (laid7_below y m d h mi s z1 26 w3) hb4)
        have L0_3 := Lib.hid (L0_2.out.below hs3)
        have L1_3 := Lib.hid ((laid7_new y m d h mi s z1 26 w3).below hb4)
        have HT3 := Lib.hid (nx HT2.out hs3)
        clear hs3
        clear c00 c01 c02 c03 c04 c05 c06 hl0
        obtain ⟨c00, c01, c02, c03, c04, c05, c06⟩ := L0_3.out
        have hl0 := lt_of_cell c00
        simp only at c00 c01 c02 c03 c04 c05 c06
        obtain ⟨c10, c11, c12, c13, c14, c15, c16⟩ := L1_3.out
        have hl1 := lt_of_cell c10
        simp only at c10 c11 c12 c13 c14 c15 c16
        have HEND := Lib.hid (nx HT3.out (laid7_below 0 0 0 0 0 0 0 26 w4))
        go_wp2
        go_ret
        exact ⟨rfl, HEND.out⟩
      | some E =>
        have hord := date_order HO.out hP
        have HSE := Lib.hid (dateO_some.1 hP).1.1
        obtain ⟨y2, m2, d2, h2, mi2, s2, z2⟩ := E
        have H3 := Lib.hid (dateOf_some hP)
        obtain ⟨_, ⟨r1, r2⟩, ⟨r3, r4⟩, ⟨r5, r6⟩, _⟩ := HSD.out
        obtain ⟨_, ⟨r7, r8⟩, ⟨r9, r10⟩, ⟨r11, r12⟩, _⟩ := HSE.out
        simp only at hord r1 r2 r3 r4 r5 r6 r7 r8 r9 r10 r11 r12
        clear hP
        by_cases k1 : y < y2
        rotate_left
        by_cases k2 : m < m2
        rotate_left
        by_cases k3 : d < d2
        rotate_left
        have k4 : h2 * 3600 + mi2 * 60 + s2 = h * 3600 + mi * 60 + s + 3599 := by omega
        all_goals
          clear hord
          go_wp2_with fail
          refine (H1.out _).mono ?_
          rintro e w2 ⟨rfl, hb2⟩
          have hs1 := hb2
          have HT1 := Lib.hid (nx HB1.out hs1)
          clear hs1
          go_wp2_with fail
          refine (H2.out _).mono ?_
          rintro e w3 ⟨rfl, hb3⟩
          have hs2 := (nx (laid7_below y m d h mi s z1 26 w2) hb3)
          have L0_2 := Lib.hid ((laid7_new y m d h mi s z1 26 w2).below hb3)
          have HT2 := Lib.hid (nx HT1.out hs2)
          clear hs2
          obtain ⟨c00, c01, c02, c03, c04, c05, c06⟩ := L0_2.out
          have hl0 := lt_of_cell c00
          simp only at c00 c01 c02 c03 c04 c05 c06
          go_wp2_with fail
          refine (H3.out _).mono ?_
          rintro e w4 ⟨rfl, hb4⟩
          have hs3 := (nx (laid7_below y m d h mi s z1 26 w3) hb4)
          have L0_3 := Lib.hid (L0_2.out.below hs3)
          have L1_3 := Lib.hid ((laid7_new y m d h mi s z1 26 w3).below hb4)
          have HT3 := Lib.hid (nx HT2.out hs3)
          clear hs3
          clear c00 c01 c02 c03 c04 c05 c06 hl0
          obtain ⟨c00, c01, c02, c03, c04, c05, c06⟩ := L0_3.out
          have hl0 := lt_of_cell c00
          simp only at c00 c01 c02 c03 c04 c05 c06
          obtain ⟨c10, c11, c12, c13, c14, c15, c16⟩ := L1_3.out
          have hl1 := lt_of_cell c10
          simp only at c10 c11 c12 c13 c14 c15 c16
          have HEND := Lib.hid (nx HT3.out (laid7_below y2 m2 d2 h2 mi2 s2 z2 26 w4))
          go_wp2
          go_ret
          exact ⟨rfl, HEND.out⟩
set_option maxRecDepth 100000 in
theorem fnDateOrder_lifted (os : Os) (started : os.Started) (H : Type) (enc : TypeId × Value → H) :
    ReturnsInHanded {} Try.checked os 8 .any (Rows.fnDateOrderSpec.pre6 enc Try.prog Try.f8 Rows.fnDateOrderRow.domain false) (Rows.fnDateOrderSpec.post enc Try.prog Try.f8 false true false false) := by
  refine returnsInHanded_of_change (C := Try.checked) own started (by kernel_rfl) Try.func8
    (ChangeSpec.witness6 (enc := enc) (C := Try.checked) false ⟨#[], #[.slice none 0 0], []⟩ 8 (by kernel_rfl) (by kernel_rfl) (by kernel_rfl) (by kernel_rfl)) ?_
  intro W base args ds gs before hval0 hW hcnd _
  have hval : ∀ (j : Nat) t v, Try.f8.params[j]? = some t → args[j]? = some v → Value.okWide Try.prog W .any base t v := hval0
  have hW' := hW
  obtain ⟨p, q, hA0, hV, rfl, hfz, hnd⟩ := hW
  have hA : DataW.TrodAll enc Try.prog W 0 (fun _ => true) true Try.f8.params.toList args.toList ds p := hA0
  rw [Try.params8] at hA hval
  obtain ⟨v0, vs0, d0, ds0, p0, q0, hargs, rfl, rfl, h0, r0⟩ := trodAll_cons hA
  obtain ⟨rfl, rfl, rfl⟩ := trodAll_nil r0
  obtain rfl : args = #[v0] := by cases args; simp_all
  obtain ⟨rfl, rfl⟩ := trodVars_none hV
  obtain ⟨a0, n0, c0, rfl⟩ := okWide_slice Try.underlying22 (hval 0 22 v0 rfl rfl)
  have k0 := h0
  have lt0 : ∀ x ∈ p0, x.block < W.heap.size := by obtain ⟨m, hm⟩ := k0; exact DataW.trod_lt m _ _ _ hm
  obtain ⟨w0, x0, y0⟩ := code_of_trod Try.underlying22 Try.underlying5 (by kernel_rfl) h0
  clear hA0 hval0
  refine (fnDateOrder_walk a0 n0 c0 W w0 x0 y0).mono fun e W' ⟨he, bel⟩ => ?_
  subst he
  exact ⟨_, rfl, _, _, _, [], _, [], hW', trodAll_mk1 (shut_bool Try.underlying4 _), (trodAll_cons_mk (Below.trod laidOut (by kernel_rfl) (of_decide_eq_true (by kernel_rfl)) k0 bel lt0) trodAll_mk0), rfl, bel.frame _, fun h => by cases h⟩
/-- FnDateOrder: THE STATEMENT. -/
theorem fnDateOrder_holds : Rows.FnDateOrderSaid :=
  OpenClaim.holds_of_wide 8 Try.f8 rfl rfl rfl rfl rfl rfl rfl ⟨rfl, rfl, rfl, rfl, rfl⟩ rfl rfl rfl rfl rfl (by kernel_rfl) Try.func8 (by kernel_rfl)
    (of_decide_eq_true (by kernel_rfl)) (by unfold Func.isWrapper; first | (rw [if_pos (by decide +kernel)]; kernel_rfl) | (rw [if_neg (by decide +kernel)]; exact ⟨rfl, rfl⟩))
    (fun os started H enc _ => fnDateOrder_lifted os started H enc)
end Go.Proofs.Ytejplhhlecnagaa
