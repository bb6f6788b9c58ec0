/-
  FnSecondsOf: the law's walk. For every input of the law: it returns true, and the input reads as it did. Conditions: none but the statement's own.
-/
import Derived.Test.YtejplhhlecnagaaLaw0
import Derived.Test.YtejplhhlecnagaaDrawE
import Derived.Test.YtejplhhlecnagaaDateQ
import Derived.Test.YtejplhhlecnagaaDateN
namespace Go.Proofs.Ytejplhhlecnagaa
open Go.ChangeShapes Go.WideShapes Go.ChangeAt Go.RowKit
open Go.ChangeMaps (open_string shut_string)

set_option maxRecDepth 100000 in
set_option maxHeartbeats 4000000 in
theorem fnSecondsOf_walk (a : Option Addr) (n c : Nat) (w : World) (hc : Code w a n) (hnc : n ≤ c) (hm : c ≤ maxLen) :
    Calls Try.prog 4 #[.slice a n c] w fun e w' => e = .returned (.bool true) ∧ Below w.heap.size w w' := by
  have hm' := hm
  unfold maxLen at hm'
  by_cases hn : 1048576 < n
  · have hd : decide ((1048576 : Int) < n) = true := by simp; omega
    go_enter Try.func4, Try.ntmps4
    go_wp2
    go_ret
    exact ⟨rfl, Below.refl _ _⟩
  · have hd : decide ((1048576 : Int) < n) = false := by simp; omega
    go_enter Try.func4, Try.ntmps4
    go_wp2_with fail
    refine (dDrawSecondsOf_any a n c w hc hnc hm).mono ?_
    rintro e w1 ⟨D, rfl, hsm, hb1⟩
    obtain ⟨y, m, d, h, mi, s, z⟩ := D
    unfold datV
    simp only
    have HB1 := Lib.hid hb1
    obtain ⟨j0, j1, j2, j3, j4, j5, j6⟩ := hsm
    unfold Sm at j0 j1 j2 j3 j4 j5 j6
    simp only at j0 j1 j2 j3 j4 j5 j6
    clear hb1
    by_cases hok : OkDate ⟨y, m, d, h, mi, s, z⟩
    · have H1 := Lib.hid (secondsOf_ok hok)
      have H2 := Lib.hid (secondsOfS_ok hok)
      have H3 := Lib.hid (dateOf_some (dateO_self hok))
      have hN := dateAt_in hok rfl
      have H4 : ∃ q : Bool, ∃ M : Int, (q = true → M = secs ⟨y, m, d, h, mi, s, z⟩ + 1) ∧ ∀ u : World, Calls Try.prog 14 #[.agg #[.int .i64 y, .int .i64 m, .int .i64 d, .int .i64 h, .int .i64 mi, .int .i64 (s + 1), .int .i64 z]] u fun e w' => e = .returned (.tuple #[.int .i64 M, .bool q]) ∧ Below u.heap.size u w' := by
        by_cases ho2 : OkDate ⟨y, m, d, h, mi, s + 1, z⟩
        · exact ⟨true, _, fun _ => secs_later, secondsOf_ok ho2⟩
        · exact ⟨false, 0, fun h => (by cases h), secondsOf_no ho2⟩
      obtain ⟨q, M, hM, H4⟩ := H4
      have HM := Lib.hid hM
      have HC := Lib.hid H4
      simp only at H3
      generalize secs ⟨y, m, d, h, mi, s, z⟩ = N at *
      clear hok hM H4
      go_wp2_with fail
      refine (H1.out _).mono ?_
      rintro e w2 ⟨rfl, hb2⟩
      have hs1 := (nx (laid7_below y m d h mi s z 26 w1) hb2)
      have L0_1 := Lib.hid ((laid7_new y m d h mi s z 26 w1).below hb2)
      have HT1 := Lib.hid (nx HB1.out hs1)
      clear hs1
      obtain ⟨c00, c01, c02, c03, c04, c05, c06⟩ := L0_1.out
      have hl0 := lt_of_cell c00
      simp only at c00 c01 c02 c03 c04 c05 c06
      go_wp2_with fail
      refine (H2.out _).mono ?_
      rintro e w3 ⟨rfl, hb3⟩
      have hs2 := hb3
      have L0_2 := Lib.hid (L0_1.out.below hs2)
      have HT2 := Lib.hid (nx HT1.out hs2)
      clear hs2
      clear c00 c01 c02 c03 c04 c05 c06 hl0
      obtain ⟨c00, c01, c02, c03, c04, c05, c06⟩ := L0_2.out
      have hl0 := lt_of_cell c00
      simp only at c00 c01 c02 c03 c04 c05 c06
      go_wp2_with fail
      refine (H3.out _).mono ?_
      rintro e w4 ⟨rfl, hb4⟩
      have hs3 := hb4
      have L0_3 := Lib.hid (L0_2.out.below hs3)
      have HT3 := Lib.hid (nx HT2.out hs3)
      clear hs3
      clear c00 c01 c02 c03 c04 c05 c06 hl0
      obtain ⟨c00, c01, c02, c03, c04, c05, c06⟩ := L0_3.out
      have hl0 := lt_of_cell c00
      simp only at c00 c01 c02 c03 c04 c05 c06
      go_wp2_with fail
      refine (HC.out _).mono ?_
      rintro e w5 ⟨rfl, hb5⟩
      have hs4 := (nx (laid7_below y m d h mi s z 26 w4) (nx (laid7_below y m d h mi (s + 1) z 26 (w4.alloc (.cells #[.int .i64 y, .int .i64 m, .int .i64 d, .int .i64 h, .int .i64 mi, .int .i64 s, .int .i64 z] 26))) hb5))
      have L0_4 := Lib.hid (L0_3.out.below hs4)
      have L1_4 := Lib.hid ((laid7_new y m d h mi s z 26 w4).below (nx (laid7_below y m d h mi (s + 1) z 26 (w4.alloc (.cells #[.int .i64 y, .int .i64 m, .int .i64 d, .int .i64 h, .int .i64 mi, .int .i64 s, .int .i64 z] 26))) hb5))
      have L2_4 := Lib.hid ((laid7_new y m d h mi (s + 1) z 26 (w4.alloc (.cells #[.int .i64 y, .int .i64 m, .int .i64 d, .int .i64 h, .int .i64 mi, .int .i64 s, .int .i64 z] 26))).below hb5)
      have HT4 := Lib.hid (nx HT3.out hs4)
      clear hs4
      clear c00 c01 c02 c03 c04 c05 c06 hl0
      obtain ⟨c00, c01, c02, c03, c04, c05, c06⟩ := L0_4.out
      have hl0 := lt_of_cell c00
      simp only at c00 c01 c02 c03 c04 c05 c06
      obtain ⟨c10, c11, c12, c13, c14, c15, c16⟩ := L1_4.out
      have hl1 := lt_of_cell c10
      simp only at c10 c11 c12 c13 c14 c15 c16
      obtain ⟨c20, c21, c22, c23, c24, c25, c26⟩ := L2_4.out
      have hl2 := lt_of_cell c20
      simp only at c20 c21 c22 c23 c24 c25 c26
      cases q
      all_goals
        have HEND := Lib.hid HT4.out
        have hM := HM.out
        simp only [true_implies, reduceCtorEq, false_implies] at hM
        try subst hM
        go_wp2
        go_ret
        exact ⟨rfl, HEND.out⟩
    · have H1 := Lib.hid (secondsOf_no hok)
      have H2 := Lib.hid (secondsOfS_no hok)
      clear hok
      go_wp2_with fail
      refine (H1.out _).mono ?_
      rintro e w2 ⟨rfl, hb2⟩
      have hs1 := (nx (laid7_below y m d h mi s z 26 w1) hb2)
      have L0_1 := Lib.hid ((laid7_new y m d h mi s z 26 w1).below hb2)
      have HT1 := Lib.hid (nx HB1.out hs1)
      clear hs1
      obtain ⟨c00, c01, c02, c03, c04, c05, c06⟩ := L0_1.out
      have hl0 := lt_of_cell c00
      simp only at c00 c01 c02 c03 c04 c05 c06
      go_wp2_with fail
      refine (H2.out _).mono ?_
      rintro e w3 ⟨rfl, hb3⟩
      have hs2 := hb3
      have L0_2 := Lib.hid (L0_1.out.below hs2)
      have HT2 := Lib.hid (nx HT1.out hs2)
      clear hs2
      clear c00 c01 c02 c03 c04 c05 c06 hl0
      obtain ⟨c00, c01, c02, c03, c04, c05, c06⟩ := L0_2.out
      have hl0 := lt_of_cell c00
      simp only at c00 c01 c02 c03 c04 c05 c06
      have HEND := Lib.hid HT2.out
      go_wp2
      go_ret
      exact ⟨rfl, HEND.out⟩
set_option maxRecDepth 100000 in
theorem fnSecondsOf_lifted (os : Os) (started : os.Started) (H : Type) (enc : TypeId × Value → H) :
    ReturnsInHanded {} Try.checked os 4 .any (Rows.fnSecondsOfSpec.pre6 enc Try.prog Try.f4 Rows.fnSecondsOfRow.domain false) (Rows.fnSecondsOfSpec.post enc Try.prog Try.f4 false true false false) := by
  refine returnsInHanded_of_change (C := Try.checked) own started (by kernel_rfl) Try.func4
    (ChangeSpec.witness6 (enc := enc) (C := Try.checked) false ⟨#[], #[.slice none 0 0], []⟩ 8 (by kernel_rfl) (by kernel_rfl) (by kernel_rfl) (by kernel_rfl)) ?_
  intro W base args ds gs before hval0 hW hcnd _
  have hval : ∀ (j : Nat) t v, Try.f4.params[j]? = some t → args[j]? = some v → Value.okWide Try.prog W .any base t v := hval0
  have hW' := hW
  obtain ⟨p, q, hA0, hV, rfl, hfz, hnd⟩ := hW
  have hA : DataW.TrodAll enc Try.prog W 0 (fun _ => true) true Try.f4.params.toList args.toList ds p := hA0
  rw [Try.params4] at hA hval
  obtain ⟨v0, vs0, d0, ds0, p0, q0, hargs, rfl, rfl, h0, r0⟩ := trodAll_cons hA
  obtain ⟨rfl, rfl, rfl⟩ := trodAll_nil r0
  obtain rfl : args = #[v0] := by cases args; simp_all
  obtain ⟨rfl, rfl⟩ := trodVars_none hV
  obtain ⟨a0, n0, c0, rfl⟩ := okWide_slice Try.underlying22 (hval 0 22 v0 rfl rfl)
  have k0 := h0
  have lt0 : ∀ x ∈ p0, x.block < W.heap.size := by obtain ⟨m, hm⟩ := k0; exact DataW.trod_lt m _ _ _ hm
  obtain ⟨w0, x0, y0⟩ := code_of_trod Try.underlying22 Try.underlying5 (by kernel_rfl) h0
  clear hA0 hval0
  refine (fnSecondsOf_walk a0 n0 c0 W w0 x0 y0).mono fun e W' ⟨he, bel⟩ => ?_
  subst he
  exact ⟨_, rfl, _, _, _, [], _, [], hW', trodAll_mk1 (shut_bool Try.underlying4 _), (trodAll_cons_mk (Below.trod laidOut (by kernel_rfl) (of_decide_eq_true (by kernel_rfl)) k0 bel lt0) trodAll_mk0), rfl, bel.frame _, fun h => by cases h⟩
/-- FnSecondsOf: THE STATEMENT. -/
theorem fnSecondsOf_holds : Rows.FnSecondsOfSaid :=
  OpenClaim.holds_of_wide 4 Try.f4 rfl rfl rfl rfl rfl rfl rfl ⟨rfl, rfl, rfl, rfl, rfl⟩ rfl rfl rfl rfl rfl (by kernel_rfl) Try.func4 (by kernel_rfl)
    (of_decide_eq_true (by kernel_rfl)) (by unfold Func.isWrapper; first | (rw [if_pos (by decide +kernel)]; kernel_rfl) | (rw [if_neg (by decide +kernel)]; exact ⟨rfl, rfl⟩))
    (fun os started H enc _ => fnSecondsOf_lifted os started H enc)
end Go.Proofs.Ytejplhhlecnagaa
