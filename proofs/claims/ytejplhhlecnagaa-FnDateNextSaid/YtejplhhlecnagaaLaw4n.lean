/-
  FnDateNext: the law's walk. For every input of the law: it returns true, and the input reads as it did. Conditions: none but the statement's own.
-/
import Derived.Test.YtejplhhlecnagaaLaw0
import Derived.Test.YtejplhhlecnagaaDrawE
import Derived.Test.YtejplhhlecnagaaDateQ
import Derived.Test.YtejplhhlecnagaaDateN
namespace Go.Proofs.Ytejplhhlecnagaa
open Go.ChangeShapes Go.WideShapes Go.ChangeAt Go.RowKit
open Go.ChangeMaps (open_string shut_string)

set_option maxRecDepth 100000 in
set_option maxHeartbeats 4000000 in
theorem fnDateNext_walk (a : Option Addr) (n c : Nat) (w : World) (hc : Code w a n) (hnc : n ≤ c) (hm : c ≤ maxLen) :
    Calls Try.prog 7 #[.slice a n c] w fun e w' => e = .returned (.bool true) ∧ Below w.heap.size w w' := by
  have hm' := hm
  unfold maxLen at hm'
  by_cases hn : 1048576 < n
  · have hd : decide ((1048576 : Int) < n) = true := by simp; omega
    go_enter Try.func7, Try.ntmps7
    go_wp2
    go_ret
    exact ⟨rfl, Below.refl _ _⟩
  · have hd : decide ((1048576 : Int) < n) = false := by simp; omega
    go_enter Try.func7, Try.ntmps7
    go_wp2_with fail
    refine (dDrawSecondsOf_any a n c w hc hnc hm).mono ?_
    rintro e w1 ⟨D, rfl, hsm, hb1⟩
    obtain ⟨y, m, d, h, mi, s, z⟩ := D
    unfold datV
    simp only
    have HB1 := Lib.hid hb1
    obtain ⟨j0, j1, j2, j3, j4, j5, j6⟩ := hsm
    unfold Sm at j0 j1 j2 j3 j4 j5 j6
    simp only at j0 j1 j2 j3 j4 j5 j6
    clear hb1
    by_cases hok : OkDate ⟨y, m, d, h, mi, s, z⟩
    · have H1 := Lib.hid (secondsOf_ok hok)
      have H2 := Lib.hid (secondsOfS_ok hok)
      have hN := dateAt_in hok rfl
      have HOK := Lib.hid hok
      cases hO : dateO (secs ⟨y, m, d, h, mi, s, z⟩ + 86400) z with
      | none =>
        have H3 := Lib.hid (dateOf_none hO)
        generalize secs ⟨y, m, d, h, mi, s, z⟩ = N at *
        clear hok hO HOK
        go_wp2_with fail
        refine (H1.out _).mono ?_
        rintro e w2 ⟨rfl, hb2⟩
        have hs1 := (nx (laid7_below y m d h mi s z 26 w1) hb2)
        have L0_1 := Lib.hid ((laid7_new y m d h mi s z 26 w1).below hb2)
        have HT1 := Lib.hid (nx HB1.out hs1)
        clear hs1
        obtain ⟨c00, c01, c02, c03, c04, c05, c06⟩ := L0_1.out
        have hl0 := lt_of_cell c00
        simp only at c00 c01 c02 c03 c04 c05 c06
        go_wp2_with fail
        refine (H2.out _).mono ?_
        rintro e w3 ⟨rfl, hb3⟩
        have hs2 := hb3
        have L0_2 := Lib.hid (L0_1.out.below hs2)
        have HT2 := Lib.hid (nx HT1.out hs2)
        clear hs2
        clear c00 c01 c02 c03 c04 c05 c06 hl0
        obtain ⟨c00, c01, c02, c03, c04, c05, c06⟩ := L0_2.out
        have hl0 := lt_of_cell c00
        simp only at c00 c01 c02 c03 c04 c05 c06
        go_wp2_with fail
        refine (H3.out _).mono ?_
        rintro e w4 ⟨rfl, hb4⟩
        have hs3 := hb4
        have L0_3 := Lib.hid (L0_2.out.below hs3)
        have HT3 := Lib.hid (nx HT2.out hs3)
        clear hs3
        clear c00 c01 c02 c03 c04 c05 c06 hl0
        obtain ⟨c00, c01, c02, c03, c04, c05, c06⟩ := L0_3.out
        have hl0 := lt_of_cell c00
        simp only at c00 c01 c02 c03 c04 c05 c06
        have HEND := Lib.hid (nx HT3.out (laid7_below 0 0 0 0 0 0 0 26 w4))
        go_wp2
        go_ret
        exact ⟨rfl, HEND.out⟩
      | some E =>
        have hm1 : 1 ≤ m := hok.1.1.2.2.1
        have n1 : d < dim y m → E.d = d + 1 ∧ E.mo = m ∧ E.h = h ∧ E.s = s := date_next1 hok hO
        have n2 : ¬ d < dim y m → E.d = 1 ∧ (E.mo = m + 1 ∨ E.mo = 1 ∧ E.y = y + 1) := date_next2 hok hO
        obtain ⟨y2, m2, d2, h2, mi2, s2, z2⟩ := E
        have H3 := Lib.hid (dateOf_some hO)
        have H4 : Hid (∀ u : World, Calls Try.prog 22 #[.int .i64 y, .int .i64 m] u fun e w' => e = .returned (.int .i64 (dim y m)) ∧ w' = u) := fun u => daysOf_any y m u
        generalize secs ⟨y, m, d, h, mi, s, z⟩ = N at *
        generalize dim y m = M at *
        simp only at n1 n2
        clear hok hO HOK
        by_cases hlt : d < M
        · obtain ⟨rfl, rfl, rfl, rfl⟩ := n1 hlt
          clear n1 n2
          go_wp2_with fail
          refine (H1.out _).mono ?_
          rintro e w2 ⟨rfl, hb2⟩
          have hs1 := (nx (laid7_below y m2 d h2 mi s2 z 26 w1) hb2)
          have L0_1 := Lib.hid ((laid7_new y m2 d h2 mi s2 z 26 w1).below hb2)
          have HT1 := Lib.hid (nx HB1.out hs1)
          clear hs1
          obtain ⟨c00, c01, c02, c03, c04, c05, c06⟩ := L0_1.out
          have hl0 := lt_of_cell c00
          simp only at c00 c01 c02 c03 c04 c05 c06
          go_wp2_with fail
          refine (H2.out _).mono ?_
          rintro e w3 ⟨rfl, hb3⟩
          have hs2 := hb3
          have L0_2 := Lib.hid (L0_1.out.below hs2)
          have HT2 := Lib.hid (nx HT1.out hs2)
          clear hs2
          clear c00 c01 c02 c03 c04 c05 c06 hl0
          obtain ⟨c00, c01, c02, c03, c04, c05, c06⟩ := L0_2.out
          have hl0 := lt_of_cell c00
          simp only at c00 c01 c02 c03 c04 c05 c06
          go_wp2_with fail
          refine (H3.out _).mono ?_
          rintro e w4 ⟨rfl, hb4⟩
          have hs3 := hb4
          have L0_3 := Lib.hid (L0_2.out.below hs3)
          have HT3 := Lib.hid (nx HT2.out hs3)
          clear hs3
          clear c00 c01 c02 c03 c04 c05 c06 hl0
          obtain ⟨c00, c01, c02, c03, c04, c05, c06⟩ := L0_3.out
          have hl0 := lt_of_cell c00
          simp only at c00 c01 c02 c03 c04 c05 c06
          have HEND := Lib.hid (nx HT3.out (laid7_below y2 m2 (d + 1) h2 mi2 s2 z2 26 w4))
          go_wp2_with fail
          have HP := Lib.hid (laid7_new y2 m2 (d + 1) h2 mi2 s2 z2 26 w4)
          have HQ := Lib.hid (L0_3.out.below (laid7_below y2 m2 (d + 1) h2 mi2 s2 z2 26 w4))
          clear c00 c01 c02 c03 c04 c05 c06 hl0
          have hlt4 : w1.heap.size < w4.heap.size := lt_of_cell L0_3.out.1
          generalize hW5 : w4.alloc (.cells #[.int .i64 y2, .int .i64 m2, .int .i64 (d + 1), .int .i64 h2, .int .i64 mi2, .int .i64 s2, .int .i64 z2] 26) = w5 at *
          obtain ⟨c00, c01, c02, c03, c04, c05, c06⟩ := HQ.out
          obtain ⟨c10, c11, c12, c13, c14, c15, c16⟩ := HP.out
          simp only at c00 c01 c02 c03 c04 c05 c06 c10 c11 c12 c13 c14 c15 c16
          go_quiet (first | (go_at_call 22; refine Calls.quiet_of_same (H4.out _)))
          go_wp2
          go_ret
          exact ⟨rfl, below_drewN HEND.out _⟩
        · obtain ⟨rfl, n3⟩ := n2 hlt
          clear n1 n2
          rcases n3 with rfl | ⟨rfl, rfl⟩
          · skip
            go_wp2_with fail
            refine (H1.out _).mono ?_
            rintro e w2 ⟨rfl, hb2⟩
            have hs1 := (nx (laid7_below y m d h mi s z 26 w1) hb2)
            have L0_1 := Lib.hid ((laid7_new y m d h mi s z 26 w1).below hb2)
            have HT1 := Lib.hid (nx HB1.out hs1)
            clear hs1
            obtain ⟨c00, c01, c02, c03, c04, c05, c06⟩ := L0_1.out
            have hl0 := lt_of_cell c00
            simp only at c00 c01 c02 c03 c04 c05 c06
            go_wp2_with fail
            refine (H2.out _).mono ?_
            rintro e w3 ⟨rfl, hb3⟩
            have hs2 := hb3
            have L0_2 := Lib.hid (L0_1.out.below hs2)
            have HT2 := Lib.hid (nx HT1.out hs2)
            clear hs2
            clear c00 c01 c02 c03 c04 c05 c06 hl0
            obtain ⟨c00, c01, c02, c03, c04, c05, c06⟩ := L0_2.out
            have hl0 := lt_of_cell c00
            simp only at c00 c01 c02 c03 c04 c05 c06
            go_wp2_with fail
            refine (H3.out _).mono ?_
            rintro e w4 ⟨rfl, hb4⟩
            have hs3 := hb4
            have L0_3 := Lib.hid (L0_2.out.below hs3)
            have HT3 := Lib.hid (nx HT2.out hs3)
            clear hs3
            clear c00 c01 c02 c03 c04 c05 c06 hl0
            obtain ⟨c00, c01, c02, c03, c04, c05, c06⟩ := L0_3.out
            have hl0 := lt_of_cell c00
            simp only at c00 c01 c02 c03 c04 c05 c06
            have HEND := Lib.hid (nx HT3.out (laid7_below y2 (m + 1) 1 h2 mi2 s2 z2 26 w4))
            go_wp2_with fail
            have HP := Lib.hid (laid7_new y2 (m + 1) 1 h2 mi2 s2 z2 26 w4)
            have HQ := Lib.hid (L0_3.out.below (laid7_below y2 (m + 1) 1 h2 mi2 s2 z2 26 w4))
            clear c00 c01 c02 c03 c04 c05 c06 hl0
            have hlt4 : w1.heap.size < w4.heap.size := lt_of_cell L0_3.out.1
            generalize hW5 : w4.alloc (.cells #[.int .i64 y2, .int .i64 (m + 1), .int .i64 1, .int .i64 h2, .int .i64 mi2, .int .i64 s2, .int .i64 z2] 26) = w5 at *
            obtain ⟨c00, c01, c02, c03, c04, c05, c06⟩ := HQ.out
            obtain ⟨c10, c11, c12, c13, c14, c15, c16⟩ := HP.out
            simp only at c00 c01 c02 c03 c04 c05 c06 c10 c11 c12 c13 c14 c15 c16
            go_quiet (first | (go_at_call 22; refine Calls.quiet_of_same (H4.out _)))
            go_wp2
            go_ret
            exact ⟨rfl, below_drewN HEND.out _⟩
          · have hmm : ¬ ((1 : Int) = m + 1) := by omega
            go_wp2_with fail
            refine (H1.out _).mono ?_
            rintro e w2 ⟨rfl, hb2⟩
            have hs1 := (nx (laid7_below y m d h mi s z 26 w1) hb2)
            have L0_1 := Lib.hid ((laid7_new y m d h mi s z 26 w1).below hb2)
            have HT1 := Lib.hid (nx HB1.out hs1)
            clear hs1
            obtain ⟨c00, c01, c02, c03, c04, c05, c06⟩ := L0_1.out
            have hl0 := lt_of_cell c00
            simp only at c00 c01 c02 c03 c04 c05 c06
            go_wp2_with fail
            refine (H2.out _).mono ?_
            rintro e w3 ⟨rfl, hb3⟩
            have hs2 := hb3
            have L0_2 := Lib.hid (L0_1.out.below hs2)
            have HT2 := Lib.hid (nx HT1.out hs2)
            clear hs2
            clear c00 c01 c02 c03 c04 c05 c06 hl0
            obtain ⟨c00, c01, c02, c03, c04, c05, c06⟩ := L0_2.out
            have hl0 := lt_of_cell c00
            simp only at c00 c01 c02 c03 c04 c05 c06
            go_wp2_with fail
            refine (H3.out _).mono ?_
            rintro e w4 ⟨rfl, hb4⟩
            have hs3 := hb4
            have L0_3 := Lib.hid (L0_2.out.below hs3)
            have HT3 := Lib.hid (nx HT2.out hs3)
            clear hs3
            clear c00 c01 c02 c03 c04 c05 c06 hl0
            obtain ⟨c00, c01, c02, c03, c04, c05, c06⟩ := L0_3.out
            have hl0 := lt_of_cell c00
            simp only at c00 c01 c02 c03 c04 c05 c06
            have HEND := Lib.hid (nx HT3.out (laid7_below (y + 1) 1 1 h2 mi2 s2 z2 26 w4))
            go_wp2_with fail
            have HP := Lib.hid (laid7_new (y + 1) 1 1 h2 mi2 s2 z2 26 w4)
            have HQ := Lib.hid (L0_3.out.below (laid7_below (y + 1) 1 1 h2 mi2 s2 z2 26 w4))
            clear c00 c01 c02 c03 c04 c05 c06 hl0
            have hlt4 : w1.heap.size < w4.heap.size := lt_of_cell L0_3.out.1
            generalize hW5 : w4.alloc (.cells #[.int .i64 (y + 1), .int .i64 1, .int .i64 1, .int .i64 h2, .int .i64 mi2, .int .i64 s2, .int .i64 z2] 26) = w5 at *
            obtain ⟨c00, c01, c02, c03, c04, c05, c06⟩ := HQ.out
            obtain ⟨c10, c11, c12, c13, c14, c15, c16⟩ := HP.out
            simp only at c00 c01 c02 c03 c04 c05 c06 c10 c11 c12 c13 c14 c15 c16
            go_quiet (first | (go_at_call 22; refine Calls.quiet_of_same (H4.out _)))
            go_wp2
            go_ret
            exact ⟨rfl, below_drewN HEND.out _⟩
    · have H1 := Lib.hid (secondsOf_no hok)
      have H2 := Lib.hid (secondsOfS_no hok)
      clear hok
      go_wp2_with fail
      refine (H1.out _).mono ?_
      rintro e w2 ⟨rfl, hb2⟩
      have hs1 := (nx (laid7_below y m d h mi s z 26 w1) hb2)
      have L0_1 := Lib.hid ((laid7_new y m d h mi s z 26 w1).below hb2)
      have HT1 := Lib.hid (nx HB1.out hs1)
      clear hs1
      obtain ⟨c00, c01, c02, c03, c04, c05, c06⟩ := L0_1.out
      have hl0 := lt_of_cell c00
      simp only at c00 c01 c02 c03 c04 c05 c06
      go_wp2_with fail
      refine (H2.out _).mono ?_
      rintro e w3 ⟨rfl, hb3⟩
      have hs2 := hb3
      have L0_2 := Lib.hid (L0_1.out.below hs2)
      have HT2 := Lib.hid (nx HT1.out hs2)
      clear hs2
      clear c00 c01 c02 c03 c04 c05 c06 hl0
      obtain ⟨c00, c01, c02, c03, c04, c05, c06⟩ := L0_2.out
      have hl0 := lt_of_cell c00
      simp only at c00 c01 c02 c03 c04 c05 c06
      have HEND := Lib.hid HT2.out
      go_wp2
      go_ret
      exact ⟨rfl, HEND.out⟩
set_option maxRecDepth 100000 in
theorem fnDateNext_lifted (os : Os) (started : os.Started) (H : Type) (enc : TypeId × Value → H) :
    ReturnsInHanded {} Try.checked os 7 .any (Rows.fnDateNextSpec.pre6 enc Try.prog Try.f7 Rows.fnDateNextRow.domain false) (Rows.fnDateNextSpec.post enc Try.prog Try.f7 false true false false) := by
  refine returnsInHanded_of_change (C := Try.checked) own started (by kernel_rfl) Try.func7
    (ChangeSpec.witness6 (enc := enc) (C := Try.checked) false ⟨#[], #[.slice none 0 0], []⟩ 8 (by kernel_rfl) (by kernel_rfl) (by kernel_rfl) (by kernel_rfl)) ?_
  intro W base args ds gs before hval0 hW hcnd _
  have hval : ∀ (j : Nat) t v, Try.f7.params[j]? = some t → args[j]? = some v → Value.okWide Try.prog W .any base t v := hval0
  have hW' := hW
  obtain ⟨p, q, hA0, hV, rfl, hfz, hnd⟩ := hW
  have hA : DataW.TrodAll enc Try.prog W 0 (fun _ => true) true Try.f7.params.toList args.toList ds p := hA0
  rw [Try.params7] at hA hval
  obtain ⟨v0, vs0, d0, ds0, p0, q0, hargs, rfl, rfl, h0, r0⟩ := trodAll_cons hA
  obtain ⟨rfl, rfl, rfl⟩ := trodAll_nil r0
  obtain rfl : args = #[v0] := by cases args; simp_all
  obtain ⟨rfl, rfl⟩ := trodVars_none hV
  obtain ⟨a0, n0, c0, rfl⟩ := okWide_slice Try.underlying22 (hval 0 22 v0 rfl rfl)
  have k0 := h0
  have lt0 : ∀ x ∈ p0, x.block < W.heap.size := by obtain ⟨m, hm⟩ := k0; exact DataW.trod_lt m _ _ _ hm
  obtain ⟨w0, x0, y0⟩ := code_of_trod Try.underlying22 Try.underlying5 (by kernel_rfl) h0
  clear hA0 hval0
  refine (fnDateNext_walk a0 n0 c0 W w0 x0 y0).mono fun e W' ⟨he, bel⟩ => ?_
  subst he
  exact ⟨_, rfl, _, _, _, [], _, [], hW', trodAll_mk1 (shut_bool Try.underlying4 _), (trodAll_cons_mk (Below.trod laidOut (by kernel_rfl) (of_decide_eq_true (by kernel_rfl)) k0 bel lt0) trodAll_mk0), rfl, bel.frame _, fun h => by cases h⟩
/-- FnDateNext: THE STATEMENT. -/
theorem fnDateNext_holds : Rows.FnDateNextSaid :=
  OpenClaim.holds_of_wide 7 Try.f7 rfl rfl rfl rfl rfl rfl rfl ⟨rfl, rfl, rfl, rfl, rfl⟩ rfl rfl rfl rfl rfl (by kernel_rfl) Try.func7 (by kernel_rfl)
    (of_decide_eq_true (by kernel_rfl)) (by unfold Func.isWrapper; first | (rw [if_pos (by decide +kernel)]; kernel_rfl) | (rw [if_neg (by decide +kernel)]; exact ⟨rfl, rfl⟩))
    (fun os started H enc _ => fnDateNext_lifted os started H enc)
end Go.Proofs.Ytejplhhlecnagaa
