/-
  The laws of chapter 4 on months and years: each law's walk. For every input of the law: it returns true, and the input reads as it did. Conditions: none but the statement's own.
-/
import Derived.Test.YtejplhhlecnagaaLaw0
import Derived.Test.YtejplhhlecnagaaDrawE
import Derived.Test.YtejplhhlecnagaaDateQ
import Derived.Test.YtejplhhlecnagaaDateN
namespace Go.Proofs.Ytejplhhlecnagaa
open Go.ChangeShapes Go.WideShapes Go.ChangeAt Go.RowKit
open Go.ChangeMaps (open_string shut_string)

set_option maxRecDepth 100000 in
set_option maxHeartbeats 2000000 in
theorem fnDaysOf_walk (a : Option Addr) (n c : Nat) (w : World) (hc : Code w a n) (hnc : n ≤ c) (hm : c ≤ maxLen) :
    Calls Try.prog 6 #[.slice a n c] w fun e w' => e = .returned (.bool true) ∧ Below w.heap.size w w' := by
  have hm' := hm
  unfold maxLen at hm'
  by_cases hn : 1048576 < n
  · have hd : decide ((1048576 : Int) < n) = true := by simp; omega
    go_enter Try.func6, Try.ntmps6
    go_wp2
    go_ret
    exact ⟨rfl, Below.refl _ _⟩
  · have hd : decide ((1048576 : Int) < n) = false := by simp; omega
    go_enter Try.func6, Try.ntmps6
    go_wp2_with fail
    refine (dDrawDaysOf_any a n c w hc hnc hm).mono ?_
    rintro e w1 ⟨y, m, rfl, hy, hmm, hb1⟩
    have H1 := Lib.hid (fun u => daysOf_any y m u)
    have H2 := Lib.hid (fun u => daysOfS_any y m u)
    obtain ⟨M, hM⟩ : ∃ M, dim y m = M := ⟨_, rfl⟩
    have HM := Lib.hid hM
    rw [hM] at H1 H2
    clear hM
    by_cases h0 : M = 0
    · subst h0
      go_wp2_with fail
      refine (H1.out _).mono ?_
      rintro e w2 ⟨rfl, rfl⟩
      go_wp2_with fail
      refine (H2.out _).mono ?_
      rintro e w3 ⟨rfl, hb3⟩
      go_wp2_with fail
      refine (H2.out _).mono ?_
      rintro e w4 ⟨rfl, hb4⟩
      go_wp2
      go_ret
      exact ⟨rfl, nx hb1 (nx hb3 hb4)⟩
    · obtain ⟨y0, y9, m0, m9⟩ := dim_pos (y := y) (m := m) (by have := dim_nn y m; have := HM.out; omega)
      have e0 : (M == 0) = false := by rw [beq_eq_false_iff_ne]; exact h0
      have hM2 : 28 ≤ M ∧ M ≤ 31 := by rw [← HM.out]; exact ⟨dim_ge y m ⟨y0, y9⟩ ⟨m0, m9⟩, dim_le y m⟩
      have hML := month_last ⟨y0, y9⟩ ⟨m0, m9⟩
      rw [HM.out] at hML
      have HV1 := Lib.hid (dateValid_q true (okDB_ok hML.1))
      have HV2 := Lib.hid (dateValid_q false (okDB_no hML.2))
      have HYS := Lib.hid (year_sum ⟨y0, y9⟩)
      have HD2 := Lib.hid (fun u => daysOf_any y 2 u)
      clear hML
      go_wp2_with fail
      refine (H1.out _).mono ?_
      rintro e w2 ⟨rfl, rfl⟩
      go_wp2_with fail
      refine (H2.out _).mono ?_
      rintro e w3 ⟨rfl, hb3⟩
      have hb13 := nx hb1 hb3
      have HB := Lib.hid hb13
      clear hb1 hb3 hb13
      go_wp2_with fail
      go_loop [6, 7] (fun a b => ∃ k : Nat, k ≤ 12 ∧ a = .int .i64 (mos y k) ∧ b = .int .i64 (1 + k)) (fun _ b => (13 - intOf b).toNat)
      case atStart => exact ⟨0, by omega, rfl, rfl⟩
      case round =>
        obtain ⟨k, hk, rfl, rfl⟩ := hrel
        by_cases hlt : k < 12
        · have hlt' : (1 : Int) + k ≤ 12 := by omega
          have d1 := mos_nn y k
          have d2 := mos_mono y (a := k) (b := 12) (by omega)
          rw [mos_year ⟨y0, y9⟩] at d2
          have d3 := ylen_le y
          have d4 := dim_nn y (1 + k)
          have d5 := dim_le y (1 + k)
          have HS : Hid (mos y (k + 1) = mos y k + dim y (1 + k)) := by show _ = _; rw [mos_succ, Int.add_comm (k : Int) 1]
          have HL := Lib.hid (fun u => daysOf_any y (1 + (k : Int)) u)
          generalize dim y (1 + (k : Int)) = L at *
          generalize mos y k = X at *
          go_wp2_with fail
          refine (HL.out _).mono ?_
          rintro e w4 ⟨rfl, rfl⟩
          go_wp2
          go_round
          case rel => exact ⟨k + 1, by omega, by rw [HS.out], by go_num⟩
          case measure => simp [intOf]; omega
        · have h12 : k = 12 := by omega
          subst h12
          have hys := HYS.out
          have hk13 : ¬ ((1 : Int) + ((12 : Nat) : Int) ≤ 12) := by omega
          generalize mos y 12 = X at *
          generalize hL2 : dim y 2 = L2 at *
          clear hL2
          rcases hys with rfl | ⟨rfl, rfl⟩
          all_goals
            go_wp2_with fail
            try (refine (HD2.out _).mono ?_
                 rintro e w5 ⟨rfl, rfl⟩
                 go_wp2_with fail)
            refine (HV1.out _).mono ?_
            rintro e w6 ⟨rfl, hb6⟩
            have hs6 := nx (laid7_below y m M 0 0 0 0 26 w3) (nx (laid7_below y m (M + 1) 0 0 0 0 26 (w3.alloc (.cells #[.int .i64 y, .int .i64 m, .int .i64 M, .int .i64 0, .int .i64 0, .int .i64 0, .int .i64 0] 26))) hb6)
            have HE := Lib.hid (nx HB.out hs6)
            have h9 := (laid7_new y m (M + 1) 0 0 0 0 26 (w3.alloc (.cells #[.int .i64 y, .int .i64 m, .int .i64 M, .int .i64 0, .int .i64 0, .int .i64 0, .int .i64 0] 26))).below hb6
            rw [show (w3.alloc (.cells #[.int .i64 y, .int .i64 m, .int .i64 M, .int .i64 0, .int .i64 0, .int .i64 0, .int .i64 0] 26)).heap.size = w3.heap.size + 1 by simp] at h9
            obtain ⟨c0, c1, c2, c3, c4, c5, c6⟩ := h9
            simp only at c0 c1 c2 c3 c4 c5 c6
            clear hs6
            go_wp2_with fail
            refine (HV2.out _).mono ?_
            rintro e w7 ⟨rfl, hb7⟩
            go_wp2
            go_ret
            exact ⟨rfl, nx HE.out hb7⟩
set_option maxRecDepth 100000 in
theorem fnDaysOf_lifted (os : Os) (started : os.Started) (H : Type) (enc : TypeId × Value → H) :
    ReturnsInHanded {} Try.checked os 6 .any (Rows.fnDaysOfSpec.pre6 enc Try.prog Try.f6 Rows.fnDaysOfRow.domain false) (Rows.fnDaysOfSpec.post enc Try.prog Try.f6 false true false false) := by
  refine returnsInHanded_of_change (C := Try.checked) own started (by kernel_rfl) Try.func6
    (ChangeSpec.witness6 (enc := enc) (C := Try.checked) false ⟨#[], #[.slice none 0 0], []⟩ 8 (by kernel_rfl) (by kernel_rfl) (by kernel_rfl) (by kernel_rfl)) ?_
  intro W base args ds gs before hval0 hW hcnd _
  have hval : ∀ (j : Nat) t v, Try.f6.params[j]? = some t → args[j]? = some v → Value.okWide Try.prog W .any base t v := hval0
  have hW' := hW
  obtain ⟨p, q, hA0, hV, rfl, hfz, hnd⟩ := hW
  have hA : DataW.TrodAll enc Try.prog W 0 (fun _ => true) true Try.f6.params.toList args.toList ds p := hA0
  rw [Try.params6] at hA hval
  obtain ⟨v0, vs0, d0, ds0, p0, q0, hargs, rfl, rfl, h0, r0⟩ := trodAll_cons hA
  obtain ⟨rfl, rfl, rfl⟩ := trodAll_nil r0
  obtain rfl : args = #[v0] := by cases args; simp_all
  obtain ⟨rfl, rfl⟩ := trodVars_none hV
  obtain ⟨a0, n0, c0, rfl⟩ := okWide_slice Try.underlying22 (hval 0 22 v0 rfl rfl)
  have k0 := h0
  have lt0 : ∀ x ∈ p0, x.block < W.heap.size := by obtain ⟨m, hm⟩ := k0; exact DataW.trod_lt m _ _ _ hm
  obtain ⟨w0, x0, y0⟩ := code_of_trod Try.underlying22 Try.underlying5 (by kernel_rfl) h0
  clear hA0 hval0
  refine (fnDaysOf_walk a0 n0 c0 W w0 x0 y0).mono fun e W' ⟨he, bel⟩ => ?_
  subst he
  exact ⟨_, rfl, _, _, _, [], _, [], hW', trodAll_mk1 (shut_bool Try.underlying4 _), (trodAll_cons_mk (Below.trod laidOut (by kernel_rfl) (of_decide_eq_true (by kernel_rfl)) k0 bel lt0) trodAll_mk0), rfl, bel.frame _, fun h => by cases h⟩
/-- FnDaysOf: THE STATEMENT. -/
theorem fnDaysOf_holds : Rows.FnDaysOfSaid :=
  OpenClaim.holds_of_wide 6 Try.f6 rfl rfl rfl rfl rfl rfl rfl ⟨rfl, rfl, rfl, rfl, rfl⟩ rfl rfl rfl rfl rfl (by kernel_rfl) Try.func6 (by kernel_rfl)
    (of_decide_eq_true (by kernel_rfl)) (by unfold Func.isWrapper; first | (rw [if_pos (by decide +kernel)]; kernel_rfl) | (rw [if_neg (by decide +kernel)]; exact ⟨rfl, rfl⟩))
    (fun os started H enc _ => fnDaysOf_lifted os started H enc)
set_option maxRecDepth 100000 in
set_option maxHeartbeats 2000000 in
theorem fnYearDays_walk (a : Option Addr) (n c : Nat) (w : World) (hc : Code w a n) (hnc : n ≤ c) (hm : c ≤ maxLen) :
    Calls Try.prog 9 #[.slice a n c] w fun e w' => e = .returned (.bool true) ∧ Below w.heap.size w w' := by
  have hm' := hm
  unfold maxLen at hm'
  by_cases hn : 1048576 < n
  · have hd : decide ((1048576 : Int) < n) = true := by simp; omega
    go_enter Try.func9, Try.ntmps9
    go_wp2
    go_ret
    exact ⟨rfl, Below.refl _ _⟩
  · have hd : decide ((1048576 : Int) < n) = false := by simp; omega
    go_enter Try.func9, Try.ntmps9
    go_wp2_with fail
    refine (dDrawDaysOf_any a n c w hc hnc hm).mono ?_
    rintro e w1 ⟨y, m, rfl, hy, hmm, hb1⟩
    have H1 := Lib.hid (fun u => daysOf_any y m u)
    have H2 := Lib.hid (fun u => daysOfS_any y m u)
    obtain ⟨M, hM⟩ : ∃ M, dim y m = M := ⟨_, rfl⟩
    have HM := Lib.hid hM
    rw [hM] at H1 H2
    clear hM
    by_cases h0 : M = 0
    · subst h0
      go_wp2_with fail
      refine (H1.out _).mono ?_
      rintro e w2 ⟨rfl, rfl⟩
      go_wp2_with fail
      refine (H2.out _).mono ?_
      rintro e w3 ⟨rfl, hb3⟩
      go_wp2_with fail
      refine (H2.out _).mono ?_
      rintro e w4 ⟨rfl, hb4⟩
      go_wp2
      go_ret
      exact ⟨rfl, nx hb1 (nx hb3 hb4)⟩
    · by_cases h99 : y = 2099
      · subst h99
        go_wp2_with fail
        refine (H1.out _).mono ?_
        rintro e w2 ⟨rfl, rfl⟩
        go_wp2_with fail
        refine (H2.out _).mono ?_
        rintro e w3 ⟨rfl, hb3⟩
        go_wp2_with fail
        refine (H2.out _).mono ?_
        rintro e w4 ⟨rfl, hb4⟩
        go_wp2
        go_ret
        exact ⟨rfl, nx hb1 (nx hb3 hb4)⟩
      · obtain ⟨y0, y9, m0, m9⟩ := dim_pos (y := y) (m := m) (by have := dim_nn y m; have := HM.out; omega)
        have e0 : (M == 0) = false := by rw [beq_eq_false_iff_ne]; exact h0
        have e1 : (y == 2099) = false := by rw [beq_eq_false_iff_ne]; exact h99
        have y8 : y ≤ 2098 := by omega
        have f1 := year_first ⟨y0, y9⟩
        have f2 := year_first (y := y + 1) ⟨by omega, by omega⟩
        have HS1 := Lib.hid (secondsOf_ok f1.1)
        have HS2 := Lib.hid (secondsOf_ok f2.1)
        have g1 := f1.1.2
        have hyn := year_next ⟨y0, y8⟩
        rw [hyn] at HS2
        have hyl := ylen_le y
        have hyl2 := ylen_ge y
        have HMY := Lib.hid (mos_year ⟨y0, y9⟩)
        generalize secs ⟨y, 1, 1, 0, 0, 0, 0⟩ = S at *
        clear f1 f2 hyn
        generalize hYL : ylen y = YL at *
        go_wp2_with fail
        refine (H1.out _).mono ?_
        rintro e w2 ⟨rfl, rfl⟩
        go_wp2_with fail
        refine (H2.out _).mono ?_
        rintro e w3 ⟨rfl, hb3⟩
        go_wp2_with fail
        refine (HS1.out _).mono ?_
        rintro e w4 ⟨rfl, hb4⟩
        go_wp2_with fail
        refine (HS2.out _).mono ?_
        rintro e w5 ⟨rfl, hb5⟩
        have HB := Lib.hid (nx hb1 (nx hb3 (nx hb4 hb5)))
        clear hb1 hb3 hb4 hb5
        go_wp2_with fail
        go_loop [10, 11] (fun a b => ∃ k : Nat, k ≤ 12 ∧ a = .int .i64 (mos y k) ∧ b = .int .i64 (1 + k)) (fun _ b => (13 - intOf b).toNat)
        case atStart => exact ⟨0, by omega, rfl, rfl⟩
        case round =>
          obtain ⟨k, hk, rfl, rfl⟩ := hrel
          by_cases hlt : k < 12
          · have hlt' : (1 : Int) + k ≤ 12 := by omega
            have d1 := mos_nn y k
            have d2 := mos_mono y (a := k) (b := 12) (by omega)
            rw [HMY.out] at d2
            have d4 := dim_nn y (1 + k)
            have d5 := dim_le y (1 + k)
            have HS : Hid (mos y (k + 1) = mos y k + dim y (1 + k)) := by show _ = _; rw [mos_succ, Int.add_comm (k : Int) 1]
            have HL := Lib.hid (fun u => daysOf_any y (1 + (k : Int)) u)
            generalize dim y (1 + (k : Int)) = L at *
            generalize mos y k = X at *
            go_wp2_with fail
            refine (HL.out _).mono ?_
            rintro e w6 ⟨rfl, rfl⟩
            go_wp2
            go_round
            case rel => exact ⟨k + 1, by omega, by rw [HS.out], by go_num⟩
            case measure => simp [intOf]; omega
          · have h12 : k = 12 := by omega
            subst h12
            have hmy := HMY.out
            have hk13 : ¬ ((1 : Int) + ((12 : Nat) : Int) ≤ 12) := by omega
            generalize mos y 12 = X at *
            subst hmy
            have he : S + X * 86400 - S = X * 86400 := by omega
            go_wp2
            go_ret
            exact ⟨rfl, HB.out⟩
set_option maxRecDepth 100000 in
theorem fnYearDays_lifted (os : Os) (started : os.Started) (H : Type) (enc : TypeId × Value → H) :
    ReturnsInHanded {} Try.checked os 9 .any (Rows.fnYearDaysSpec.pre6 enc Try.prog Try.f9 Rows.fnYearDaysRow.domain false) (Rows.fnYearDaysSpec.post enc Try.prog Try.f9 false true false false) := by
  refine returnsInHanded_of_change (C := Try.checked) own started (by kernel_rfl) Try.func9
    (ChangeSpec.witness6 (enc := enc) (C := Try.checked) false ⟨#[], #[.slice none 0 0], []⟩ 8 (by kernel_rfl) (by kernel_rfl) (by kernel_rfl) (by kernel_rfl)) ?_
  intro W base args ds gs before hval0 hW hcnd _
  have hval : ∀ (j : Nat) t v, Try.f9.params[j]? = some t → args[j]? = some v → Value.okWide Try.prog W .any base t v := hval0
  have hW' := hW
  obtain ⟨p, q, hA0, hV, rfl, hfz, hnd⟩ := hW
  have hA : DataW.TrodAll enc Try.prog W 0 (fun _ => true) true Try.f9.params.toList args.toList ds p := hA0
  rw [Try.params9] at hA hval
  obtain ⟨v0, vs0, d0, ds0, p0, q0, hargs, rfl, rfl, h0, r0⟩ := trodAll_cons hA
  obtain ⟨rfl, rfl, rfl⟩ := trodAll_nil r0
  obtain rfl : args = #[v0] := by cases args; simp_all
  obtain ⟨rfl, rfl⟩ := trodVars_none hV
  obtain ⟨a0, n0, c0, rfl⟩ := okWide_slice Try.underlying22 (hval 0 22 v0 rfl rfl)
  have k0 := h0
  have lt0 : ∀ x ∈ p0, x.block < W.heap.size := by obtain ⟨m, hm⟩ := k0; exact DataW.trod_lt m _ _ _ hm
  obtain ⟨w0, x0, y0⟩ := code_of_trod Try.underlying22 Try.underlying5 (by kernel_rfl) h0
  clear hA0 hval0
  refine (fnYearDays_walk a0 n0 c0 W w0 x0 y0).mono fun e W' ⟨he, bel⟩ => ?_
  subst he
  exact ⟨_, rfl, _, _, _, [], _, [], hW', trodAll_mk1 (shut_bool Try.underlying4 _), (trodAll_cons_mk (Below.trod laidOut (by kernel_rfl) (of_decide_eq_true (by kernel_rfl)) k0 bel lt0) trodAll_mk0), rfl, bel.frame _, fun h => by cases h⟩
/-- FnYearDays: THE STATEMENT. -/
theorem fnYearDays_holds : Rows.FnYearDaysSaid :=
  OpenClaim.holds_of_wide 9 Try.f9 rfl rfl rfl rfl rfl rfl rfl ⟨rfl, rfl, rfl, rfl, rfl⟩ rfl rfl rfl rfl rfl (by kernel_rfl) Try.func9 (by kernel_rfl)
    (of_decide_eq_true (by kernel_rfl)) (by unfold Func.isWrapper; first | (rw [if_pos (by decide +kernel)]; kernel_rfl) | (rw [if_neg (by decide +kernel)]; exact ⟨rfl, rfl⟩))
    (fun os started H enc _ => fnYearDays_lifted os started H enc)
end Go.Proofs.Ytejplhhlecnagaa
