/-
  The laws of chapter 7 on parts: each law's walk. For every input of the law: it returns true, and the input reads as it did. Conditions: none but the statement's own.
-/
import Derived.Test.YtdoclfbfhlgejaaLaw0
import Derived.Test.YtdoclfbfhlgejaaPartH
import Derived.Test.YtdoclfbfhlgejaaDrawS
namespace Go.Proofs.Ytdoclfbfhlgejaa
open Go.ChangeShapes Go.WideShapes Go.ChangeAt Go.RowKit
open Go.ChangeMaps (open_string shut_string)

theorem fnSplitParts_facts {xs : List (List UInt8)} {s : ByteArray} {ps : List (List (List UInt8))} (h : splitP xs s.data.toList = some ps) (hl : xs.length ≤ 10) : ps.length ≤ 10 ∧ sumP ps + 1 ≤ xs.length ∧ 1 ≤ ps.length ∧ (∀ p ∈ ps, p.length ≤ 10) := by
  have h1 := splB_len _ _ _ (splitP_some h).2
  have h2 := sumP_len ps
  have h3 := (splB_ok _ _ _ (splitP_some h).2).1
  refine ⟨by omega, h1, List.length_pos_iff.2 h3, fun p hp => ?_⟩
  have := sumP_mem hp
  omega
set_option maxRecDepth 100000 in
set_option maxHeartbeats 1000000 in
theorem fnSplitParts_walk (a : Option Addr) (n c : Nat) (w : World) (hc : Code w a n) (hnc : n ≤ c) (hm : c ≤ maxLen) :
    Calls Try.prog 4 #[.slice a n c] w fun e w' => e = .returned (.bool true) ∧ Below w.heap.size w w' := by
  have hm' := hm
  unfold maxLen at hm'
  by_cases hn : 1048576 < n
  · have hd : decide ((1048576 : Int) < n) = true := by simp; omega
    go_enter Try.func4, Try.ntmps4
    go_wp2
    go_ret
    exact ⟨rfl, Below.refl _ _⟩
  have hd : decide ((1048576 : Int) < n) = false := by simp; omega
  go_enter Try.func4, Try.ntmps4
  go_wp2_with fail
  refine (drawSplitParts_any a n c w hc hnc hm).mono ?_
  rintro e w1 ⟨v1, xs, s, rfl, ho1, hl1, hx1, hs1, hb1⟩
  obtain ⟨a1, c1, rfl, hr1, _, _, _⟩ := ho1.readc
  have HR1 := Lib.hid hr1
  have HI := Lib.hid (fun u h => splitParts_any a1 xs.length c1 xs s u h (by omega) (by omega))
  have HS := Lib.hid (fun u h => splitPartsS_any a1 xs.length c1 xs s u h (by omega) (by omega))
  clear hr1 ho1 hx1
  cases ho : splitP xs s.data.toList with
  | none =>
    rw [ho] at HI HS
    clear ho
    go_wp2_with fail
    refine (HI.out _ HR1.out).mono ?_
    intro e w2 h2
    obtain ⟨a2, c2, rfl, hb2⟩ := h2.none'
    go_wp2_with fail
    refine (HS.out _ (HR1.out.below hb2)).mono ?_
    intro e w3 h3
    obtain ⟨a3, c3, rfl, hb3⟩ := h3.none'
    clear h2 h3
    go_wp2
    go_ret
    exact ⟨rfl, nx (nx hb1 hb2) hb3⟩
  | some ps =>
    obtain ⟨g1, g2, g3, g4⟩ := fnSplitParts_facts ho hl1
    have HJ := Lib.hid (join_splitP ho)
    have HSP := Lib.hid (split_joinP (join_splitP ho))
    have hjl := joinsP_sum ps s.data.toList
    have HG4 := Lib.hid g4
    rw [ho] at HI HS
    clear ho g4
    go_wp2_with fail
    refine (HI.out _ HR1.out).mono ?_
    intro e w2 h2
    obtain ⟨a2, c2, us2, rfl, _, hd2, hb2⟩ := h2.some'
    clear h2
    go_wp2_with fail
    refine (HS.out _ (HR1.out.below hb2)).mono ?_
    intro e w3 h3
    obtain ⟨a3, c3, us3, rfl, _, hd3, hb3⟩ := h3.some'
    clear h3
    have HB3 := Lib.hid (nx (nx hb1 hb2) hb3)
    have HD2 := Lib.hid (hd2.below hb3)
    have HD3 := Lib.hid hd3
    have HJI : Hid (∀ u, RdSS u a2 ps.length ps → Calls Try.prog 6 #[.slice a2 ps.length c2, .string s] u (LinesRet (some (joinsP ps s.data.toList)) u)) := fun u h => by
      have := joinParts_any a2 _ c2 ps s u h (by omega) (by omega) (by omega)
      rw [HJ.out] at this; exact this
    have HSI : Hid (∀ u a c, RdL u a (joinsP ps s.data.toList).length (joinsP ps s.data.toList) → Calls Try.prog 9 #[.slice a (joinsP ps s.data.toList).length c, .string s] u (PartsRet (some ps) u)) := fun u a c h => by
      have := splitParts_any a _ c _ s u h (by omega) (by omega)
      rw [HSP.out] at this; exact this
    clear hd2 hd3 hb1 hb2 hb3 hjl
    generalize joinsP ps s.data.toList = ls at *
    go_wp2_with fail
    refine (HJI.out _ HD2.out).mono ?_
    intro e w4 h4
    obtain ⟨a4, c4, rfl, _, hd4, hb4⟩ := h4.some'
    clear h4
    go_wp2_with fail
    refine (HSI.out _ _ _ hd4).mono ?_
    intro e w5 h5
    obtain ⟨a5, c5, us5, rfl, _, hd5, hb5⟩ := h5.some'
    clear h5 hd4
    have HB5 := Lib.hid (nx (nx HB3.out hb4) hb5)
    have HD25 := Lib.hid ((HD2.out.below hb4).below hb5)
    have HD35 := Lib.hid ((HD3.out.below hb4).below hb5)
    have HD55 := Lib.hid hd5
    have hp0 : (0 : Int) < (ps.length : Int) := by omega
    have e1 : ((ps.length : Int) != (ps.length : Int)) = false := by simp
    clear hd5 hb4 hb5 HD2 HD3 HB3
    go_wp2_with fail
    go_loopw [13] (fun i wr => ∃ k : Nat, k ≤ ps.length ∧ i = .int .i64 k ∧ Below w5.heap.size w5 wr) (fun i _ => ps.length - (intOf i).toNat)
    case atStart => exact ⟨0, Nat.zero_le _, rfl, Below.refl _ _⟩
    case round =>
      obtain ⟨k, hk, rfl, hb⟩ := hrel
      by_cases hlt : k < ps.length
      · obtain ⟨b2, o2, q2, d2, rfl, x2, r2, l2⟩ := HD25.out.cellT hb hlt
        obtain ⟨b3, o3, q3, d3, rfl, x3, r3, l3⟩ := HD35.out.cellT hb hlt
        obtain ⟨b5, o5, q5, d5, rfl, x5, r5, l5⟩ := HD55.out.cellT hb hlt
        have hpk := HG4.out _ (List.getElem_mem hlt)
        generalize ps[k] = p at *
        have R2 := Lib.hid r2
        have R3 := Lib.hid r3
        have R5 := Lib.hid r5
        have HMW : Hid (∀ (y : BelowT wr) a1 c1 a2 c2, RdL y.val a1 p.length p → RdL y.val a2 p.length p → Calls Try.prog 8 #[.slice a1 p.length c1, .slice a2 p.length c2] y.val fun e w' => e = .returned (.bool true) ∧ Below y.val.heap.size y.val w') := fun y a1 c1 a2 c2 h1 h2 => by
          have := mwTexts_any a1 a2 _ c1 _ c2 p p y.val h1 h2 (by unfold maxLen; omega) (by unfold maxLen; omega)
          rw [decide_eq_true (rfl : p = p)] at this; exact this
        have hk0 : (0 : Int) ≤ (k : Int) := by omega
        have hkn : (k : Int) < (ps.length : Int) := by omega
        have HBB := Lib.hid hb
        clear r2 r3 r5 hb hk
        go_wp2_with fail
        refine wp_region_quietB (W := wr) (by kernel_rfl) (by kernel_rfl) (Below.refl _ _) ?_
        repeat (go_big_quiet_step (first
          | (go_at_call 8; exact calls_belowT (HMW.out _ _ _ _ _ (by first | exact R2.out _ | exact R5.out _) (by first | exact R3.out _ | exact R2.out _)))))
        refine wpQuiet_nil ?_
        intro wz hwz
        obtain ⟨x9, rfl⟩ := hwz
        have hbx := nx HBB.out x9.below
        clear x2 x3 x5
        generalize x9.val = w9 at *
        go_wp2
        go_roundw
        case rel => exact ⟨k + 1, by omega, by go_num, hbx⟩
        case measure => simp [intOf]; omega
      · clear hk
        go_wp2
        go_ret
        exact ⟨ret_bool (decide_eq_true (by omega)), nx HB5.out hb⟩
set_option maxRecDepth 100000 in
theorem fnSplitParts_lifted (os : Os) (started : os.Started) (H : Type) (enc : TypeId × Value → H) :
    ReturnsInHanded {} Try.checked os 4 .any (Rows.fnSplitPartsSpec.pre6 enc Try.prog Try.f4 Rows.fnSplitPartsRow.domain false) (Rows.fnSplitPartsSpec.post enc Try.prog Try.f4 false true false false) := by
  refine returnsInHanded_of_change (C := Try.checked) own started (by kernel_rfl) Try.func4
    (ChangeSpec.witness6 (enc := enc) (C := Try.checked) false ⟨#[], #[.slice none 0 0], []⟩ 8 (by kernel_rfl) (by kernel_rfl) (by kernel_rfl) (by kernel_rfl)) ?_
  intro W base args ds gs before hval0 hW hcnd _
  have hval : ∀ (j : Nat) t v, Try.f4.params[j]? = some t → args[j]? = some v → Value.okWide Try.prog W .any base t v := hval0
  have hW' := hW
  obtain ⟨p, q, hA0, hV, rfl, hfz, hnd⟩ := hW
  have hA : DataW.TrodAll enc Try.prog W 0 (fun _ => true) true Try.f4.params.toList args.toList ds p := hA0
  rw [Try.params4] at hA hval
  obtain ⟨v0, vs0, d0, ds0, p0, q0, hargs, rfl, rfl, h0, r0⟩ := trodAll_cons hA
  obtain ⟨rfl, rfl, rfl⟩ := trodAll_nil r0
  obtain rfl : args = #[v0] := by cases args; simp_all
  obtain ⟨rfl, rfl⟩ := trodVars_none hV
  obtain ⟨a0, n0, c0, rfl⟩ := okWide_slice Try.underlying22 (hval 0 22 v0 rfl rfl)
  have k0 := h0
  have lt0 : ∀ x ∈ p0, x.block < W.heap.size := by obtain ⟨m, hm⟩ := k0; exact DataW.trod_lt m _ _ _ hm
  obtain ⟨w0, x0, y0⟩ := code_of_trod Try.underlying22 Try.underlying5 (by kernel_rfl) h0
  clear hA0 hval0
  refine (fnSplitParts_walk a0 n0 c0 W w0 x0 y0).mono fun e W' ⟨he, bel⟩ => ?_
  subst he
  exact ⟨_, rfl, _, _, _, [], _, [], hW', trodAll_mk1 (shut_bool Try.underlying4 _), (trodAll_cons_mk (Below.trod laidOut (by kernel_rfl) (of_decide_eq_true (by kernel_rfl)) k0 bel lt0) trodAll_mk0), rfl, bel.frame _, fun h => by cases h⟩
/-- FnSplitParts: THE STATEMENT. -/
theorem fnSplitParts_holds : Rows.FnSplitPartsSaid :=
  OpenClaim.holds_of_wide 4 Try.f4 rfl rfl rfl rfl rfl rfl rfl ⟨rfl, rfl, rfl, rfl, rfl⟩ rfl rfl rfl rfl rfl (by kernel_rfl) Try.func4 (by kernel_rfl)
    (of_decide_eq_true (by kernel_rfl)) (by unfold Func.isWrapper; first | (rw [if_pos (by decide +kernel)]; kernel_rfl) | (rw [if_neg (by decide +kernel)]; exact ⟨rfl, rfl⟩))
    (fun os started H enc _ => fnSplitParts_lifted os started H enc)
set_option maxRecDepth 100000 in
set_option maxHeartbeats 1000000 in
theorem fnJoinParts_walk (a : Option Addr) (n c : Nat) (w : World) (hc : Code w a n) (hnc : n ≤ c) (hm : c ≤ maxLen) :
    Calls Try.prog 3 #[.slice a n c] w fun e w' => e = .returned (.bool true) ∧ Below w.heap.size w w' := by
  have hm' := hm
  unfold maxLen at hm'
  by_cases hn : 1048576 < n
  · have hd : decide ((1048576 : Int) < n) = true := by simp; omega
    go_enter Try.func3, Try.ntmps3
    go_wp2
    go_ret
    exact ⟨rfl, Below.refl _ _⟩
  have hd : decide ((1048576 : Int) < n) = false := by simp; omega
  go_enter Try.func3, Try.ntmps3
  go_wp2_with fail
  refine (drawJoinParts_any a n c w hc hnc hm).mono ?_
  rintro e w1 ⟨v1, us1, ps, s, rfl, ho1, hl1, hx1, hs1, hb1⟩
  obtain ⟨a1, c1, rfl, hr1, _, _, _⟩ := ho1.read
  have HR1 := Lib.hid hr1
  have HI := Lib.hid (fun u h => joinParts_any a1 ps.length c1 ps s u h (by omega) (by omega) (by omega))
  have HS := Lib.hid (fun u h => joinPartsS_any a1 ps.length c1 ps s u h (by omega) (by omega) (by omega))
  clear hr1 ho1
  cases ho : joinP ps s.data.toList with
  | none =>
    rw [ho] at HI HS
    clear ho
    have HM0 : Hid (∀ u a1 c1 a2 c2, RdL u a1 0 [] → RdL u a2 0 [] → Calls Try.prog 8 #[.slice a1 0 c1, .slice a2 0 c2] u fun e w' => e = .returned (.bool true) ∧ Below u.heap.size u w') := fun u a1 c1 a2 c2 h1 h2 => mwTexts_any a1 a2 0 c1 0 c2 [] [] u h1 h2 (by unfold maxLen; omega) (by unfold maxLen; omega)
    go_wp2_with fail
    refine (HI.out _ HR1.out).mono ?_
    intro e w2 h2
    obtain ⟨a2, c2, rfl, hd2, hb2⟩ := h2.none'
    go_wp2_with fail
    refine (HS.out _ (HR1.out.below hb2)).mono ?_
    intro e w3 h3
    obtain ⟨a3, c3, rfl, hd3, hb3⟩ := h3.none'
    have HD2 := Lib.hid (hd2.below hb3)
    have HD3 := Lib.hid hd3
    clear h2 h3 hd2 hd3
    go_wp2_with fail
    refine (HM0.out _ _ _ _ _ HD2.out HD3.out).mono ?_
    rintro e w4 ⟨rfl, hb4⟩
    go_wp2_with fail
    refine (HM0.out _ _ _ _ _ (HD2.out.below hb4) (HD3.out.below hb4)).mono ?_
    rintro e w5 ⟨rfl, hb5⟩
    go_wp2
    go_ret
    exact ⟨rfl, nx (nx (nx (nx hb1 hb2) hb3) hb4) hb5⟩
  | some ls =>
    have HSP := Lib.hid (split_joinP ho)
    obtain ⟨_, _, _, hls⟩ := joinP_some ho
    have hjl := joinsP_sum ps s.data.toList
    rw [← hls] at hjl
    rw [ho] at HI HS
    have HG4 : Hid (∀ p ∈ ps, p.length ≤ 10) := fun p hp => by have := sumP_mem hp; omega
    clear ho hls
    have HML : Hid (∀ u a1 c1 a2 c2, RdL u a1 ls.length ls → RdL u a2 ls.length ls → Calls Try.prog 8 #[.slice a1 ls.length c1, .slice a2 ls.length c2] u fun e w' => e = .returned (.bool true) ∧ Below u.heap.size u w') := fun u a1 c1 a2 c2 h1 h2 => by
      have := mwTexts_any a1 a2 _ c1 _ c2 ls ls u h1 h2 (by unfold maxLen; omega) (by unfold maxLen; omega)
      rw [decide_eq_true (rfl : ls = ls)] at this; exact this
    have HSI : Hid (∀ u a c, RdL u a ls.length ls → Calls Try.prog 9 #[.slice a ls.length c, .string s] u (PartsRet (some ps) u)) := fun u a c h => by
      have := splitParts_any a _ c _ s u h (by omega) (by omega)
      rw [HSP.out] at this; exact this
    clear hjl
    go_wp2_with fail
    refine (HI.out _ HR1.out).mono ?_
    intro e w2 h2
    obtain ⟨a2, c2, rfl, _, hd2, hb2⟩ := h2.some'
    clear h2
    go_wp2_with fail
    refine (HS.out _ (HR1.out.below hb2)).mono ?_
    intro e w3 h3
    obtain ⟨a3, c3, rfl, _, hd3, hb3⟩ := h3.some'
    have HD2 := Lib.hid (hd2.below hb3)
    have HD3 := Lib.hid hd3
    have HB3 := Lib.hid (nx (nx hb1 hb2) hb3)
    have HR3 := Lib.hid ((HR1.out.below hb2).below hb3)
    clear h3 hd2 hd3 hb1 hb2 hb3
    go_wp2_with fail
    refine (HML.out _ _ _ _ _ HD2.out HD3.out).mono ?_
    rintro e w4 ⟨rfl, hb4⟩
    go_wp2_with fail
    refine (HSI.out _ _ _ (HD2.out.below hb4)).mono ?_
    intro e w5 h5
    obtain ⟨a5, c5, us5, rfl, _, hd5, hb5⟩ := h5.some'
    clear h5
    have HB5 := Lib.hid (nx (nx HB3.out hb4) hb5)
    have HD15 := Lib.hid ((HR3.out.below hb4).below hb5)
    have HD55 := Lib.hid hd5
    have e1 : ((ps.length : Int) != (ps.length : Int)) = false := by simp
    clear hd5 hb4 hb5
    go_wp2_with fail
    go_loopw [11] (fun i wr => ∃ k : Nat, k ≤ ps.length ∧ i = .int .i64 k ∧ Below w5.heap.size w5 wr) (fun i _ => ps.length - (intOf i).toNat)
    case atStart => exact ⟨0, Nat.zero_le _, rfl, Below.refl _ _⟩
    case round =>
      obtain ⟨k, hk, rfl, hb⟩ := hrel
      by_cases hlt : k < ps.length
      · obtain ⟨b2, o2, q2, d2, rfl, x2, r2, l2⟩ := HD15.out.cellT hb hlt
        obtain ⟨b5, o5, q5, d5, rfl, x5, r5, l5⟩ := HD55.out.cellT hb hlt
        have hpk := HG4.out _ (List.getElem_mem hlt)
        generalize ps[k] = p at *
        have R2 := Lib.hid r2
        have R5 := Lib.hid r5
        have HMW : Hid (∀ (y : BelowT wr) a1 c1 a2 c2, RdL y.val a1 p.length p → RdL y.val a2 p.length p → Calls Try.prog 8 #[.slice a1 p.length c1, .slice a2 p.length c2] y.val fun e w' => e = .returned (.bool true) ∧ Below y.val.heap.size y.val w') := fun y a1 c1 a2 c2 h1 h2 => by
          have := mwTexts_any a1 a2 _ c1 _ c2 p p y.val h1 h2 (by unfold maxLen; omega) (by unfold maxLen; omega)
          rw [decide_eq_true (rfl : p = p)] at this; exact this
        have hk0 : (0 : Int) ≤ (k : Int) := by omega
        have hkn : (k : Int) < (ps.length : Int) := by omega
        have HBB := Lib.hid hb
        clear r2 r5 hb hk
        go_wp2_with fail
        refine wp_region_quietB (W := wr) (by kernel_rfl) (by kernel_rfl) (Below.refl _ _) ?_
        repeat (go_big_quiet_step (first
          | (go_at_call 8; exact calls_belowT (HMW.out _ _ _ _ _ (R5.out _) (R2.out _)))))
        refine wpQuiet_nil ?_
        intro wz hwz
        obtain ⟨x9, rfl⟩ := hwz
        have hbx := nx HBB.out x9.below
        clear x2 x5
        generalize x9.val = w9 at *
        go_wp2
        go_roundw
        case rel => exact ⟨k + 1, by omega, by go_num, hbx⟩
        case measure => simp [intOf]; omega
      · clear hk
        go_wp2
        go_ret
        exact ⟨rfl, nx HB5.out hb⟩
set_option maxRecDepth 100000 in
theorem fnJoinParts_lifted (os : Os) (started : os.Started) (H : Type) (enc : TypeId × Value → H) :
    ReturnsInHanded {} Try.checked os 3 .any (Rows.fnJoinPartsSpec.pre6 enc Try.prog Try.f3 Rows.fnJoinPartsRow.domain false) (Rows.fnJoinPartsSpec.post enc Try.prog Try.f3 false true false false) := by
  refine returnsInHanded_of_change (C := Try.checked) own started (by kernel_rfl) Try.func3
    (ChangeSpec.witness6 (enc := enc) (C := Try.checked) false ⟨#[], #[.slice none 0 0], []⟩ 8 (by kernel_rfl) (by kernel_rfl) (by kernel_rfl) (by kernel_rfl)) ?_
  intro W base args ds gs before hval0 hW hcnd _
  have hval : ∀ (j : Nat) t v, Try.f3.params[j]? = some t → args[j]? = some v → Value.okWide Try.prog W .any base t v := hval0
  have hW' := hW
  obtain ⟨p, q, hA0, hV, rfl, hfz, hnd⟩ := hW
  have hA : DataW.TrodAll enc Try.prog W 0 (fun _ => true) true Try.f3.params.toList args.toList ds p := hA0
  rw [Try.params3] at hA hval
  obtain ⟨v0, vs0, d0, ds0, p0, q0, hargs, rfl, rfl, h0, r0⟩ := trodAll_cons hA
  obtain ⟨rfl, rfl, rfl⟩ := trodAll_nil r0
  obtain rfl : args = #[v0] := by cases args; simp_all
  obtain ⟨rfl, rfl⟩ := trodVars_none hV
  obtain ⟨a0, n0, c0, rfl⟩ := okWide_slice Try.underlying22 (hval 0 22 v0 rfl rfl)
  have k0 := h0
  have lt0 : ∀ x ∈ p0, x.block < W.heap.size := by obtain ⟨m, hm⟩ := k0; exact DataW.trod_lt m _ _ _ hm
  obtain ⟨w0, x0, y0⟩ := code_of_trod Try.underlying22 Try.underlying5 (by kernel_rfl) h0
  clear hA0 hval0
  refine (fnJoinParts_walk a0 n0 c0 W w0 x0 y0).mono fun e W' ⟨he, bel⟩ => ?_
  subst he
  exact ⟨_, rfl, _, _, _, [], _, [], hW', trodAll_mk1 (shut_bool Try.underlying4 _), (trodAll_cons_mk (Below.trod laidOut (by kernel_rfl) (of_decide_eq_true (by kernel_rfl)) k0 bel lt0) trodAll_mk0), rfl, bel.frame _, fun h => by cases h⟩
/-- FnJoinParts: THE STATEMENT. -/
theorem fnJoinParts_holds : Rows.FnJoinPartsSaid :=
  OpenClaim.holds_of_wide 3 Try.f3 rfl rfl rfl rfl rfl rfl rfl ⟨rfl, rfl, rfl, rfl, rfl⟩ rfl rfl rfl rfl rfl (by kernel_rfl) Try.func3 (by kernel_rfl)
    (of_decide_eq_true (by kernel_rfl)) (by unfold Func.isWrapper; first | (rw [if_pos (by decide +kernel)]; kernel_rfl) | (rw [if_neg (by decide +kernel)]; exact ⟨rfl, rfl⟩))
    (fun os started H enc _ => fnJoinParts_lifted os started H enc)
end Go.Proofs.Ytdoclfbfhlgejaa
