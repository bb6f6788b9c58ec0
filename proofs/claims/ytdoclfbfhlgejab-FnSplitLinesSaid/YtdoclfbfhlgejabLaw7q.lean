/-
  The laws of chapter 7 on lines and parts: each law's walk. For every input of the law: it returns true, and the input reads as it did. Conditions: none but the statement's own.
-/
import Derived.Test.YtdoclfbfhlgejabLaw0
import Derived.Test.YtdoclfbfhlgejabPartH
import Derived.Test.YtdoclfbfhlgejabDrawS
namespace Go.Proofs.Ytdoclfbfhlgejab
open Go.ChangeShapes Go.WideShapes Go.ChangeAt Go.RowKit
open Go.ChangeMaps (open_string shut_string)

theorem split_facts {xs : List (List UInt8)} {s : ByteArray} {ps : List (List (List UInt8))} (h : splitP xs s.data.toList = some ps) (hl : xs.length ≤ 10) : ps.length ≤ 10 ∧ sumP ps + 1 ≤ xs.length ∧ 1 ≤ ps.length ∧ (∀ p ∈ ps, p.length ≤ 10) := by
  have h1 := splB_len _ _ _ (splitP_some h).2
  have h2 := sumP_len ps
  have h3 := (splB_ok _ _ _ (splitP_some h).2).1
  refine ⟨by omega, h1, List.length_pos_iff.2 h3, fun p hp => ?_⟩
  have := sumP_mem hp
  omega
set_option maxRecDepth 100000 in
set_option maxHeartbeats 1000000 in
theorem fnSplitBefore_walk (a : Option Addr) (n c : Nat) (w : World) (hc : Code w a n) (hnc : n ≤ c) (hm : c ≤ maxLen) :
    Calls Try.prog 3 #[.slice a n c] w fun e w' => e = .returned (.bool true) ∧ Below w.heap.size w w' := by
  have hm' := hm
  unfold maxLen at hm'
  by_cases hn : 1048576 < n
  · have hd : decide ((1048576 : Int) < n) = true := by simp; omega
    go_enter Try.func3, Try.ntmps3
    go_wp2
    go_ret
    exact ⟨rfl, Below.refl _ _⟩
  have hd : decide ((1048576 : Int) < n) = false := by simp; omega
  go_enter Try.func3, Try.ntmps3
  go_wp2_with fail
  refine (drawSplitParts_any a n c w hc hnc hm).mono ?_
  rintro e w1 ⟨v1, xs, s, rfl, ho1, hl1, hx1, hs1, hb1⟩
  obtain ⟨a1, c1, rfl, hr1, _, hac1, _⟩ := ho1.readc
  have HR1 := Lib.hid hr1
  have HI := Lib.hid (fun u h => splitParts_any a1 xs.length c1 xs s u h (by omega) (by omega))
  have HS := Lib.hid (fun u h => splitPartsS_any a1 xs.length c1 xs s u h (by omega) (by omega))
  clear hr1 ho1 hx1
  cases ho : splitP xs s.data.toList with
  | none =>
    rw [ho] at HI HS
    clear ho
    go_wp2_with fail
    refine (HI.out _ HR1.out).mono ?_
    intro e w2 h2
    obtain ⟨a2, c2, rfl, hb2⟩ := h2.none'
    go_wp2_with fail
    refine (HS.out _ (HR1.out.below hb2)).mono ?_
    intro e w3 h3
    obtain ⟨a3, c3, rfl, hb3⟩ := h3.none'
    clear h2 h3
    go_wp2
    go_ret
    exact ⟨rfl, nx (nx hb1 hb2) hb3⟩
  | some ps =>
    obtain ⟨g1, g2, g3, g4⟩ := split_facts ho hl1
    have HSP : Hid (splitP ([[112, 114, 101, 102, 97, 99, 101], []] ++ xs ++ [[101, 112, 105, 108, 111, 103, 117, 101]]) s.data.toList = some ps) := splitP_before ho (fun l hl e => by
      simp only [List.mem_cons, List.not_mem_nil, or_false] at hl
      unfold begL at e
      rcases hl with rfl | rfl <;> simp at e)
    have HG4 := Lib.hid g4
    have HAC := Lib.hid hac1
    rw [ho] at HI HS
    clear ho g4 hac1
    go_wp2_with fail
    refine (HI.out _ HR1.out).mono ?_
    intro e w2 h2
    obtain ⟨a2, c2, us2, rfl, _, hd2, hb2⟩ := h2.some'
    clear h2
    go_wp2_with fail
    refine (HS.out _ (HR1.out.below hb2)).mono ?_
    intro e w3 h3
    obtain ⟨a3, c3, us3, rfl, _, hd3, hb3⟩ := h3.some'
    clear h3
    have HB3 := Lib.hid (nx (nx hb1 hb2) hb3)
    have HD2 := Lib.hid (hd2.below hb3)
    have HR3 := Lib.hid ((HR1.out.below hb2).below hb3)
    have hA3 : Below w3.heap.size w3 (w3.alloc (.cells #[.string ⟨#[112, 114, 101, 102, 97, 99, 101]⟩, .string ⟨#[]⟩] 9)) := (Below.refl _ _).alloc (Nat.le_refl _) _
    have HL1 : Hid (OwnL w3.heap.size (.slice (some ⟨w3.heap.size, 0, none⟩) 2 2) [[112, 114, 101, 102, 97, 99, 101], []] (w3.alloc (.cells #[.string ⟨#[112, 114, 101, 102, 97, 99, 101]⟩, .string ⟨#[]⟩] 9))) := own_lits w3 [[112, 114, 101, 102, 97, 99, 101], []] _ rfl (by decide)
    clear hd2 hd3 hb1 hb2 hb3
    have e1 : ((ps.length : Int) != (ps.length : Int)) = false := by simp
    go_wp2_with (at_builtin; refine wpList_append_RL rfl _ _ rfl w3.heap.size _ [[112, 114, 101, 102, 97, 99, 101], []] xs a1 xs.length c1 rfl rfl HL1.out (HR3.out.below hA3) HAC.out ?c2 ?c3 ?_)
    case c2 => simp
    case c3 => simp; omega
    intro v4 w4 hO4 hgr4 _
    have hb4 : Below w3.heap.size w3 w4 := ((Below.refl _ _).alloc (by omega) _).grown hgr4 (by simp) (fun g hg => (HL1.out.lt g hg).1)
    have hs4 := hb4.size
    have hl4 : ([[112, 114, 101, 102, 97, 99, 101], []] ++ xs).length = xs.length + 2 := by simp
    have HO4 : Hid (OwnL w3.heap.size v4 ([[112, 114, 101, 102, 97, 99, 101], []] ++ xs) (w4.alloc (.cells #[.string ⟨#[101, 112, 105, 108, 111, 103, 117, 101]⟩] 9))) := OwnL.keep (hO4 : OwnL w3.heap.size v4 ([[112, 114, 101, 102, 97, 99, 101], []] ++ xs) w4) ((Below.refl _ _).alloc (Nat.le_refl _) _)
    have HL4 := Lib.hid hl4
    clear hO4 hgr4 hl4
    go_wp2_with (at_builtin; refine wpList_append_1L rfl _ _ rfl w3.heap.size _ ([[112, 114, 101, 102, 97, 99, 101], []] ++ xs) ⟨#[101, 112, 105, 108, 111, 103, 117, 101]⟩ w4.heap.size rfl rfl (cell_new1 _ _ _) HO4.out ?d2 ?d3 ?_)
    case d2 => first | omega | (simp; omega)
    case d3 => rw [HL4.out]; omega
    intro v5 w5 hO5 hgr5 _
    have hb5 : Below w3.heap.size w3 w5 := (hb4.alloc hs4 _).grown hgr5 (by simp; omega) (fun g hg => (HO4.out.lt g hg).1)
    have hO5 : OwnL w3.heap.size v5 ([[112, 114, 101, 102, 97, 99, 101], []] ++ xs ++ [[101, 112, 105, 108, 111, 103, 117, 101]]) w5 := hO5
    have HLL : Hid (([[112, 114, 101, 102, 97, 99, 101], []] ++ xs ++ [[101, 112, 105, 108, 111, 103, 117, 101]]).length = xs.length + 3) := by show _ = _; simp
    generalize [[112, 114, 101, 102, 97, 99, 101], []] ++ xs ++ [[101, 112, 105, 108, 111, 103, 117, 101]] = L at *
    obtain ⟨a5, c5, rfl, hr5, _⟩ := hO5.read
    have HR5 := Lib.hid hr5
    have HSI : Hid (∀ u, RdL u a5 L.length L → Calls Try.prog 7 #[.slice a5 L.length c5, .string s] u (PartsRet (some ps) u)) := fun u h => by
      have := splitParts_any a5 L.length c5 L s u h (by rw [HLL.out]; omega) (by omega)
      rw [HSP.out] at this; exact this
    have HB5 := Lib.hid (nx HB3.out hb5)
    have HD25 := Lib.hid (HD2.out.below hb5)
    clear hr5 hO5 hgr5 hb4 hb5 HL4 HO4
    go_wp2_with fail
    refine (HSI.out _ HR5.out).mono ?_
    intro e w6 h6
    obtain ⟨a6, c6, us6, rfl, _, hd6, hb6⟩ := h6.some'
    clear h6
    have HB6 := Lib.hid (nx HB5.out hb6)
    have HD26 := Lib.hid (HD25.out.below hb6)
    have HD66 := Lib.hid hd6
    clear hd6 hb6
    go_wp2_with fail
    go_loopw [12] (fun i wr => ∃ k : Nat, k ≤ ps.length ∧ i = .int .i64 k ∧ Below w6.heap.size w6 wr) (fun i _ => ps.length - (intOf i).toNat)
    case atStart => exact ⟨0, Nat.zero_le _, rfl, Below.refl _ _⟩
    case round =>
      obtain ⟨k, hk, rfl, hb⟩ := hrel
      by_cases hlt : k < ps.length
      · obtain ⟨b2, o2, q2, d2, rfl, x2, r2, l2⟩ := HD26.out.cellT hb hlt
        obtain ⟨b5, o5, q5, d5, rfl, x5, r5, l5⟩ := HD66.out.cellT hb hlt
        have hpk := HG4.out _ (List.getElem_mem hlt)
        generalize ps[k] = p at *
        have R2 := Lib.hid r2
        have R5 := Lib.hid r5
        have HMW : Hid (∀ (y : BelowT wr) a1 c1 a2 c2, RdL y.val a1 p.length p → RdL y.val a2 p.length p → Calls Try.prog 9 #[.slice a1 p.length c1, .slice a2 p.length c2] y.val fun e w' => e = .returned (.bool true) ∧ Below y.val.heap.size y.val w') := fun y a1 c1 a2 c2 h1 h2 => by
          have := mwTexts_any a1 a2 _ c1 _ c2 p p y.val h1 h2 (by unfold maxLen; omega) (by unfold maxLen; omega)
          rw [decide_eq_true (rfl : p = p)] at this; exact this
        have hk0 : (0 : Int) ≤ (k : Int) := by omega
        have hkn : (k : Int) < (ps.length : Int) := by omega
        have HBB := Lib.hid hb
        clear r2 r5 hb hk
        go_wp2_with fail
        refine wp_region_quietB (W := wr) (by kernel_rfl) (by kernel_rfl) (Below.refl _ _) ?_
        repeat (go_big_quiet_step (first
          | (go_at_call 9; exact calls_belowT (HMW.out _ _ _ _ _ (R5.out _) (R2.out _)))))
        refine wpQuiet_nil ?_
        intro wz hwz
        obtain ⟨x9, rfl⟩ := hwz
        have hbx := nx HBB.out x9.below
        clear x2 x5
        generalize x9.val = w9 at *
        go_wp2
        go_roundw
        case rel => exact ⟨k + 1, by omega, by go_num, hbx⟩
        case measure => simp [intOf]; omega
      · clear hk
        go_wp2
        go_ret
        exact ⟨rfl, nx HB6.out hb⟩
set_option maxRecDepth 100000 in
theorem fnSplitBefore_lifted (os : Os) (started : os.Started) (H : Type) (enc : TypeId × Value → H) :
    ReturnsInHanded {} Try.checked os 3 .any (Rows.fnSplitBeforeSpec.pre6 enc Try.prog Try.f3 Rows.fnSplitBeforeRow.domain false) (Rows.fnSplitBeforeSpec.post enc Try.prog Try.f3 false true false false) := by
  refine returnsInHanded_of_change (C := Try.checked) own started (by kernel_rfl) Try.func3
    (ChangeSpec.witness6 (enc := enc) (C := Try.checked) false ⟨#[], #[.slice none 0 0], []⟩ 8 (by kernel_rfl) (by kernel_rfl) (by kernel_rfl) (by kernel_rfl)) ?_
  intro W base args ds gs before hval0 hW hcnd _
  have hval : ∀ (j : Nat) t v, Try.f3.params[j]? = some t → args[j]? = some v → Value.okWide Try.prog W .any base t v := hval0
  have hW' := hW
  obtain ⟨p, q, hA0, hV, rfl, hfz, hnd⟩ := hW
  have hA : DataW.TrodAll enc Try.prog W 0 (fun _ => true) true Try.f3.params.toList args.toList ds p := hA0
  rw [Try.params3] at hA hval
  obtain ⟨v0, vs0, d0, ds0, p0, q0, hargs, rfl, rfl, h0, r0⟩ := trodAll_cons hA
  obtain ⟨rfl, rfl, rfl⟩ := trodAll_nil r0
  obtain rfl : args = #[v0] := by cases args; simp_all
  obtain ⟨rfl, rfl⟩ := trodVars_none hV
  obtain ⟨a0, n0, c0, rfl⟩ := okWide_slice Try.underlying22 (hval 0 22 v0 rfl rfl)
  have k0 := h0
  have lt0 : ∀ x ∈ p0, x.block < W.heap.size := by obtain ⟨m, hm⟩ := k0; exact DataW.trod_lt m _ _ _ hm
  obtain ⟨w0, x0, y0⟩ := code_of_trod Try.underlying22 Try.underlying5 (by kernel_rfl) h0
  clear hA0 hval0
  refine (fnSplitBefore_walk a0 n0 c0 W w0 x0 y0).mono fun e W' ⟨he, bel⟩ => ?_
  subst he
  exact ⟨_, rfl, _, _, _, [], _, [], hW', trodAll_mk1 (shut_bool Try.underlying4 _), (trodAll_cons_mk (Below.trod laidOut (by kernel_rfl) (of_decide_eq_true (by kernel_rfl)) k0 bel lt0) trodAll_mk0), rfl, bel.frame _, fun h => by cases h⟩
/-- FnSplitBefore: THE STATEMENT. -/
theorem fnSplitBefore_holds : Rows.FnSplitBeforeSaid :=
  OpenClaim.holds_of_wide 3 Try.f3 rfl rfl rfl rfl rfl rfl rfl ⟨rfl, rfl, rfl, rfl, rfl⟩ rfl rfl rfl rfl rfl (by kernel_rfl) Try.func3 (by kernel_rfl)
    (of_decide_eq_true (by kernel_rfl)) (by unfold Func.isWrapper; first | (rw [if_pos (by decide +kernel)]; kernel_rfl) | (rw [if_neg (by decide +kernel)]; exact ⟨rfl, rfl⟩))
    (fun os started H enc _ => fnSplitBefore_lifted os started H enc)
set_option maxRecDepth 100000 in
set_option maxHeartbeats 1000000 in
theorem fnSplitLines_walk (a : Option Addr) (n c : Nat) (w : World) (hc : Code w a n) (hnc : n ≤ c) (hm : c ≤ maxLen) :
    Calls Try.prog 4 #[.slice a n c] w fun e w' => e = .returned (.bool true) ∧ Below w.heap.size w w' := by
  have hm' := hm
  unfold maxLen at hm'
  by_cases hn : 1048576 < n
  · have hd : decide ((1048576 : Int) < n) = true := by simp; omega
    go_enter Try.func4, Try.ntmps4
    go_wp2
    go_ret
    exact ⟨rfl, Below.refl _ _⟩
  have hd : decide ((1048576 : Int) < n) = false := by simp; omega
  go_enter Try.func4, Try.ntmps4
  go_wp2_with fail
  refine (drawSplitParts_any a n c w hc hnc hm).mono ?_
  rintro e w1 ⟨v1, xs, s, rfl, ho1, hl1, hx1, hs1, hb1⟩
  obtain ⟨a1, c1, rfl, hr1, _, hac1, _⟩ := ho1.readc
  have HR1 := Lib.hid hr1
  have HI := Lib.hid (fun u h => splitParts_any a1 xs.length c1 xs s u h (by omega) (by omega))
  have HS := Lib.hid (fun u h => splitPartsS_any a1 xs.length c1 xs s u h (by omega) (by omega))
  clear hr1 ho1 hx1
  cases ho : splitP xs s.data.toList with
  | none =>
    rw [ho] at HI HS
    clear ho
    go_wp2_with fail
    refine (HI.out _ HR1.out).mono ?_
    intro e w2 h2
    obtain ⟨a2, c2, rfl, hb2⟩ := h2.none'
    go_wp2_with fail
    refine (HS.out _ (HR1.out.below hb2)).mono ?_
    intro e w3 h3
    obtain ⟨a3, c3, rfl, hb3⟩ := h3.none'
    clear h2 h3
    go_wp2
    go_ret
    exact ⟨rfl, nx (nx hb1 hb2) hb3⟩
  | some ps =>
    obtain ⟨g1, g2, g3, g4⟩ := split_facts ho hl1
    have HLN : Hid (∀ p ∈ ps, ∀ l ∈ p, l ≠ begL s.data.toList ∧ l ≠ endL s.data.toList) := fun p hp l hl => splitP_line ho hp hl
    have HG4 := Lib.hid g4
    have HG2 := Lib.hid g2
    have HB := Lib.hid (beg_str s)
    have HB2 : Hid ((⟨#[45, 45]⟩ : ByteArray) ++ s ++ ⟨#[45, 45]⟩ = str (endL s.data.toList)) := by show _ = _; rw [HB.out]; exact end_str s
    have z2 : (⟨#[45, 45]⟩ : ByteArray).size = 2 := rfl
    rw [ho] at HI HS
    clear ho g4 hac1 g2
    go_wp2_with fail
    refine (HI.out _ HR1.out).mono ?_
    intro e w2 h2
    obtain ⟨a2, c2, us2, rfl, _, hd2, hb2⟩ := h2.some'
    clear h2
    go_wp2_with fail
    refine (HS.out _ (HR1.out.below hb2)).mono ?_
    intro e w3 h3
    obtain ⟨a3, c3, us3, rfl, _, hd3, hb3⟩ := h3.some'
    clear h3
    have HB3 := Lib.hid (nx (nx hb1 hb2) hb3)
    have HD2 := Lib.hid (hd2.below hb3)
    have e1 : ((ps.length : Int) != (ps.length : Int)) = false := by simp
    clear hd2 hd3 hb1 hb2 hb3
    go_wp2_with fail
    go_loopw [9, 10] (fun q i wr => ∃ (k m : Nat), k ≤ ps.length ∧ i = .int .i64 k ∧ q = .int .i64 (m : Int) ∧ m + k = ps.length + 1 + sumP (ps.take k) ∧ Below w3.heap.size w3 wr) (fun _ i _ => ps.length - (intOf i).toNat)
    case atStart => exact ⟨0, ps.length + 1, Nat.zero_le _, rfl, by go_num, by simp [sumP_nil], Below.refl _ _⟩
    case round =>
      obtain ⟨k, m, hk, rfl, rfl, hmk, hb⟩ := hrel
      have HMK := Lib.hid hmk
      have hm30 : m ≤ 30 := by have := sumP_take ps k; have := HG2.out; omega
      clear hmk
      by_cases hlt : k < ps.length
      · obtain ⟨b2, o2, q2, d2, rfl, x2, r2, l2⟩ := HD2.out.cellW hb hlt
        have hpk := HG4.out _ (List.getElem_mem hlt)
        have HLK := Lib.hid (HLN.out _ (List.getElem_mem hlt))
        have HSU := Lib.hid (sumP_succ ps k hlt)
        have HCL : Hid (∀ u, Below w3.heap.size w3 u → u.cell? ⟨b2, o2 + k, none⟩ = some (.slice q2 ps[k].length d2) ∧ RdL u q2 ps[k].length ps[k]) := fun u hu => by
          obtain ⟨b', o', q', d', e, h1, h2, _⟩ := HD2.out.cellW hu hlt
          injection e with e; injection e with e1 e2 _
          subst e1 e2
          obtain ⟨b'', o'', q'', d'', e', h1', h2', _⟩ := HD2.out.cellT (wr := w3) (Below.refl _ _) hlt
          injection e' with e'; injection e' with e1' e2' _
          subst e1' e2'
          have c1 := h1' ⟨u, hu⟩
          have c2 := h1' ⟨wr, hb⟩
          rw [x2] at c2
          injection c2 with c2; injection c2 with c21 _ c23
          subst c21 c23
          exact ⟨c1, h2' ⟨u, hu⟩⟩
        generalize ps[k] = p at *
        clear r2
        have hkn : (k : Int) < (ps.length : Int) := by omega
        have hk0 : (0 : Int) ≤ (k : Int) := by omega
        go_wp2_with fail
        obtain ⟨wo, rfl⟩ : ∃ wo : World, wo = wr := ⟨_, rfl⟩
        go_loopw [11] (fun i wr => ∃ j : Nat, j ≤ p.length ∧ i = .int .i64 j ∧ Below w3.heap.size w3 wr) (fun i _ => p.length - (intOf i).toNat)
        case atStart => exact ⟨0, Nat.zero_le _, rfl, hb⟩
        case round =>
          obtain ⟨j, hj, rfl, hbj⟩ := hrel
          obtain ⟨y2, s2⟩ := HCL.out _ hbj
          by_cases hjl : j < p.length
          · obtain ⟨b4, o4, rfl, hbl4, hc4⟩ := s2.2.resolve_left (by omega)
            have y3 := hc4 j hjl
            have e2 : ((str p[j]).toList == ((⟨#[45, 45]⟩ : ByteArray) ++ s).toList) = false := by rw [HB.out]; exact sb_f rfl (HLK.out _ (List.getElem_mem hjl)).1
            have e3 : ((str p[j]).toList == ((⟨#[45, 45]⟩ : ByteArray) ++ s ++ ⟨#[45, 45]⟩).toList) = false := by rw [HB2.out]; exact sb_f rfl (HLK.out _ (List.getElem_mem hjl)).2
            clear hc4 s2
            generalize str p[j] = X at *
            go_wp2
            go_roundw
            case rel => exact ⟨j + 1, by omega, by go_num, hbj⟩
            case measure => simp [intOf]; omega
          · clear s2
            go_wp2
            go_roundw
            case rel => exact ⟨k + 1, m + p.length, by omega, by go_num, by go_num, by have := HMK.out; have := HSU.out; omega, hbj⟩
            case measure => simp [intOf]; omega
      · have hle : (m : Int) ≤ (xs.length : Int) := by
          have h1 := HMK.out
          have h2 : ps.take k = ps := List.take_of_length_le (by omega)
          rw [h2] at h1
          have := HG2.out
          omega
        go_wp2
        go_ret
        exact ⟨rfl, nx HB3.out hb⟩
set_option maxRecDepth 100000 in
theorem fnSplitLines_lifted (os : Os) (started : os.Started) (H : Type) (enc : TypeId × Value → H) :
    ReturnsInHanded {} Try.checked os 4 .any (Rows.fnSplitLinesSpec.pre6 enc Try.prog Try.f4 Rows.fnSplitLinesRow.domain false) (Rows.fnSplitLinesSpec.post enc Try.prog Try.f4 false true false false) := by
  refine returnsInHanded_of_change (C := Try.checked) own started (by kernel_rfl) Try.func4
    (ChangeSpec.witness6 (enc := enc) (C := Try.checked) false ⟨#[], #[.slice none 0 0], []⟩ 8 (by kernel_rfl) (by kernel_rfl) (by kernel_rfl) (by kernel_rfl)) ?_
  intro W base args ds gs before hval0 hW hcnd _
  have hval : ∀ (j : Nat) t v, Try.f4.params[j]? = some t → args[j]? = some v → Value.okWide Try.prog W .any base t v := hval0
  have hW' := hW
  obtain ⟨p, q, hA0, hV, rfl, hfz, hnd⟩ := hW
  have hA : DataW.TrodAll enc Try.prog W 0 (fun _ => true) true Try.f4.params.toList args.toList ds p := hA0
  rw [Try.params4] at hA hval
  obtain ⟨v0, vs0, d0, ds0, p0, q0, hargs, rfl, rfl, h0, r0⟩ := trodAll_cons hA
  obtain ⟨rfl, rfl, rfl⟩ := trodAll_nil r0
  obtain rfl : args = #[v0] := by cases args; simp_all
  obtain ⟨rfl, rfl⟩ := trodVars_none hV
  obtain ⟨a0, n0, c0, rfl⟩ := okWide_slice Try.underlying22 (hval 0 22 v0 rfl rfl)
  have k0 := h0
  have lt0 : ∀ x ∈ p0, x.block < W.heap.size := by obtain ⟨m, hm⟩ := k0; exact DataW.trod_lt m _ _ _ hm
  obtain ⟨w0, x0, y0⟩ := code_of_trod Try.underlying22 Try.underlying5 (by kernel_rfl) h0
  clear hA0 hval0
  refine (fnSplitLines_walk a0 n0 c0 W w0 x0 y0).mono fun e W' ⟨he, bel⟩ => ?_
  subst he
  exact ⟨_, rfl, _, _, _, [], _, [], hW', trodAll_mk1 (shut_bool Try.underlying4 _), (trodAll_cons_mk (Below.trod laidOut (by kernel_rfl) (of_decide_eq_true (by kernel_rfl)) k0 bel lt0) trodAll_mk0), rfl, bel.frame _, fun h => by cases h⟩
/-- FnSplitLines: THE STATEMENT. -/
theorem fnSplitLines_holds : Rows.FnSplitLinesSaid :=
  OpenClaim.holds_of_wide 4 Try.f4 rfl rfl rfl rfl rfl rfl rfl ⟨rfl, rfl, rfl, rfl, rfl⟩ rfl rfl rfl rfl rfl (by kernel_rfl) Try.func4 (by kernel_rfl)
    (of_decide_eq_true (by kernel_rfl)) (by unfold Func.isWrapper; first | (rw [if_pos (by decide +kernel)]; kernel_rfl) | (rw [if_neg (by decide +kernel)]; exact ⟨rfl, rfl⟩))
    (fun os started H enc _ => fnSplitLines_lifted os started H enc)
theorem joins_head (ps : List (List (List UInt8))) (b : List UInt8) (hn : ps ≠ []) : (joinsP ps b)[0]? = some (begL b) := by
  match ps, hn with
  | p :: ps, _ => rfl
theorem joins_last (ps : List (List (List UInt8))) (b : List UInt8) : (joinsP ps b)[sumP ps]? = some (endL b) := by
  rw [joinsP_eq, List.getElem?_append_right (by have := partsL_len b ps; unfold partsL at this; omega)]
  have := partsL_len b ps
  unfold partsL at this
  rw [this]; simp
set_option maxRecDepth 100000 in
set_option maxHeartbeats 1000000 in
theorem fnJoinLines_walk (a : Option Addr) (n c : Nat) (w : World) (hc : Code w a n) (hnc : n ≤ c) (hm : c ≤ maxLen) :
    Calls Try.prog 5 #[.slice a n c] w fun e w' => e = .returned (.bool true) ∧ Below w.heap.size w w' := by
  have hm' := hm
  unfold maxLen at hm'
  by_cases hn : 1048576 < n
  · have hd : decide ((1048576 : Int) < n) = true := by simp; omega
    go_enter Try.func5, Try.ntmps5
    go_wp2
    go_ret
    exact ⟨rfl, Below.refl _ _⟩
  have hd : decide ((1048576 : Int) < n) = false := by simp; omega
  go_enter Try.func5, Try.ntmps5
  go_wp2_with fail
  refine (drawJoinParts_any a n c w hc hnc hm).mono ?_
  rintro e w1 ⟨v1, us1, ps, s, rfl, ho1, hl1, hx1, hs1, hb1⟩
  obtain ⟨a1, c1, rfl, hr1, _, _, _⟩ := ho1.read
  have HR1 := Lib.hid hr1
  have HI := Lib.hid (fun u h => joinParts_any a1 ps.length c1 ps s u h (by omega) (by omega) (by omega))
  have HS := Lib.hid (fun u h => joinPartsS_any a1 ps.length c1 ps s u h (by omega) (by omega) (by omega))
  clear hr1 ho1
  cases ho : joinP ps s.data.toList with
  | none =>
    rw [ho] at HI HS
    clear ho
    have HM0 : Hid (∀ u a1 c1 a2 c2, RdL u a1 0 [] → RdL u a2 0 [] → Calls Try.prog 9 #[.slice a1 0 c1, .slice a2 0 c2] u fun e w' => e = .returned (.bool true) ∧ Below u.heap.size u w') := fun u a1 c1 a2 c2 h1 h2 => mwTexts_any a1 a2 0 c1 0 c2 [] [] u h1 h2 (by unfold maxLen; omega) (by unfold maxLen; omega)
    go_wp2_with fail
    refine (HI.out _ HR1.out).mono ?_
    intro e w2 h2
    obtain ⟨a2, c2, rfl, hd2, hb2⟩ := h2.none'
    go_wp2_with fail
    refine (HS.out _ (HR1.out.below hb2)).mono ?_
    intro e w3 h3
    obtain ⟨a3, c3, rfl, hd3, hb3⟩ := h3.none'
    have HD2 := Lib.hid (hd2.below hb3)
    have HD3 := Lib.hid hd3
    clear h2 h3 hd2 hd3
    go_wp2_with fail
    refine (HM0.out _ _ _ _ _ HD2.out HD3.out).mono ?_
    rintro e w4 ⟨rfl, hb4⟩
    go_wp2_with fail
    refine (HM0.out _ _ _ _ _ (HD2.out.below hb4) (HD3.out.below hb4)).mono ?_
    rintro e w5 ⟨rfl, hb5⟩
    go_wp2
    go_ret
    exact ⟨rfl, nx (nx (nx (nx hb1 hb2) hb3) hb4) hb5⟩
  | some ls =>
    obtain ⟨_, hpn, _, hls⟩ := joinP_some ho
    have hjl := joinsP_sum ps s.data.toList
    have hh := joins_head ps s.data.toList hpn
    have hla := joins_last ps s.data.toList
    rw [← hls] at hjl hh hla
    rw [ho] at HI HS
    have hll : ls.length ≤ 10 := by omega
    have HJL := Lib.hid hjl
    have HH := Lib.hid hh
    have HLA := Lib.hid hla
    have HB := Lib.hid (beg_str s)
    have HB2 : Hid ((⟨#[45, 45]⟩ : ByteArray) ++ s ++ ⟨#[45, 45]⟩ = str (endL s.data.toList)) := by show _ = _; rw [HB.out]; exact end_str s
    have z2 : (⟨#[45, 45]⟩ : ByteArray).size = 2 := rfl
    have HG4 : Hid (∀ p ∈ ps, p.length ≤ 10) := fun p hp => by have := sumP_mem hp; omega
    have HX1 := Lib.hid hx1
    clear ho hls hjl hh hla hpn hx1
    have HML : Hid (∀ u a1 c1 a2 c2, RdL u a1 ls.length ls → RdL u a2 ls.length ls → Calls Try.prog 9 #[.slice a1 ls.length c1, .slice a2 ls.length c2] u fun e w' => e = .returned (.bool true) ∧ Below u.heap.size u w') := fun u a1 c1 a2 c2 h1 h2 => by
      have := mwTexts_any a1 a2 _ c1 _ c2 ls ls u h1 h2 (by unfold maxLen; omega) (by unfold maxLen; omega)
      rw [decide_eq_true (rfl : ls = ls)] at this; exact this
    go_wp2_with fail
    refine (HI.out _ HR1.out).mono ?_
    intro e w2 h2
    obtain ⟨a2, c2, rfl, _, hd2, hb2⟩ := h2.some'
    clear h2
    go_wp2_with fail
    refine (HS.out _ (HR1.out.below hb2)).mono ?_
    intro e w3 h3
    obtain ⟨a3, c3, rfl, _, hd3, hb3⟩ := h3.some'
    have HD2 := Lib.hid (hd2.below hb3)
    have HD3 := Lib.hid hd3
    have HB3 := Lib.hid (nx (nx hb1 hb2) hb3)
    have HR3 := Lib.hid ((HR1.out.below hb2).below hb3)
    clear h3 hd2 hd3 hb1 hb2 hb3
    go_wp2_with fail
    refine (HML.out _ _ _ _ _ HD2.out HD3.out).mono ?_
    rintro e w4 ⟨rfl, hb4⟩
    have HB4 := Lib.hid (nx HB3.out hb4)
    have HR4 := Lib.hid (HR3.out.below hb4)
    have HD4 := Lib.hid (HD2.out.below hb4)
    clear hb4
    go_wp2_with fail
    go_loop [9, 10] (fun q i => ∃ (k m : Nat), k ≤ ps.length ∧ i = .int .i64 k ∧ q = .int .i64 (m : Int) ∧ m + k = ps.length + 1 + sumP (ps.take k)) (fun _ i => ps.length - (intOf i).toNat)
    case atStart => exact ⟨0, ps.length + 1, Nat.zero_le _, rfl, by go_num, by simp [sumP_nil]⟩
    case round =>
      obtain ⟨k, m, hk, rfl, rfl, hmk⟩ := hrel
      have HMK := Lib.hid hmk
      have hm30 : m ≤ 30 := by have := sumP_take ps k; have := HX1.out; omega
      clear hmk
      by_cases hlt : k < ps.length
      · obtain ⟨b2, o2, q2, d2, rfl, x2, r2, l2⟩ := HR4.out.cellW (Below.refl _ _) hlt
        have hpk := HG4.out _ (List.getElem_mem hlt)
        have HSU := Lib.hid (sumP_succ ps k hlt)
        generalize ps[k] = p at *
        clear r2
        go_wp2
        go_round
        case rel => exact ⟨k + 1, m + p.length, by omega, by go_num, by go_num, by have := HMK.out; have := HSU.out; omega⟩
        case measure => simp [intOf]; omega
      · have hml : m = ls.length := by
          have h1 := HMK.out
          have h2 : ps.take k = ps := List.take_of_length_le (by omega)
          rw [h2] at h1
          have := HJL.out
          omega
        subst hml
        have hl1 : 1 ≤ ls.length := by have := HJL.out; omega
        obtain ⟨b4, o4, rfl, hbl4, hc4⟩ := HD4.out.2.resolve_left (by omega)
        have y0 := hc4 0 (by omega)
        have y1 := hc4 (ls.length - 1) (by omega)
        have h0 : ls[0]'(by omega) = begL s.data.toList := by have := HH.out; rw [List.getElem?_eq_getElem (by omega)] at this; injection this
        have h1 : ls[ls.length - 1]'(by omega) = endL s.data.toList := by
          have := HLA.out
          rw [show sumP ps = ls.length - 1 by have := HJL.out; omega, List.getElem?_eq_getElem (by omega)] at this
          injection this
        rw [h0] at y0
        rw [h1] at y1
        rw [← HB.out, Nat.add_zero] at y0
        rw [← HB2.out] at y1
        clear hc4 h0 h1 HH HLA
        have e1 : (ls.length : Int) - 1 = ((ls.length - 1 : Nat) : Int) := by omega
        obtain ⟨J, hJ⟩ : ∃ J, J = ls.length - 1 := ⟨_, rfl⟩
        rw [← hJ] at y1 e1
        have q1 : IntKind.i64.wrap ((ls.length : Int) - 1) = (J : Int) := by rw [e1]; exact IntWalk.i64_in _ (by omega)
        have q2 : (0 : Int) ≤ (J : Int) := by omega
        have q3 : (J : Int) < (ls.length : Int) := by omega
        have q4 : (0 : Int) < (ls.length : Int) := by omega
        have eq0 : ((ls.length : Int) == (ls.length : Int)) = true := by simp
        have ea : ((((⟨#[45, 45]⟩ : ByteArray) ++ s).toList) == (((⟨#[45, 45]⟩ : ByteArray) ++ s).toList)) = true := by simp
        have eb : ((((⟨#[45, 45]⟩ : ByteArray) ++ s ++ ⟨#[45, 45]⟩).toList) == (((⟨#[45, 45]⟩ : ByteArray) ++ s ++ ⟨#[45, 45]⟩).toList)) = true := by simp
        clear hJ
        go_wp2
        go_ret
        exact ⟨rfl, HB4.out⟩
set_option maxRecDepth 100000 in
theorem fnJoinLines_lifted (os : Os) (started : os.Started) (H : Type) (enc : TypeId × Value → H) :
    ReturnsInHanded {} Try.checked os 5 .any (Rows.fnJoinLinesSpec.pre6 enc Try.prog Try.f5 Rows.fnJoinLinesRow.domain false) (Rows.fnJoinLinesSpec.post enc Try.prog Try.f5 false true false false) := by
  refine returnsInHanded_of_change (C := Try.checked) own started (by kernel_rfl) Try.func5
    (ChangeSpec.witness6 (enc := enc) (C := Try.checked) false ⟨#[], #[.slice none 0 0], []⟩ 8 (by kernel_rfl) (by kernel_rfl) (by kernel_rfl) (by kernel_rfl)) ?_
  intro W base args ds gs before hval0 hW hcnd _
  have hval : ∀ (j : Nat) t v, Try.f5.params[j]? = some t → args[j]? = some v → Value.okWide Try.prog W .any base t v := hval0
  have hW' := hW
  obtain ⟨p, q, hA0, hV, rfl, hfz, hnd⟩ := hW
  have hA : DataW.TrodAll enc Try.prog W 0 (fun _ => true) true Try.f5.params.toList args.toList ds p := hA0
  rw [Try.params5] at hA hval
  obtain ⟨v0, vs0, d0, ds0, p0, q0, hargs, rfl, rfl, h0, r0⟩ := trodAll_cons hA
  obtain ⟨rfl, rfl, rfl⟩ := trodAll_nil r0
  obtain rfl : args = #[v0] := by cases args; simp_all
  obtain ⟨rfl, rfl⟩ := trodVars_none hV
  obtain ⟨a0, n0, c0, rfl⟩ := okWide_slice Try.underlying22 (hval 0 22 v0 rfl rfl)
  have k0 := h0
  have lt0 : ∀ x ∈ p0, x.block < W.heap.size := by obtain ⟨m, hm⟩ := k0; exact DataW.trod_lt m _ _ _ hm
  obtain ⟨w0, x0, y0⟩ := code_of_trod Try.underlying22 Try.underlying5 (by kernel_rfl) h0
  clear hA0 hval0
  refine (fnJoinLines_walk a0 n0 c0 W w0 x0 y0).mono fun e W' ⟨he, bel⟩ => ?_
  subst he
  exact ⟨_, rfl, _, _, _, [], _, [], hW', trodAll_mk1 (shut_bool Try.underlying4 _), (trodAll_cons_mk (Below.trod laidOut (by kernel_rfl) (of_decide_eq_true (by kernel_rfl)) k0 bel lt0) trodAll_mk0), rfl, bel.frame _, fun h => by cases h⟩
/-- FnJoinLines: THE STATEMENT. -/
theorem fnJoinLines_holds : Rows.FnJoinLinesSaid :=
  OpenClaim.holds_of_wide 5 Try.f5 rfl rfl rfl rfl rfl rfl rfl ⟨rfl, rfl, rfl, rfl, rfl⟩ rfl rfl rfl rfl rfl (by kernel_rfl) Try.func5 (by kernel_rfl)
    (of_decide_eq_true (by kernel_rfl)) (by unfold Func.isWrapper; first | (rw [if_pos (by decide +kernel)]; kernel_rfl) | (rw [if_neg (by decide +kernel)]; exact ⟨rfl, rfl⟩))
    (fun os started H enc _ => fnJoinLines_lifted os started H enc)
end Go.Proofs.Ytdoclfbfhlgejab
