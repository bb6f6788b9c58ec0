/-
  Laws of chapter 3 on names, with loops: each law's walk. For every input of the law: it returns true, and the input reads as it did. Conditions: none but the statement's own.
-/
import Derived.Test.YtfjpajeipihlaabLaw0
import Derived.Test.YtfjpajeipihlaabDrawF2
import Derived.Test.YtfjpajeipihlaabDropF
namespace Go.Proofs.Ytfjpajeipihlaab
open Go.ChangeShapes Go.WideShapes Go.ChangeAt Go.RowKit
open Go.ChangeMaps (open_string shut_string)

def lenV : Value → Nat
  | .slice _ n _ => n
  | _ => 0
set_option maxRecDepth 100000 in
set_option maxHeartbeats 1000000 in
theorem fnGetFirst_walk (a : Option Addr) (n c : Nat) (w : World) (hc : Code w a n) (hnc : n ≤ c) (hm : c ≤ maxLen) :
    Calls Try.prog 4 #[.slice a n c] w fun e w' => e = .returned (.bool true) ∧ Below w.heap.size w w' := by
  have hm' := hm
  unfold maxLen at hm'
  by_cases hn : 1048576 < n
  · have hd : decide ((1048576 : Int) < n) = true := by simp; omega
    go_enter Try.func4, Try.ntmps4
    go_wp2
    go_ret
    exact ⟨rfl, Below.refl _ _⟩
  · have hd : decide ((1048576 : Int) < n) = false := by simp; omega
    go_enter Try.func4, Try.ntmps4
    go_wp2_with fail
    refine (drawGetField_any a n c w hc hnc hm).mono ?_
    rintro e w1 ⟨v, xs, s, rfl, ho, hl4, hsm, hs10, hb1⟩
    obtain ⟨a1, c1, rfl, hd1, _, _⟩ := ho.read fldC_len
    have HSM : Hid (∀ x ∈ xs, SmallF 1073741824 x) := fun x hx => (hsm x hx).up (by omega)
    have HD := Lib.hid hd1
    have hn1 : xs.length ≤ 1073741824 := by omega
    clear hd1 ho hsm
    go_wp2_with fail
    refine (getField_any a1 _ c1 xs s _ HD.out hn1 HSM.out (by omega)).mono ?_
    rintro e w2 ⟨rfl, hb2⟩
    generalize hG : getR xs s.data.toList = gr at *
    generalize hO : (getF xs s.data.toList).isSome = ok at *
    have HG : Hid (getR xs s.data.toList = gr ∧ (getF xs s.data.toList).isSome = ok) := ⟨hG, hO⟩
    clear hG hO
    go_wp2_with fail
    refine (getFieldS_any a1 _ c1 xs s _ (HD.out.below hb2) hn1 HSM.out (by omega)).mono ?_
    rintro e w3 ⟨rfl, hb3⟩
    rw [HG.out.1, HG.out.2]
    have e1 : ((str gr).toList != (str gr).toList) = false := by simp
    have hb13 := nx hb2 hb3
    have HD3 := Lib.hid (HD.out.below hb13)
    have HB3 := Lib.hid (nx hb1 hb13)
    clear hb2 hb3 hb13 hb1
    cases ok
    all_goals
      go_wp2_with fail
      go_loopw [9] (fun i wr => ∃ (k : Nat), k ≤ xs.length ∧ i = .int .i64 k ∧ Below w3.heap.size w3 wr ∧ ∀ j, j < k → (hj : j < xs.length) → sameN xs[j].name s.data.toList = false) (fun i _ => xs.length - (intOf i).toNat)
      case atStart => exact ⟨0, Nat.zero_le _, rfl, Below.refl _ _, fun j h => by omega⟩
      case round =>
        obtain ⟨k, hk, rfl, hb, hall⟩ := hrel
        have HA := Lib.hid hall
        clear hall
        by_cases hlt : k < xs.length
        · obtain ⟨b, off, rfl, hbl, hcell⟩ := HD3.out.2.resolve_left (by omega)
          obtain ⟨q0, q1⟩ := RdR.fld hcell hlt
          have HQ1 := Lib.hid q1
          rw [← below_at hb hbl] at q0
          have hz := (HSM.out _ (List.getElem_mem hlt)).1
          rw [← str_size] at hz
          have HSN : Hid (decide (lowS (str xs[k].name) = lowS s) = sameN xs[k].name s.data.toList) := by show _ = _; rw [sameS, str_list]
          have HHIT : Hid (sameN xs[k].name s.data.toList = true → getF xs s.data.toList = some xs[k].val) := fun h => getF_at hlt h (fun j hj hl => HA.out j hj hl)
          clear hcell q1
          generalize hq : sameN xs[k].name s.data.toList = q at *
          have HQ := Lib.hid hq
          clear hq
          generalize str xs[k].name = s0 at *
          cases q
          · go_wp2_with fail
            refine (sameText_any s0 s _ hz (by omega)).mono ?_
            rintro e w4 ⟨rfl, hb4⟩
            rw [HSN.out]
            go_wp2
            go_roundw
            case rel => exact ⟨k + 1, by omega, by go_num, nx hb hb4, fun j hj hjx => by
              by_cases e : j = k
              · subst e; exact HQ.out
              · exact HA.out j (by omega) hjx⟩
            case measure => simp [intOf]; omega
          · have hgf := HHIT.out rfl
            have hok := HG.out.2
            have hgr := HG.out.1
            rw [hgf] at hok
            unfold getR at hgr
            rw [hgf] at hgr
            have hgr : xs[k].val = gr := hgr
            first
              | (cases hok; done)
              | (have HQ1' := Lib.hid HQ1.out
                 have HGR := Lib.hid hgr
                 have e2 : ((str gr).toList == (str gr).toList) = true := by simp
                 clear hgf hok hgr
                 go_wp2_with fail
                 refine (sameText_any s0 s _ hz (by omega)).mono ?_
                 rintro e w4 ⟨rfl, hb4⟩
                 rw [HSN.out]
                 have q1 := (below_at (nx hb hb4) hbl).trans HQ1'.out
                 rw [HGR.out] at q1
                 go_wp2
                 go_ret
                 exact ⟨rfl, nx HB3.out (nx hb hb4)⟩)
        · have hgf := getF_none (fs := xs) (n := s.data.toList) (fun j hj => HA.out j (by omega) hj)
          have hok := HG.out.2
          have hgr := HG.out.1
          rw [hgf] at hok
          unfold getR at hgr
          rw [hgf] at hgr
          have hgr : ([] : List UInt8) = gr := hgr
          first
            | (cases hok; done)
            | (have HGR : Hid (gr = []) := hgr.symm
               clear hgf hok hgr
               rw [HGR.out]
               have e4 : (str []).toList.isEmpty = true := by rw [ByteArray.toList_eq, str_list]; rfl
               go_wp2
               go_ret
               first
                 | exact ⟨rfl, nx HB3.out hb⟩
                 | exact ⟨ret_bool e4, nx HB3.out hb⟩)
set_option maxRecDepth 100000 in
theorem fnGetFirst_lifted (os : Os) (started : os.Started) (H : Type) (enc : TypeId × Value → H) :
    ReturnsInHanded {} Try.checked os 4 .any (Rows.fnGetFirstSpec.pre6 enc Try.prog Try.f4 Rows.fnGetFirstRow.domain false) (Rows.fnGetFirstSpec.post enc Try.prog Try.f4 false true false false) := by
  refine returnsInHanded_of_change (C := Try.checked) own started (by kernel_rfl) Try.func4
    (ChangeSpec.witness6 (enc := enc) (C := Try.checked) false ⟨#[], #[.slice none 0 0], []⟩ 8 (by kernel_rfl) (by kernel_rfl) (by kernel_rfl) (by kernel_rfl)) ?_
  intro W base args ds gs before hval0 hW hcnd _
  have hval : ∀ (j : Nat) t v, Try.f4.params[j]? = some t → args[j]? = some v → Value.okWide Try.prog W .any base t v := hval0
  have hW' := hW
  obtain ⟨p, q, hA0, hV, rfl, hfz, hnd⟩ := hW
  have hA : DataW.TrodAll enc Try.prog W 0 (fun _ => true) true Try.f4.params.toList args.toList ds p := hA0
  rw [Try.params4] at hA hval
  obtain ⟨v0, vs0, d0, ds0, p0, q0, hargs, rfl, rfl, h0, r0⟩ := trodAll_cons hA
  obtain ⟨rfl, rfl, rfl⟩ := trodAll_nil r0
  obtain rfl : args = #[v0] := by cases args; simp_all
  obtain ⟨rfl, rfl⟩ := trodVars_none hV
  obtain ⟨a0, n0, c0, rfl⟩ := okWide_slice Try.underlying22 (hval 0 22 v0 rfl rfl)
  have k0 := h0
  have lt0 : ∀ x ∈ p0, x.block < W.heap.size := by obtain ⟨m, hm⟩ := k0; exact DataW.trod_lt m _ _ _ hm
  obtain ⟨w0, x0, y0⟩ := code_of_trod Try.underlying22 Try.underlying5 (by kernel_rfl) h0
  clear hA0 hval0
  refine (fnGetFirst_walk a0 n0 c0 W w0 x0 y0).mono fun e W' ⟨he, bel⟩ => ?_
  subst he
  exact ⟨_, rfl, _, _, _, [], _, [], hW', trodAll_mk1 (shut_bool Try.underlying4 _), (trodAll_cons_mk (Below.trod laidOut (by kernel_rfl) (of_decide_eq_true (by kernel_rfl)) k0 bel lt0) trodAll_mk0), rfl, bel.frame _, fun h => by cases h⟩
/-- FnGetFirst: THE STATEMENT. -/
theorem fnGetFirst_holds : Rows.FnGetFirstSaid :=
  OpenClaim.holds_of_wide 4 Try.f4 rfl rfl rfl rfl rfl rfl rfl ⟨rfl, rfl, rfl, rfl, rfl⟩ rfl rfl rfl rfl rfl (by kernel_rfl) Try.func4 (by kernel_rfl)
    (of_decide_eq_true (by kernel_rfl)) (by unfold Func.isWrapper; first | (rw [if_pos (by decide +kernel)]; kernel_rfl) | (rw [if_neg (by decide +kernel)]; exact ⟨rfl, rfl⟩))
    (fun os started H enc _ => fnGetFirst_lifted os started H enc)
set_option maxRecDepth 100000 in
set_option maxHeartbeats 1000000 in
theorem fnCountNames_walk (a : Option Addr) (n c : Nat) (w : World) (hc : Code w a n) (hnc : n ≤ c) (hm : c ≤ maxLen) :
    Calls Try.prog 3 #[.slice a n c] w fun e w' => e = .returned (.bool true) ∧ Below w.heap.size w w' := by
  have hm' := hm
  unfold maxLen at hm'
  by_cases hn : 1048576 < n
  · have hd : decide ((1048576 : Int) < n) = true := by simp; omega
    go_enter Try.func3, Try.ntmps3
    go_wp2
    go_ret
    exact ⟨rfl, Below.refl _ _⟩
  · have hd : decide ((1048576 : Int) < n) = false := by simp; omega
    go_enter Try.func3, Try.ntmps3
    go_wp2_with fail
    refine (drawCountField_any a n c w hc hnc hm).mono ?_
    rintro e w1 ⟨v, xs, s, rfl, ho, hl4, hsm, hs10, hb1⟩
    obtain ⟨a1, c1, rfl, hd1, _, _⟩ := ho.read fldC_len
    have HSM : Hid (∀ x ∈ xs, SmallF 1073741824 x) := fun x hx => (hsm x hx).up (by omega)
    have HD := Lib.hid hd1
    have hn1 : xs.length ≤ 1073741824 := by omega
    clear hd1 ho hsm
    go_wp2_with fail
    refine (countField_any a1 _ c1 xs s _ HD.out hn1 HSM.out (by omega)).mono ?_
    rintro e w2 ⟨rfl, hb2⟩
    go_wp2_with fail
    refine (countFieldS_any a1 _ c1 xs s _ (HD.out.below hb2) hn1 HSM.out (by omega)).mono ?_
    rintro e w3 ⟨rfl, hb3⟩
    have e1 : (((countF xs s.data.toList : Nat) : Int) != ((countF xs s.data.toList : Nat) : Int)) = false := by simp
    generalize ((countF xs s.data.toList : Nat) : Int) = m at *
    have hb13 := nx hb2 hb3
    have HD3 := Lib.hid (HD.out.below hb13)
    have HB3 := Lib.hid (nx hb1 hb13)
    clear hb2 hb3 hb13 hb1
    go_wp2_with fail
    go_loopw [5, 6] (fun t r wr => ∃ (S : Nat) (ar : Option Addr) (cr : Nat) (ys : List Fld), t = .int .i64 (S : Int) ∧ r = .slice ar ys.length cr ∧ S + ys.length = xs.length ∧ (∀ x ∈ ys, SmallF 1073741824 x) ∧ RdF wr ar ys.length ys ∧ Below w3.heap.size w3 wr) (fun _ r _ => lenV r)
    case atStart => exact ⟨0, a1, c1, xs, rfl, rfl, by omega, HSM.out, HD3.out, Below.refl _ _⟩
    case round =>
      obtain ⟨S, ar, cr, ys, rfl, rfl, hS, hsy, hry, hb⟩ := hrel
      have HSY := Lib.hid hsy
      have HRY := Lib.hid hry
      have HS := Lib.hid hS
      have hyl : ys.length ≤ 1073741824 := by omega
      clear hsy hry
      by_cases h0 : 0 < ys.length
      · have hpos : (0 : Int) < (ys.length : Int) := by omega
        obtain ⟨b, off, rfl, hbl, hcell⟩ := HRY.out.2.resolve_left (by omega)
        obtain ⟨q0, _⟩ := RdR.fld hcell h0
        rw [Nat.zero_mul, Nat.add_zero] at q0
        have HQ0 := Lib.hid q0
        have hz := (HSY.out _ (List.getElem_mem h0)).1
        rw [← str_size] at hz
        have hlt : (dropF ys (str ys[0].name).data.toList).length < ys.length := by rw [str_list]; exact dropF_lt h0 (sameN_self _)
        have hct := dropF_count ys (str ys[0].name).data.toList
        generalize str ys[0].name = s0 at *
        have HSD : Hid (∀ x ∈ dropF ys s0.data.toList, SmallF 1073741824 x) := fun x hx => HSY.out x (dropF_mem hx).1
        have hS2 : S + countF ys s0.data.toList ≤ 1073741824 := by omega
        have HCT := Lib.hid hct
        clear hcell hS hct
        go_wp2_with fail
        refine (countField_any _ _ cr ys s0 _ HRY.out hyl HSY.out hz).mono ?_
        rintro e w4 ⟨rfl, hb4⟩
        have q0' := (below_at hb4 hbl).trans HQ0.out
        go_wp2_with fail
        refine (dropField_any _ _ cr ys s0 _ (HRY.out.below hb4) hyl HSY.out hz).mono ?_
        rintro e w5 ⟨v5, rfl, ho5, hb5⟩
        obtain ⟨a5, c5, rfl, hd5, _, _⟩ := ho5.read fldC_len
        have HD5 := Lib.hid hd5
        have hge : ¬ ((ys.length : Int) ≤ ((dropF ys s0.data.toList).length : Int)) := by omega
        clear ho5 hd5
        go_wp2
        go_roundw
        case rel => exact ⟨S + countF ys s0.data.toList, a5, c5, _, by go_num, rfl, by have := HCT.out; have := HS.out; omega, HSD.out, HD5.out, nx hb (nx hb4 hb5)⟩
        case measure => show lenV _ < lenV _; simpa [lenV] using hlt
      · have hpos : ¬ ((0 : Int) < (ys.length : Int)) := by omega
        have e2 : ((S : Int) == (xs.length : Int)) = true := by rw [beq_iff_eq]; omega
        clear hS
        go_wp2
        go_ret
        exact ⟨rfl, nx HB3.out hb⟩
set_option maxRecDepth 100000 in
theorem fnCountNames_lifted (os : Os) (started : os.Started) (H : Type) (enc : TypeId × Value → H) :
    ReturnsInHanded {} Try.checked os 3 .any (Rows.fnCountNamesSpec.pre6 enc Try.prog Try.f3 Rows.fnCountNamesRow.domain false) (Rows.fnCountNamesSpec.post enc Try.prog Try.f3 false true false false) := by
  refine returnsInHanded_of_change (C := Try.checked) own started (by kernel_rfl) Try.func3
    (ChangeSpec.witness6 (enc := enc) (C := Try.checked) false ⟨#[], #[.slice none 0 0], []⟩ 8 (by kernel_rfl) (by kernel_rfl) (by kernel_rfl) (by kernel_rfl)) ?_
  intro W base args ds gs before hval0 hW hcnd _
  have hval : ∀ (j : Nat) t v, Try.f3.params[j]? = some t → args[j]? = some v → Value.okWide Try.prog W .any base t v := hval0
  have hW' := hW
  obtain ⟨p, q, hA0, hV, rfl, hfz, hnd⟩ := hW
  have hA : DataW.TrodAll enc Try.prog W 0 (fun _ => true) true Try.f3.params.toList args.toList ds p := hA0
  rw [Try.params3] at hA hval
  obtain ⟨v0, vs0, d0, ds0, p0, q0, hargs, rfl, rfl, h0, r0⟩ := trodAll_cons hA
  obtain ⟨rfl, rfl, rfl⟩ := trodAll_nil r0
  obtain rfl : args = #[v0] := by cases args; simp_all
  obtain ⟨rfl, rfl⟩ := trodVars_none hV
  obtain ⟨a0, n0, c0, rfl⟩ := okWide_slice Try.underlying22 (hval 0 22 v0 rfl rfl)
  have k0 := h0
  have lt0 : ∀ x ∈ p0, x.block < W.heap.size := by obtain ⟨m, hm⟩ := k0; exact DataW.trod_lt m _ _ _ hm
  obtain ⟨w0, x0, y0⟩ := code_of_trod Try.underlying22 Try.underlying5 (by kernel_rfl) h0
  clear hA0 hval0
  refine (fnCountNames_walk a0 n0 c0 W w0 x0 y0).mono fun e W' ⟨he, bel⟩ => ?_
  subst he
  exact ⟨_, rfl, _, _, _, [], _, [], hW', trodAll_mk1 (shut_bool Try.underlying4 _), (trodAll_cons_mk (Below.trod laidOut (by kernel_rfl) (of_decide_eq_true (by kernel_rfl)) k0 bel lt0) trodAll_mk0), rfl, bel.frame _, fun h => by cases h⟩
/-- FnCountNames: THE STATEMENT. -/
theorem fnCountNames_holds : Rows.FnCountNamesSaid :=
  OpenClaim.holds_of_wide 3 Try.f3 rfl rfl rfl rfl rfl rfl rfl ⟨rfl, rfl, rfl, rfl, rfl⟩ rfl rfl rfl rfl rfl (by kernel_rfl) Try.func3 (by kernel_rfl)
    (of_decide_eq_true (by kernel_rfl)) (by unfold Func.isWrapper; first | (rw [if_pos (by decide +kernel)]; kernel_rfl) | (rw [if_neg (by decide +kernel)]; exact ⟨rfl, rfl⟩))
    (fun os started H enc _ => fnCountNames_lifted os started H enc)
end Go.Proofs.Ytfjpajeipihlaab
