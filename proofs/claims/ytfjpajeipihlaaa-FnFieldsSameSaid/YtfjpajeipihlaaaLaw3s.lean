/-
  FnFieldsSame: the law's walk. For every input of the law: it returns true, and the input reads as it did. Conditions: none but the statement's own.
-/
import Derived.Test.YtfjpajeipihlaaaLaw0
import Derived.Test.YtfjpajeipihlaaaRowF
import Derived.Test.YtfjpajeipihlaaaSameF
namespace Go.Proofs.Ytfjpajeipihlaaa
open Go.ChangeShapes Go.WideShapes Go.ChangeAt Go.RowKit
open Go.ChangeMaps (open_string shut_string)

set_option maxRecDepth 100000 in
set_option maxHeartbeats 1000000 in
theorem fnFieldsSame_walk (a : Option Addr) (n c : Nat) (w : World) (hc : Code w a n) (hnc : n ≤ c) (hm : c ≤ maxLen) :
    Calls Try.prog 8 #[.slice a n c] w fun e w' => e = .returned (.bool true) ∧ Below w.heap.size w w' := by
  have hm' := hm
  unfold maxLen at hm'
  by_cases hn : 1048576 < n
  · have hd : decide ((1048576 : Int) < n) = true := by simp; omega
    go_enter Try.func8, Try.ntmps8
    go_wp2
    go_ret
    exact ⟨rfl, Below.refl _ _⟩
  · have hd : decide ((1048576 : Int) < n) = false := by simp; omega
    go_enter Try.func8, Try.ntmps8
    go_wp2_with fail
    refine (drawFieldsSame_any a n c w hc hnc hm).mono ?_
    rintro e w1 ⟨v, u, xs, ys, rfl, ho, ho2, hl4, hl5, hb1⟩
    obtain ⟨a1, c1, rfl, hd1, hz1, _⟩ := ho.read fldC_len
    obtain ⟨a2, c2, rfl, hd2, hz2, _⟩ := ho2.read fldC_len
    have HD1 := Lib.hid hd1
    have HD2 := Lib.hid hd2
    have HC : Hid (decide (ys = xs) = decide (xs = ys)) := decide_eq_decide.2 eq_comm
    have HL : Hid (decide (xs = ys) = true → xs.length = ys.length) := fun h => by rw [of_decide_eq_true h]
    clear hd1 hd2 ho ho2
    go_wp2_with fail
    refine (fieldsSame_any a1 a2 _ c1 _ c2 _ _ _ HD1.out HD2.out hz1 hz2).mono ?_
    rintro e w2 ⟨rfl, hb2⟩
    go_wp2_with fail
    refine (fieldsSameS_any a1 a2 _ c1 _ c2 _ _ _ (HD1.out.below hb2) (HD2.out.below hb2) hz1 hz2).mono ?_
    rintro e w3 ⟨rfl, hb3⟩
    have hB3 := nx hb2 hb3
    generalize hq : decide (xs = ys) = q at *
    have HQ := Lib.hid hq
    clear hq
    cases q
    · go_wp2_with fail
      refine (fieldsSame_any a2 a1 _ c2 _ c1 _ _ _ (HD2.out.below hB3) (HD1.out.below hB3) hz2 hz1).mono ?_
      rintro e w4 ⟨rfl, hb4⟩
      rw [HC.out]
      have hB4 := nx hB3 hb4
      go_wp2_with fail
      refine (fieldsSame_any a1 a1 _ c1 _ c1 _ _ _ (HD1.out.below hB4) (HD1.out.below hB4) hz1 hz1).mono ?_
      rintro e w5 ⟨rfl, hb5⟩
      rw [decide_eq_true (rfl : xs = xs)]
      go_wp2
      go_ret
      exact ⟨rfl, nx hb1 (nx hB4 hb5)⟩
    · have hlen := HL.out rfl
      have e1 : ((xs.length : Int) == (ys.length : Int)) = true := by rw [beq_iff_eq]; omega
      have HLN := Lib.hid hlen
      clear hlen
      go_wp2_with fail
      refine (fieldsSame_any a2 a1 _ c2 _ c1 _ _ _ (HD2.out.below hB3) (HD1.out.below hB3) hz2 hz1).mono ?_
      rintro e w4 ⟨rfl, hb4⟩
      rw [HC.out]
      have hB4 := nx hB3 hb4
      go_wp2_with fail
      refine (fieldsSame_any a1 a1 _ c1 _ c1 _ _ _ (HD1.out.below hB4) (HD1.out.below hB4) hz1 hz1).mono ?_
      rintro e w5 ⟨rfl, hb5⟩
      rw [decide_eq_true (rfl : xs = xs)]
      go_wp2
      go_ret
      exact ⟨rfl, nx hb1 (nx hB4 hb5)⟩
set_option maxRecDepth 100000 in
theorem fnFieldsSame_lifted (os : Os) (started : os.Started) (H : Type) (enc : TypeId × Value → H) :
    ReturnsInHanded {} Try.checked os 8 .any (Rows.fnFieldsSameSpec.pre6 enc Try.prog Try.f8 Rows.fnFieldsSameRow.domain false) (Rows.fnFieldsSameSpec.post enc Try.prog Try.f8 false true false false) := by
  refine returnsInHanded_of_change (C := Try.checked) own started (by kernel_rfl) Try.func8
    (ChangeSpec.witness6 (enc := enc) (C := Try.checked) false ⟨#[], #[.slice none 0 0], []⟩ 8 (by kernel_rfl) (by kernel_rfl) (by kernel_rfl) (by kernel_rfl)) ?_
  intro W base args ds gs before hval0 hW hcnd _
  have hval : ∀ (j : Nat) t v, Try.f8.params[j]? = some t → args[j]? = some v → Value.okWide Try.prog W .any base t v := hval0
  have hW' := hW
  obtain ⟨p, q, hA0, hV, rfl, hfz, hnd⟩ := hW
  have hA : DataW.TrodAll enc Try.prog W 0 (fun _ => true) true Try.f8.params.toList args.toList ds p := hA0
  rw [Try.params8] at hA hval
  obtain ⟨v0, vs0, d0, ds0, p0, q0, hargs, rfl, rfl, h0, r0⟩ := trodAll_cons hA
  obtain ⟨rfl, rfl, rfl⟩ := trodAll_nil r0
  obtain rfl : args = #[v0] := by cases args; simp_all
  obtain ⟨rfl, rfl⟩ := trodVars_none hV
  obtain ⟨a0, n0, c0, rfl⟩ := okWide_slice Try.underlying22 (hval 0 22 v0 rfl rfl)
  have k0 := h0
  have lt0 : ∀ x ∈ p0, x.block < W.heap.size := by obtain ⟨m, hm⟩ := k0; exact DataW.trod_lt m _ _ _ hm
  obtain ⟨w0, x0, y0⟩ := code_of_trod Try.underlying22 Try.underlying5 (by kernel_rfl) h0
  clear hA0 hval0
  refine (fnFieldsSame_walk a0 n0 c0 W w0 x0 y0).mono fun e W' ⟨he, bel⟩ => ?_
  subst he
  exact ⟨_, rfl, _, _, _, [], _, [], hW', trodAll_mk1 (shut_bool Try.underlying4 _), (trodAll_cons_mk (Below.trod laidOut (by kernel_rfl) (of_decide_eq_true (by kernel_rfl)) k0 bel lt0) trodAll_mk0), rfl, bel.frame _, fun h => by cases h⟩
/-- FnFieldsSame: THE STATEMENT. -/
theorem fnFieldsSame_holds : Rows.FnFieldsSameSaid :=
  OpenClaim.holds_of_wide 8 Try.f8 rfl rfl rfl rfl rfl rfl rfl ⟨rfl, rfl, rfl, rfl, rfl⟩ rfl rfl rfl rfl rfl (by kernel_rfl) Try.func8 (by kernel_rfl)
    (of_decide_eq_true (by kernel_rfl)) (by unfold Func.isWrapper; first | (rw [if_pos (by decide +kernel)]; kernel_rfl) | (rw [if_neg (by decide +kernel)]; exact ⟨rfl, rfl⟩))
    (fun os started H enc _ => fnFieldsSame_lifted os started H enc)
end Go.Proofs.Ytfjpajeipihlaaa
