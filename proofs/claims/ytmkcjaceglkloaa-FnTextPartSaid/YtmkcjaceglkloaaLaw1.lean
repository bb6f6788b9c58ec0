/-
  The laws of chapter 1: each law's walk, from what the program's functions and the verifier's functions return; and its statement. For every input of the law: it returns true, and the input reads as it did. Conditions: none but the statement's own.
-/
import Derived.Test.YtmkcjaceglkloaaLaw0
import Derived.Lib.Strings
import Derived.Lib.SmallJoins
namespace Go.Proofs.Ytmkcjaceglkloaa
open Go.ChangeShapes Go.WideShapes Go.ChangeAt Go.RowKit
open Go.ChangeMaps (open_string shut_string)

set_option maxHeartbeats 1000000 in
theorem fnLowerText_walk (a : Option Addr) (n c : Nat) (w : World) (hc : Code w a n) (hnc : n ≤ c) (hm : c ≤ maxLen) :
    Calls Try.prog 3 #[.slice a n c] w fun e w' => e = .returned (.bool true) ∧ Below w.heap.size w w' := by
  have hm' := hm
  unfold maxLen at hm'
  by_cases hn : 1048576 < n
  · have hd : decide ((1048576 : Int) < n) = true := by simp; omega
    go_enter Try.func3, Try.ntmps3
    go_wp2
    go_ret
    exact ⟨rfl, Below.refl _ _⟩
  · have hd : decide ((1048576 : Int) < n) = false := by simp; omega
    go_enter Try.func3, Try.ntmps3
    go_wp2_with fail
    refine (drawLowerText_any a n c w hc hnc hm).mono ?_
    rintro e w1 ⟨s, rfl, hs, hb1⟩
    go_wp2_with fail
    refine (lowerText_any s _ (by omega)).mono ?_
    rintro e w2 ⟨rfl, hb2⟩
    go_wp2_with fail
    refine (lowerTextS_any s _ (by omega)).mono ?_
    rintro e w3 ⟨rfl, hb3⟩
    have hz := lowS_size s
    go_wp2_with fail
    refine (lowerText_any (lowS s) _ (by omega)).mono ?_
    rintro e w4 ⟨rfl, hb4⟩
    rw [lowS_lowS]
    go_wp2_with fail
    refine (sameText_any s (lowS s) _ (by omega) (by omega)).mono ?_
    rintro e w5 ⟨rfl, hb5⟩
    rw [lowS_lowS, dec_self]
    go_wp2_with fail
    refine (sameText_any (lowS s) s _ (by omega) (by omega)).mono ?_
    rintro e w6 ⟨rfl, hb6⟩
    rw [lowS_lowS, dec_self]
    go_wp2
    go_ret
    exact ⟨rfl, nx (nx (nx (nx (nx hb1 hb2) hb3) hb4) hb5) hb6⟩
set_option maxRecDepth 100000 in
theorem fnLowerText_lifted (os : Os) (started : os.Started) (H : Type) (enc : TypeId × Value → H) :
    ReturnsInHanded {} Try.checked os 3 .any (Rows.fnLowerTextSpec.pre6 enc Try.prog Try.f3 Rows.fnLowerTextRow.domain false) (Rows.fnLowerTextSpec.post enc Try.prog Try.f3 false true false false) := by
  refine returnsInHanded_of_change (C := Try.checked) own started (by kernel_rfl) Try.func3
    (ChangeSpec.witness6 (enc := enc) (C := Try.checked) false ⟨#[], #[.slice none 0 0], []⟩ 8 (by kernel_rfl) (by kernel_rfl) (by kernel_rfl) (by kernel_rfl)) ?_
  intro W base args ds gs before hval0 hW hcnd _
  have hval : ∀ (j : Nat) t v, Try.f3.params[j]? = some t → args[j]? = some v → Value.okWide Try.prog W .any base t v := hval0
  have hW' := hW
  obtain ⟨p, q, hA0, hV, rfl, hfz, hnd⟩ := hW
  have hA : DataW.TrodAll enc Try.prog W 0 (fun _ => true) true Try.f3.params.toList args.toList ds p := hA0
  rw [Try.params3] at hA hval
  obtain ⟨v0, vs0, d0, ds0, p0, q0, hargs, rfl, rfl, h0, r0⟩ := trodAll_cons hA
  obtain ⟨rfl, rfl, rfl⟩ := trodAll_nil r0
  obtain rfl : args = #[v0] := by cases args; simp_all
  obtain ⟨rfl, rfl⟩ := trodVars_none hV
  obtain ⟨a0, n0, c0, rfl⟩ := okWide_slice Try.underlying22 (hval 0 22 v0 rfl rfl)
  have k0 := h0
  have lt0 : ∀ x ∈ p0, x.block < W.heap.size := by obtain ⟨m, hm⟩ := k0; exact DataW.trod_lt m _ _ _ hm
  obtain ⟨w0, x0, y0⟩ := code_of_trod Try.underlying22 Try.underlying5 (by kernel_rfl) h0
  clear hA0 hval0
  refine (fnLowerText_walk a0 n0 c0 W w0 x0 y0).mono fun e W' ⟨he, bel⟩ => ?_
  subst he
  exact ⟨_, rfl, _, _, _, [], _, [], hW', trodAll_mk1 (shut_bool Try.underlying4 _), (trodAll_cons_mk (Below.trod laidOut (by kernel_rfl) (of_decide_eq_true (by kernel_rfl)) k0 bel lt0) trodAll_mk0), rfl, bel.frame _, fun h => by cases h⟩
/-- FnLowerText: THE STATEMENT. -/
theorem fnLowerText_holds : Rows.FnLowerTextSaid :=
  OpenClaim.holds_of_wide 3 Try.f3 rfl rfl rfl rfl rfl rfl rfl ⟨rfl, rfl, rfl, rfl, rfl⟩ rfl rfl rfl rfl rfl (by kernel_rfl) Try.func3 (by kernel_rfl)
    (of_decide_eq_true (by kernel_rfl)) (by unfold Func.isWrapper; first | (rw [if_pos (by decide +kernel)]; kernel_rfl) | (rw [if_neg (by decide +kernel)]; exact ⟨rfl, rfl⟩))
    (fun os started H enc _ => fnLowerText_lifted os started H enc)
set_option maxHeartbeats 1000000 in
theorem fnSameText_walk (a : Option Addr) (n c : Nat) (w : World) (hc : Code w a n) (hnc : n ≤ c) (hm : c ≤ maxLen) :
    Calls Try.prog 4 #[.slice a n c] w fun e w' => e = .returned (.bool true) ∧ Below w.heap.size w w' := by
  have hm' := hm
  unfold maxLen at hm'
  by_cases hn : 1048576 < n
  · have hd : decide ((1048576 : Int) < n) = true := by simp; omega
    go_enter Try.func4, Try.ntmps4
    go_wp2
    go_ret
    exact ⟨rfl, Below.refl _ _⟩
  · have hd : decide ((1048576 : Int) < n) = false := by simp; omega
    go_enter Try.func4, Try.ntmps4
    go_wp2_with fail
    refine (drawSameText_any a n c w hc hnc hm).mono ?_
    rintro e w1 ⟨s, t, rfl, hs, ht, hb1⟩
    go_wp2_with fail
    refine (sameText_any s t _ (by omega) (by omega)).mono ?_
    rintro e w2 ⟨rfl, hb2⟩
    go_wp2_with fail
    refine (sameTextS_any s t _ (by omega) (by omega)).mono ?_
    rintro e w3 ⟨rfl, hb3⟩
    go_wp2_with fail
    refine (sameText_any t s _ (by omega) (by omega)).mono ?_
    rintro e w4 ⟨rfl, hb4⟩
    rw [show decide (lowS t = lowS s) = decide (lowS s = lowS t) from decide_eq_decide.2 eq_comm]
    have hlen : lowS s = lowS t → s.size = t.size := fun h => by rw [← lowS_size s, ← lowS_size t, h]
    have hdd : ((lowS s).toList == (lowS t).toList) = decide (lowS s = lowS t) := beq_dec _ _
    by_cases hst : lowS s = lowS t
    · have hsz := hlen hst
      have e1 : decide (lowS s = lowS t) = true := by simpa using hst
      have e2 : ((s.size : Int) == t.size) = true := beq_iff_eq.2 (by omega)
      rw [e1] at hdd ⊢
      have HD := Lib.hid hdd
      clear hst hsz hlen e1 hdd
      go_wp2_with fail
      refine (lowerText_any s _ (by omega)).mono ?_
      rintro e w5 ⟨rfl, hb5⟩
      go_wp2_with fail
      refine (lowerText_any t _ (by omega)).mono ?_
      rintro e w6 ⟨rfl, hb6⟩
      have hdd := HD.out
      go_wp2_with fail
      refine (sameText_any s s _ (by omega) (by omega)).mono ?_
      rintro e w7 ⟨rfl, hb7⟩
      rw [dec_self]
      go_wp2
      go_ret
      exact ⟨rfl, nx (nx (nx (nx (nx (nx hb1 hb2) hb3) hb4) hb5) hb6) hb7⟩
    · have e1 : decide (lowS s = lowS t) = false := by simpa using hst
      rw [e1] at hdd ⊢
      have HD := Lib.hid hdd
      clear hst hlen e1 hdd
      go_wp2_with fail
      refine (lowerText_any s _ (by omega)).mono ?_
      rintro e w5 ⟨rfl, hb5⟩
      go_wp2_with fail
      refine (lowerText_any t _ (by omega)).mono ?_
      rintro e w6 ⟨rfl, hb6⟩
      have hdd := HD.out
      go_wp2_with fail
      refine (sameText_any s s _ (by omega) (by omega)).mono ?_
      rintro e w7 ⟨rfl, hb7⟩
      rw [dec_self]
      go_wp2
      go_ret
      exact ⟨rfl, nx (nx (nx (nx (nx (nx hb1 hb2) hb3) hb4) hb5) hb6) hb7⟩
set_option maxRecDepth 100000 in
theorem fnSameText_lifted (os : Os) (started : os.Started) (H : Type) (enc : TypeId × Value → H) :
    ReturnsInHanded {} Try.checked os 4 .any (Rows.fnSameTextSpec.pre6 enc Try.prog Try.f4 Rows.fnSameTextRow.domain false) (Rows.fnSameTextSpec.post enc Try.prog Try.f4 false true false false) := by
  refine returnsInHanded_of_change (C := Try.checked) own started (by kernel_rfl) Try.func4
    (ChangeSpec.witness6 (enc := enc) (C := Try.checked) false ⟨#[], #[.slice none 0 0], []⟩ 8 (by kernel_rfl) (by kernel_rfl) (by kernel_rfl) (by kernel_rfl)) ?_
  intro W base args ds gs before hval0 hW hcnd _
  have hval : ∀ (j : Nat) t v, Try.f4.params[j]? = some t → args[j]? = some v → Value.okWide Try.prog W .any base t v := hval0
  have hW' := hW
  obtain ⟨p, q, hA0, hV, rfl, hfz, hnd⟩ := hW
  have hA : DataW.TrodAll enc Try.prog W 0 (fun _ => true) true Try.f4.params.toList args.toList ds p := hA0
  rw [Try.params4] at hA hval
  obtain ⟨v0, vs0, d0, ds0, p0, q0, hargs, rfl, rfl, h0, r0⟩ := trodAll_cons hA
  obtain ⟨rfl, rfl, rfl⟩ := trodAll_nil r0
  obtain rfl : args = #[v0] := by cases args; simp_all
  obtain ⟨rfl, rfl⟩ := trodVars_none hV
  obtain ⟨a0, n0, c0, rfl⟩ := okWide_slice Try.underlying22 (hval 0 22 v0 rfl rfl)
  have k0 := h0
  have lt0 : ∀ x ∈ p0, x.block < W.heap.size := by obtain ⟨m, hm⟩ := k0; exact DataW.trod_lt m _ _ _ hm
  obtain ⟨w0, x0, y0⟩ := code_of_trod Try.underlying22 Try.underlying5 (by kernel_rfl) h0
  clear hA0 hval0
  refine (fnSameText_walk a0 n0 c0 W w0 x0 y0).mono fun e W' ⟨he, bel⟩ => ?_
  subst he
  exact ⟨_, rfl, _, _, _, [], _, [], hW', trodAll_mk1 (shut_bool Try.underlying4 _), (trodAll_cons_mk (Below.trod laidOut (by kernel_rfl) (of_decide_eq_true (by kernel_rfl)) k0 bel lt0) trodAll_mk0), rfl, bel.frame _, fun h => by cases h⟩
/-- FnSameText: THE STATEMENT. -/
theorem fnSameText_holds : Rows.FnSameTextSaid :=
  OpenClaim.holds_of_wide 4 Try.f4 rfl rfl rfl rfl rfl rfl rfl ⟨rfl, rfl, rfl, rfl, rfl⟩ rfl rfl rfl rfl rfl (by kernel_rfl) Try.func4 (by kernel_rfl)
    (of_decide_eq_true (by kernel_rfl)) (by unfold Func.isWrapper; first | (rw [if_pos (by decide +kernel)]; kernel_rfl) | (rw [if_neg (by decide +kernel)]; exact ⟨rfl, rfl⟩))
    (fun os started H enc _ => fnSameText_lifted os started H enc)
theorem isText_take (l : List UInt8) (k : Nat) (h : isText l = true) : isText (l.take k) = true := by
  unfold isText at h ⊢
  simp only [Bool.and_eq_true, decide_eq_true_eq, List.all_eq_true] at h ⊢
  exact ⟨by have := List.length_take_le k l; have := List.length_take_le' k l; omega, fun x hx => h.2 x (List.mem_of_mem_take hx)⟩
theorem isText_drop (l : List UInt8) (k : Nat) (h : isText l = true) : isText (l.drop k) = true := by
  unfold isText at h ⊢
  simp only [Bool.and_eq_true, decide_eq_true_eq, List.all_eq_true] at h ⊢
  exact ⟨by simp; omega, fun x hx => h.2 x (List.mem_of_mem_drop hx)⟩
theorem isText_snoc (l : List UInt8) (c : UInt8) (h : okB c = false) : isText (l ++ [c]) = false := by
  unfold isText; rw [Bool.and_eq_false_iff]; right; rw [List.all_eq_false]; exact ⟨c, by simp, by simp [h]⟩
set_option maxHeartbeats 1000000 in
theorem fnTextPart_walk (a : Option Addr) (n c : Nat) (w : World) (hc : Code w a n) (hnc : n ≤ c) (hm : c ≤ maxLen) :
    Calls Try.prog 5 #[.slice a n c] w fun e w' => e = .returned (.bool true) ∧ Below w.heap.size w w' := by
  have hm' := hm
  unfold maxLen at hm'
  by_cases hn : 1048576 < n
  · have hd : decide ((1048576 : Int) < n) = true := by simp; omega
    go_enter Try.func5, Try.ntmps5
    go_wp2
    go_ret
    exact ⟨rfl, Below.refl _ _⟩
  · have hd : decide ((1048576 : Int) < n) = false := by simp; omega
    go_enter Try.func5, Try.ntmps5
    go_wp2_with fail
    refine (drawTextValid_any a n c w hc hnc hm).mono ?_
    rintro e w1 ⟨s, rfl, hs, hb⟩
    go_wp2_with fail
    refine (textValid_any s _ (by unfold maxLen; omega)).mono ?_
    rintro e w2 ⟨rfl, rfl⟩
    go_wp2_with fail
    refine (textValidS_any s _ (by unfold maxLen; omega)).mono ?_
    rintro e w3 ⟨rfl, rfl⟩
    cases ht : isText s.data.toList
    · go_wp2_with fail
      refine (textValidS_any s _ (by unfold maxLen; omega)).mono ?_
      rintro e w3 ⟨rfl, rfl⟩
      rw [ht]
      go_wp2
      go_ret
      exact ⟨rfl, hb⟩
    · have HT := Lib.hid ht
      clear ht
      go_wp2_with fail
      refine (textValid_any _ _ (by unfold maxLen; simp [ByteArray.size_extract]; omega)).mono ?_
      rintro e w4 ⟨rfl, rfl⟩
      rw [Lib.extract_data, isText_take _ _ (isText_drop _ _ HT.out)]
      go_wp2_with fail
      refine (textValid_any _ _ (by unfold maxLen; simp [ByteArray.size_extract]; omega)).mono ?_
      rintro e w4 ⟨rfl, rfl⟩
      rw [Lib.extract_data, isText_take _ _ (isText_drop _ _ HT.out)]
      go_wp2_with fail
      refine (textValid_any _ _ (by have e0 : (ByteArray.mk #[0]).size = 1 := rfl; rw [ByteArray.size_append, e0]; unfold maxLen; omega)).mono ?_
      rintro e w4 ⟨rfl, rfl⟩
      rw [Joins.data_append, isText_snoc _ 0 (by decide)]
      go_wp2
      go_ret
      exact ⟨rfl, hb⟩
set_option maxRecDepth 100000 in
theorem fnTextPart_lifted (os : Os) (started : os.Started) (H : Type) (enc : TypeId × Value → H) :
    ReturnsInHanded {} Try.checked os 5 .any (Rows.fnTextPartSpec.pre6 enc Try.prog Try.f5 Rows.fnTextPartRow.domain false) (Rows.fnTextPartSpec.post enc Try.prog Try.f5 false true false false) := by
  refine returnsInHanded_of_change (C := Try.checked) own started (by kernel_rfl) Try.func5
    (ChangeSpec.witness6 (enc := enc) (C := Try.checked) false ⟨#[], #[.slice none 0 0], []⟩ 8 (by kernel_rfl) (by kernel_rfl) (by kernel_rfl) (by kernel_rfl)) ?_
  intro W base args ds gs before hval0 hW hcnd _
  have hval : ∀ (j : Nat) t v, Try.f5.params[j]? = some t → args[j]? = some v → Value.okWide Try.prog W .any base t v := hval0
  have hW' := hW
  obtain ⟨p, q, hA0, hV, rfl, hfz, hnd⟩ := hW
  have hA : DataW.TrodAll enc Try.prog W 0 (fun _ => true) true Try.f5.params.toList args.toList ds p := hA0
  rw [Try.params5] at hA hval
  obtain ⟨v0, vs0, d0, ds0, p0, q0, hargs, rfl, rfl, h0, r0⟩ := trodAll_cons hA
  obtain ⟨rfl, rfl, rfl⟩ := trodAll_nil r0
  obtain rfl : args = #[v0] := by cases args; simp_all
  obtain ⟨rfl, rfl⟩ := trodVars_none hV
  obtain ⟨a0, n0, c0, rfl⟩ := okWide_slice Try.underlying22 (hval 0 22 v0 rfl rfl)
  have k0 := h0
  have lt0 : ∀ x ∈ p0, x.block < W.heap.size := by obtain ⟨m, hm⟩ := k0; exact DataW.trod_lt m _ _ _ hm
  obtain ⟨w0, x0, y0⟩ := code_of_trod Try.underlying22 Try.underlying5 (by kernel_rfl) h0
  clear hA0 hval0
  refine (fnTextPart_walk a0 n0 c0 W w0 x0 y0).mono fun e W' ⟨he, bel⟩ => ?_
  subst he
  exact ⟨_, rfl, _, _, _, [], _, [], hW', trodAll_mk1 (shut_bool Try.underlying4 _), (trodAll_cons_mk (Below.trod laidOut (by kernel_rfl) (of_decide_eq_true (by kernel_rfl)) k0 bel lt0) trodAll_mk0), rfl, bel.frame _, fun h => by cases h⟩
/-- FnTextPart: THE STATEMENT. -/
theorem fnTextPart_holds : Rows.FnTextPartSaid :=
  OpenClaim.holds_of_wide 5 Try.f5 rfl rfl rfl rfl rfl rfl rfl ⟨rfl, rfl, rfl, rfl, rfl⟩ rfl rfl rfl rfl rfl (by kernel_rfl) Try.func5 (by kernel_rfl)
    (of_decide_eq_true (by kernel_rfl)) (by unfold Func.isWrapper; first | (rw [if_pos (by decide +kernel)]; kernel_rfl) | (rw [if_neg (by decide +kernel)]; exact ⟨rfl, rfl⟩))
    (fun os started H enc _ => fnTextPart_lifted os started H enc)
end Go.Proofs.Ytmkcjaceglkloaa
