/-
  The words of a reply, plain: what both functions return, and the walks of their two laws. For every input of the law: it returns true, and the input reads as it did. Conditions: none but the statement's own.
-/
import Derived.Test.YtdddmclhafbfoabMalM
import Derived.Test.YtdddmclhafbfoabLaw0
namespace Go.Proofs.Ytdddmclhafbfoab
open Go.ChangeShapes Go.WideShapes Go.ChangeAt Go.RowKit
open Go.ChangeMaps (open_string shut_string)

set_option maxRecDepth 100000 in
set_option maxHeartbeats 1000000 in
theorem replyText_any (n : Int) (w : World) : Calls Try.prog 17 #[.int .i64 n] w fun e w' => e = .returned (.string (str (replyT n))) ∧ w = w' := by
  by_cases h221 : n = 221
  · subst h221
    go_enter Try.func17, Try.ntmps17
    go_wp2
    go_ret
    exact ⟨rfl, rfl⟩
  by_cases h250 : n = 250
  · subst h250
    go_enter Try.func17, Try.ntmps17
    go_wp2
    go_ret
    exact ⟨rfl, rfl⟩
  by_cases h354 : n = 354
  · subst h354
    go_enter Try.func17, Try.ntmps17
    go_wp2
    go_ret
    exact ⟨rfl, rfl⟩
  by_cases h452 : n = 452
  · subst h452
    go_enter Try.func17, Try.ntmps17
    go_wp2
    go_ret
    exact ⟨rfl, rfl⟩
  by_cases h500 : n = 500
  · subst h500
    go_enter Try.func17, Try.ntmps17
    go_wp2
    go_ret
    exact ⟨rfl, rfl⟩
  by_cases h501 : n = 501
  · subst h501
    go_enter Try.func17, Try.ntmps17
    go_wp2
    go_ret
    exact ⟨rfl, rfl⟩
  by_cases h503 : n = 503
  · subst h503
    go_enter Try.func17, Try.ntmps17
    go_wp2
    go_ret
    exact ⟨rfl, rfl⟩
  by_cases h552 : n = 552
  · subst h552
    go_enter Try.func17, Try.ntmps17
    go_wp2
    go_ret
    exact ⟨rfl, rfl⟩
  have hE : Hid (replyT n = []) := by show _ = _; unfold replyT; rw [if_neg h221, if_neg h250, if_neg h354, if_neg h452, if_neg h500, if_neg h501, if_neg h503, if_neg h552]
  have e221 : (n == 221) = false := by rw [beq_eq_false_iff_ne]; exact h221
  have e250 : (n == 250) = false := by rw [beq_eq_false_iff_ne]; exact h250
  have e354 : (n == 354) = false := by rw [beq_eq_false_iff_ne]; exact h354
  have e452 : (n == 452) = false := by rw [beq_eq_false_iff_ne]; exact h452
  have e500 : (n == 500) = false := by rw [beq_eq_false_iff_ne]; exact h500
  have e501 : (n == 501) = false := by rw [beq_eq_false_iff_ne]; exact h501
  have e503 : (n == 503) = false := by rw [beq_eq_false_iff_ne]; exact h503
  have e552 : (n == 552) = false := by rw [beq_eq_false_iff_ne]; exact h552
  clear h221 h250 h354 h452 h500 h501 h503 h552
  go_enter Try.func17, Try.ntmps17
  go_wp2
  go_ret
  exact ⟨ret_str (by rw [hE.out]; rfl), rfl⟩
set_option maxRecDepth 100000 in
set_option maxHeartbeats 1000000 in
theorem replyTextS_any (n : Int) (w : World) : Calls Try.prog 16 #[.int .i64 n] w fun e w' => e = .returned (.string (str (replyT n))) ∧ w = w' := by
  by_cases h221 : n = 221
  · subst h221
    go_enter Try.func16, Try.ntmps16
    go_wp2
    go_ret
    exact ⟨rfl, rfl⟩
  by_cases h250 : n = 250
  · subst h250
    go_enter Try.func16, Try.ntmps16
    go_wp2
    go_ret
    exact ⟨rfl, rfl⟩
  by_cases h354 : n = 354
  · subst h354
    go_enter Try.func16, Try.ntmps16
    go_wp2
    go_ret
    exact ⟨rfl, rfl⟩
  by_cases h452 : n = 452
  · subst h452
    go_enter Try.func16, Try.ntmps16
    go_wp2
    go_ret
    exact ⟨rfl, rfl⟩
  by_cases h500 : n = 500
  · subst h500
    go_enter Try.func16, Try.ntmps16
    go_wp2
    go_ret
    exact ⟨rfl, rfl⟩
  by_cases h501 : n = 501
  · subst h501
    go_enter Try.func16, Try.ntmps16
    go_wp2
    go_ret
    exact ⟨rfl, rfl⟩
  by_cases h503 : n = 503
  · subst h503
    go_enter Try.func16, Try.ntmps16
    go_wp2
    go_ret
    exact ⟨rfl, rfl⟩
  by_cases h552 : n = 552
  · subst h552
    go_enter Try.func16, Try.ntmps16
    go_wp2
    go_ret
    exact ⟨rfl, rfl⟩
  have hE : Hid (replyT n = []) := by show _ = _; unfold replyT; rw [if_neg h221, if_neg h250, if_neg h354, if_neg h452, if_neg h500, if_neg h501, if_neg h503, if_neg h552]
  have e221 : (n == 221) = false := by rw [beq_eq_false_iff_ne]; exact h221
  have e250 : (n == 250) = false := by rw [beq_eq_false_iff_ne]; exact h250
  have e354 : (n == 354) = false := by rw [beq_eq_false_iff_ne]; exact h354
  have e452 : (n == 452) = false := by rw [beq_eq_false_iff_ne]; exact h452
  have e500 : (n == 500) = false := by rw [beq_eq_false_iff_ne]; exact h500
  have e501 : (n == 501) = false := by rw [beq_eq_false_iff_ne]; exact h501
  have e503 : (n == 503) = false := by rw [beq_eq_false_iff_ne]; exact h503
  have e552 : (n == 552) = false := by rw [beq_eq_false_iff_ne]; exact h552
  clear h221 h250 h354 h452 h500 h501 h503 h552
  go_enter Try.func16, Try.ntmps16
  go_wp2
  go_ret
  exact ⟨ret_str (by rw [hE.out]; rfl), rfl⟩
set_option maxRecDepth 100000 in
set_option maxHeartbeats 1000000 in
theorem fnExactReplyText_walk (n : Int) (w : World) (_ : (Lit.int IntKind.i64 n).wf = true) :
    Calls Try.prog 5 #[.int .i64 n] w fun e w' => e = .returned (.bool true) ∧ Below w.heap.size w w' := by
  have H1 := Lib.hid (fun u => replyTextS_any n u)
  have H2 := Lib.hid (fun u => replyText_any n u)
  generalize str (replyT n) = x at *
  have d0 : (x.toList != x.toList) = false := by simp
  go_enter Try.func5, Try.ntmps5
  go_wp2_with fail
  refine (H1.out _).mono ?_
  rintro e w1 ⟨rfl, rfl⟩
  go_wp2_with fail
  refine (H2.out _).mono ?_
  rintro e w1 ⟨rfl, rfl⟩
  go_wp2
  go_ret
  exact ⟨rfl, Below.refl _ _⟩
set_option maxRecDepth 100000 in
theorem fnExactReplyText_lifted (os : Os) (started : os.Started) (H : Type) (enc : TypeId × Value → H) :
    ReturnsInHanded {} Try.checked os 5 .any (Rows.fnExactReplyTextSpec.pre6 enc Try.prog Try.f5 Rows.fnExactReplyTextRow.domain false) (Rows.fnExactReplyTextSpec.post enc Try.prog Try.f5 false true false false) := by
  refine returnsInHanded_of_change (C := Try.checked) own started (by kernel_rfl) Try.func5
    (ChangeSpec.witness6 (enc := enc) (C := Try.checked) false ⟨#[], #[.int .i64 0], []⟩ 8 (by kernel_rfl) (by kernel_rfl) (by kernel_rfl) (by kernel_rfl)) ?_
  intro W base args ds gs before hval0 hW hcnd _
  have hval : ∀ (j : Nat) t v, Try.f5.params[j]? = some t → args[j]? = some v → Value.okWide Try.prog W .any base t v := hval0
  have hW' := hW
  obtain ⟨p, q, hA0, hV, rfl, hfz, hnd⟩ := hW
  have hA : DataW.TrodAll enc Try.prog W 0 (fun _ => true) true Try.f5.params.toList args.toList ds p := hA0
  rw [Try.params5] at hA hval
  obtain ⟨v0, vs0, d0, ds0, p0, q0, hargs, rfl, rfl, h0, r0⟩ := trodAll_cons hA
  obtain ⟨rfl, rfl, rfl⟩ := trodAll_nil r0
  obtain rfl : args = #[v0] := by cases args; simp_all
  obtain ⟨rfl, rfl⟩ := trodVars_none hV
  obtain ⟨a0, rfl, rfl, rfl, w0⟩ := open_int Try.underlying3 (hval 0 3 v0 rfl rfl) h0
  clear hA0 hval0
  refine (fnExactReplyText_walk a0 W w0).mono fun e W' ⟨he, bel⟩ => ?_
  subst he
  exact ⟨_, rfl, _, _, _, [], _, [], hW', trodAll_mk1 (shut_bool Try.underlying4 _), (trodAll_cons_mk (shut_int Try.underlying3 w0) trodAll_mk0), rfl, bel.frame _, fun h => by cases h⟩
/-- FnExactReplyText: THE STATEMENT. -/
theorem fnExactReplyText_holds : Rows.FnExactReplyTextSaid :=
  OpenClaim.holds_of_wide 5 Try.f5 rfl rfl rfl rfl rfl rfl rfl ⟨rfl, rfl, rfl, rfl, rfl⟩ rfl rfl rfl rfl rfl (by kernel_rfl) Try.func5 (by kernel_rfl)
    (of_decide_eq_true (by kernel_rfl)) (by unfold Func.isWrapper; first | (rw [if_pos (by decide +kernel)]; kernel_rfl) | (rw [if_neg (by decide +kernel)]; exact ⟨rfl, rfl⟩))
    (fun os started H enc _ => fnExactReplyText_lifted os started H enc)
end Go.Proofs.Ytdddmclhafbfoab
