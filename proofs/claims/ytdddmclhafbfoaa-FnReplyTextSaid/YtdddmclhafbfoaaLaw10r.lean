/-
  The words of a reply, plain: what both functions return, and the walks of their two laws. For every input of the law: it returns true, and the input reads as it did. Conditions: none but the statement's own.
-/
import Derived.Test.YtdddmclhafbfoaaMalM
import Derived.Test.YtdddmclhafbfoaaLaw0
import Derived.Test.YtdddmclhafbfoaaDraw1
import Derived.BigQuiet
import Derived.Deep.QuietTactic
import Derived.Test.YtdddmclhafbfoaaDrawD
namespace Go.Proofs.Ytdddmclhafbfoaa
open Go.ChangeShapes Go.WideShapes Go.ChangeAt Go.RowKit
open Go.ChangeMaps (open_string shut_string)

set_option maxRecDepth 100000 in
set_option maxHeartbeats 1000000 in
theorem replyText_any (n : Int) (w : World) : Calls Try.prog 5 #[.int .i64 n] w fun e w' => e = .returned (.string (str (replyT n))) ∧ w = w' := by
  by_cases h221 : n = 221
  · subst h221
    go_enter Try.func5, Try.ntmps5
    go_wp2
    go_ret
    exact ⟨rfl, rfl⟩
  by_cases h250 : n = 250
  · subst h250
    go_enter Try.func5, Try.ntmps5
    go_wp2
    go_ret
    exact ⟨rfl, rfl⟩
  by_cases h354 : n = 354
  · subst h354
    go_enter Try.func5, Try.ntmps5
    go_wp2
    go_ret
    exact ⟨rfl, rfl⟩
  by_cases h452 : n = 452
  · subst h452
    go_enter Try.func5, Try.ntmps5
    go_wp2
    go_ret
    exact ⟨rfl, rfl⟩
  by_cases h500 : n = 500
  · subst h500
    go_enter Try.func5, Try.ntmps5
    go_wp2
    go_ret
    exact ⟨rfl, rfl⟩
  by_cases h501 : n = 501
  · subst h501
    go_enter Try.func5, Try.ntmps5
    go_wp2
    go_ret
    exact ⟨rfl, rfl⟩
  by_cases h503 : n = 503
  · subst h503
    go_enter Try.func5, Try.ntmps5
    go_wp2
    go_ret
    exact ⟨rfl, rfl⟩
  by_cases h552 : n = 552
  · subst h552
    go_enter Try.func5, Try.ntmps5
    go_wp2
    go_ret
    exact ⟨rfl, rfl⟩
  have hE : Hid (replyT n = []) := by show _ = _; unfold replyT; rw [if_neg h221, if_neg h250, if_neg h354, if_neg h452, if_neg h500, if_neg h501, if_neg h503, if_neg h552]
  have e221 : (n == 221) = false := by rw [beq_eq_false_iff_ne]; exact h221
  have e250 : (n == 250) = false := by rw [beq_eq_false_iff_ne]; exact h250
  have e354 : (n == 354) = false := by rw [beq_eq_false_iff_ne]; exact h354
  have e452 : (n == 452) = false := by rw [beq_eq_false_iff_ne]; exact h452
  have e500 : (n == 500) = false := by rw [beq_eq_false_iff_ne]; exact h500
  have e501 : (n == 501) = false := by rw [beq_eq_false_iff_ne]; exact h501
  have e503 : (n == 503) = false := by rw [beq_eq_false_iff_ne]; exact h503
  have e552 : (n == 552) = false := by rw [beq_eq_false_iff_ne]; exact h552
  clear h221 h250 h354 h452 h500 h501 h503 h552
  go_enter Try.func5, Try.ntmps5
  go_wp2
  go_ret
  exact ⟨ret_str (by rw [hE.out]; rfl), rfl⟩
set_option maxRecDepth 100000 in
set_option maxHeartbeats 1000000 in
theorem replyTextS_any (n : Int) (w : World) : Calls Try.prog 6 #[.int .i64 n] w fun e w' => e = .returned (.string (str (replyT n))) ∧ w = w' := by
  by_cases h221 : n = 221
  · subst h221
    go_enter Try.func6, Try.ntmps6
    go_wp2
    go_ret
    exact ⟨rfl, rfl⟩
  by_cases h250 : n = 250
  · subst h250
    go_enter Try.func6, Try.ntmps6
    go_wp2
    go_ret
    exact ⟨rfl, rfl⟩
  by_cases h354 : n = 354
  · subst h354
    go_enter Try.func6, Try.ntmps6
    go_wp2
    go_ret
    exact ⟨rfl, rfl⟩
  by_cases h452 : n = 452
  · subst h452
    go_enter Try.func6, Try.ntmps6
    go_wp2
    go_ret
    exact ⟨rfl, rfl⟩
  by_cases h500 : n = 500
  · subst h500
    go_enter Try.func6, Try.ntmps6
    go_wp2
    go_ret
    exact ⟨rfl, rfl⟩
  by_cases h501 : n = 501
  · subst h501
    go_enter Try.func6, Try.ntmps6
    go_wp2
    go_ret
    exact ⟨rfl, rfl⟩
  by_cases h503 : n = 503
  · subst h503
    go_enter Try.func6, Try.ntmps6
    go_wp2
    go_ret
    exact ⟨rfl, rfl⟩
  by_cases h552 : n = 552
  · subst h552
    go_enter Try.func6, Try.ntmps6
    go_wp2
    go_ret
    exact ⟨rfl, rfl⟩
  have hE : Hid (replyT n = []) := by show _ = _; unfold replyT; rw [if_neg h221, if_neg h250, if_neg h354, if_neg h452, if_neg h500, if_neg h501, if_neg h503, if_neg h552]
  have e221 : (n == 221) = false := by rw [beq_eq_false_iff_ne]; exact h221
  have e250 : (n == 250) = false := by rw [beq_eq_false_iff_ne]; exact h250
  have e354 : (n == 354) = false := by rw [beq_eq_false_iff_ne]; exact h354
  have e452 : (n == 452) = false := by rw [beq_eq_false_iff_ne]; exact h452
  have e500 : (n == 500) = false := by rw [beq_eq_false_iff_ne]; exact h500
  have e501 : (n == 501) = false := by rw [beq_eq_false_iff_ne]; exact h501
  have e503 : (n == 503) = false := by rw [beq_eq_false_iff_ne]; exact h503
  have e552 : (n == 552) = false := by rw [beq_eq_false_iff_ne]; exact h552
  clear h221 h250 h354 h452 h500 h501 h503 h552
  go_enter Try.func6, Try.ntmps6
  go_wp2
  go_ret
  exact ⟨ret_str (by rw [hE.out]; rfl), rfl⟩
set_option maxRecDepth 100000 in
set_option maxHeartbeats 2000000 in
theorem drawReplyText_any (a : Option Addr) (n c : Nat) (w : World) (hc : Code w a n) (hnc : n ≤ c) (hm : c ≤ maxLen) :
    Calls Try.prog 4 #[.slice a n c] w fun e w' => ∃ x : Int, e = .returned (.int .i64 x) ∧ x ∈ [250, 221, 354, 452, 500, 501, 503, 552, 0, 251, -1] ∧ Below w.heap.size w w' := by
  go_enter Try.func4, Try.ntmps4
  go_wp2_with fail
  refine (open_any a n c w hc hnc hm).mono ?_
  rintro e w1 ⟨R, rfl, hR, hr1, hb1⟩
  go_wp2_with fail
  refine (num_lit R 0 11 w1.heap.size [250, 221, 354, 452, 500, 501, 503, 552, 0, 251, -1] 3 w1 rfl hr1 (by omega) rfl (by omega) (by omega)).mono ?_
  rintro e w2 ⟨x, hx, rfl, hr2, ht2⟩
  go_wp2
  go_ret
  exact ⟨x, rfl, hx, after_open hb1 hR ht2⟩
set_option maxRecDepth 100000 in
set_option maxHeartbeats 4000000 in
theorem fnReplyText_walk (a : Option Addr) (n c : Nat) (w : World) (hc : Code w a n) (hnc : n ≤ c) (hm : c ≤ maxLen) :
    Calls Try.prog 3 #[.slice a n c] w fun e w' => e = .returned (.bool true) ∧ Below w.heap.size w w' := by
  have hm' := hm
  unfold maxLen at hm'
  by_cases hn : 1048576 < n
  · have hd : decide ((1048576 : Int) < n) = true := by simp; omega
    go_enter Try.func3, Try.ntmps3
    go_wp2
    go_ret
    exact ⟨rfl, Below.refl _ _⟩
  · have hd : decide ((1048576 : Int) < n) = false := by simp; omega
    go_enter Try.func3, Try.ntmps3
    go_wp2_with fail
    refine (drawReplyText_any a n c w hc hnc hm).mono ?_
    rintro e w1 ⟨x, rfl, hx, hb1⟩
    simp only [List.mem_cons, List.not_mem_nil, or_false] at hx
    rcases hx with rfl | rfl | rfl | rfl | rfl | rfl | rfl | rfl | rfl | rfl | rfl
    · have H1 : Hid (∀ u, Calls Try.prog 5 #[.int .i64 250] u fun e w' => e = .returned (.string ⟨#[50, 53, 48, 32, 111, 107]⟩) ∧ u = w') := fun u => replyText_any 250 u
      have H2 : Hid (∀ u, Calls Try.prog 6 #[.int .i64 250] u fun e w' => e = .returned (.string ⟨#[50, 53, 48, 32, 111, 107]⟩) ∧ u = w') := fun u => replyTextS_any 250 u
      go_wp2_with fail
      refine (H1.out _).mono ?_
      rintro e w2 ⟨rfl, rfl⟩
      go_wp2_with fail
      refine (H2.out _).mono ?_
      rintro e w3 ⟨rfl, rfl⟩
      first
        | (go_wp2
           go_quiet (fail)
           go_wp2
           go_ret
           exact ⟨rfl, below_drewN hb1 _⟩)
        | (go_wp2_with fail
           refine (H2.out _).mono ?_
           rintro e w4 ⟨rfl, rfl⟩
           go_wp2
           go_ret
           exact ⟨rfl, hb1⟩)
    · have H1 : Hid (∀ u, Calls Try.prog 5 #[.int .i64 221] u fun e w' => e = .returned (.string ⟨#[50, 50, 49, 32, 98, 121, 101]⟩) ∧ u = w') := fun u => replyText_any 221 u
      have H2 : Hid (∀ u, Calls Try.prog 6 #[.int .i64 221] u fun e w' => e = .returned (.string ⟨#[50, 50, 49, 32, 98, 121, 101]⟩) ∧ u = w') := fun u => replyTextS_any 221 u
      go_wp2_with fail
      refine (H1.out _).mono ?_
      rintro e w2 ⟨rfl, rfl⟩
      go_wp2_with fail
      refine (H2.out _).mono ?_
      rintro e w3 ⟨rfl, rfl⟩
      first
        | (go_wp2
           go_quiet (fail)
           go_wp2
           go_ret
           exact ⟨rfl, below_drewN hb1 _⟩)
        | (go_wp2_with fail
           refine (H2.out _).mono ?_
           rintro e w4 ⟨rfl, rfl⟩
           go_wp2
           go_ret
           exact ⟨rfl, hb1⟩)
    · have H1 : Hid (∀ u, Calls Try.prog 5 #[.int .i64 354] u fun e w' => e = .returned (.string ⟨#[51, 53, 52, 32, 103, 111, 32, 111, 110]⟩) ∧ u = w') := fun u => replyText_any 354 u
      have H2 : Hid (∀ u, Calls Try.prog 6 #[.int .i64 354] u fun e w' => e = .returned (.string ⟨#[51, 53, 52, 32, 103, 111, 32, 111, 110]⟩) ∧ u = w') := fun u => replyTextS_any 354 u
      go_wp2_with fail
      refine (H1.out _).mono ?_
      rintro e w2 ⟨rfl, rfl⟩
      go_wp2_with fail
      refine (H2.out _).mono ?_
      rintro e w3 ⟨rfl, rfl⟩
      first
        | (go_wp2
           go_quiet (fail)
           go_wp2
           go_ret
           exact ⟨rfl, below_drewN hb1 _⟩)
        | (go_wp2_with fail
           refine (H2.out _).mono ?_
           rintro e w4 ⟨rfl, rfl⟩
           go_wp2
           go_ret
           exact ⟨rfl, hb1⟩)
    · have H1 : Hid (∀ u, Calls Try.prog 5 #[.int .i64 452] u fun e w' => e = .returned (.string ⟨#[52, 53, 50, 32, 116, 111, 111, 32, 109, 97, 110, 121]⟩) ∧ u = w') := fun u => replyText_any 452 u
      have H2 : Hid (∀ u, Calls Try.prog 6 #[.int .i64 452] u fun e w' => e = .returned (.string ⟨#[52, 53, 50, 32, 116, 111, 111, 32, 109, 97, 110, 121]⟩) ∧ u = w') := fun u => replyTextS_any 452 u
      go_wp2_with fail
      refine (H1.out _).mono ?_
      rintro e w2 ⟨rfl, rfl⟩
      go_wp2_with fail
      refine (H2.out _).mono ?_
      rintro e w3 ⟨rfl, rfl⟩
      first
        | (go_wp2
           go_quiet (fail)
           go_wp2
           go_ret
           exact ⟨rfl, below_drewN hb1 _⟩)
        | (go_wp2_with fail
           refine (H2.out _).mono ?_
           rintro e w4 ⟨rfl, rfl⟩
           go_wp2
           go_ret
           exact ⟨rfl, hb1⟩)
    · have H1 : Hid (∀ u, Calls Try.prog 5 #[.int .i64 500] u fun e w' => e = .returned (.string ⟨#[53, 48, 48, 32, 119, 104, 97, 116]⟩) ∧ u = w') := fun u => replyText_any 500 u
      have H2 : Hid (∀ u, Calls Try.prog 6 #[.int .i64 500] u fun e w' => e = .returned (.string ⟨#[53, 48, 48, 32, 119, 104, 97, 116]⟩) ∧ u = w') := fun u => replyTextS_any 500 u
      go_wp2_with fail
      refine (H1.out _).mono ?_
      rintro e w2 ⟨rfl, rfl⟩
      go_wp2_with fail
      refine (H2.out _).mono ?_
      rintro e w3 ⟨rfl, rfl⟩
      first
        | (go_wp2
           go_quiet (fail)
           go_wp2
           go_ret
           exact ⟨rfl, below_drewN hb1 _⟩)
        | (go_wp2_with fail
           refine (H2.out _).mono ?_
           rintro e w4 ⟨rfl, rfl⟩
           go_wp2
           go_ret
           exact ⟨rfl, hb1⟩)
    · have H1 : Hid (∀ u, Calls Try.prog 5 #[.int .i64 501] u fun e w' => e = .returned (.string ⟨#[53, 48, 49, 32, 104, 111, 119]⟩) ∧ u = w') := fun u => replyText_any 501 u
      have H2 : Hid (∀ u, Calls Try.prog 6 #[.int .i64 501] u fun e w' => e = .returned (.string ⟨#[53, 48, 49, 32, 104, 111, 119]⟩) ∧ u = w') := fun u => replyTextS_any 501 u
      go_wp2_with fail
      refine (H1.out _).mono ?_
      rintro e w2 ⟨rfl, rfl⟩
      go_wp2_with fail
      refine (H2.out _).mono ?_
      rintro e w3 ⟨rfl, rfl⟩
      first
        | (go_wp2
           go_quiet (fail)
           go_wp2
           go_ret
           exact ⟨rfl, below_drewN hb1 _⟩)
        | (go_wp2_with fail
           refine (H2.out _).mono ?_
           rintro e w4 ⟨rfl, rfl⟩
           go_wp2
           go_ret
           exact ⟨rfl, hb1⟩)
    · have H1 : Hid (∀ u, Calls Try.prog 5 #[.int .i64 503] u fun e w' => e = .returned (.string ⟨#[53, 48, 51, 32, 110, 111, 116, 32, 110, 111, 119]⟩) ∧ u = w') := fun u => replyText_any 503 u
      have H2 : Hid (∀ u, Calls Try.prog 6 #[.int .i64 503] u fun e w' => e = .returned (.string ⟨#[53, 48, 51, 32, 110, 111, 116, 32, 110, 111, 119]⟩) ∧ u = w') := fun u => replyTextS_any 503 u
      go_wp2_with fail
      refine (H1.out _).mono ?_
      rintro e w2 ⟨rfl, rfl⟩
      go_wp2_with fail
      refine (H2.out _).mono ?_
      rintro e w3 ⟨rfl, rfl⟩
      first
        | (go_wp2
           go_quiet (fail)
           go_wp2
           go_ret
           exact ⟨rfl, below_drewN hb1 _⟩)
        | (go_wp2_with fail
           refine (H2.out _).mono ?_
           rintro e w4 ⟨rfl, rfl⟩
           go_wp2
           go_ret
           exact ⟨rfl, hb1⟩)
    · have H1 : Hid (∀ u, Calls Try.prog 5 #[.int .i64 552] u fun e w' => e = .returned (.string ⟨#[53, 53, 50, 32, 116, 111, 111, 32, 108, 111, 110, 103]⟩) ∧ u = w') := fun u => replyText_any 552 u
      have H2 : Hid (∀ u, Calls Try.prog 6 #[.int .i64 552] u fun e w' => e = .returned (.string ⟨#[53, 53, 50, 32, 116, 111, 111, 32, 108, 111, 110, 103]⟩) ∧ u = w') := fun u => replyTextS_any 552 u
      go_wp2_with fail
      refine (H1.out _).mono ?_
      rintro e w2 ⟨rfl, rfl⟩
      go_wp2_with fail
      refine (H2.out _).mono ?_
      rintro e w3 ⟨rfl, rfl⟩
      first
        | (go_wp2
           go_quiet (fail)
           go_wp2
           go_ret
           exact ⟨rfl, below_drewN hb1 _⟩)
        | (go_wp2_with fail
           refine (H2.out _).mono ?_
           rintro e w4 ⟨rfl, rfl⟩
           go_wp2
           go_ret
           exact ⟨rfl, hb1⟩)
    · have H1 : Hid (∀ u, Calls Try.prog 5 #[.int .i64 0] u fun e w' => e = .returned (.string ⟨#[]⟩) ∧ u = w') := fun u => replyText_any 0 u
      have H2 : Hid (∀ u, Calls Try.prog 6 #[.int .i64 0] u fun e w' => e = .returned (.string ⟨#[]⟩) ∧ u = w') := fun u => replyTextS_any 0 u
      go_wp2_with fail
      refine (H1.out _).mono ?_
      rintro e w2 ⟨rfl, rfl⟩
      go_wp2_with fail
      refine (H2.out _).mono ?_
      rintro e w3 ⟨rfl, rfl⟩
      first
        | (go_wp2
           go_quiet (fail)
           go_wp2
           go_ret
           exact ⟨rfl, below_drewN hb1 _⟩)
        | (go_wp2_with fail
           refine (H2.out _).mono ?_
           rintro e w4 ⟨rfl, rfl⟩
           go_wp2
           go_ret
           exact ⟨rfl, hb1⟩)
    · have H1 : Hid (∀ u, Calls Try.prog 5 #[.int .i64 251] u fun e w' => e = .returned (.string ⟨#[]⟩) ∧ u = w') := fun u => replyText_any 251 u
      have H2 : Hid (∀ u, Calls Try.prog 6 #[.int .i64 251] u fun e w' => e = .returned (.string ⟨#[]⟩) ∧ u = w') := fun u => replyTextS_any 251 u
      go_wp2_with fail
      refine (H1.out _).mono ?_
      rintro e w2 ⟨rfl, rfl⟩
      go_wp2_with fail
      refine (H2.out _).mono ?_
      rintro e w3 ⟨rfl, rfl⟩
      first
        | (go_wp2
           go_quiet (fail)
           go_wp2
           go_ret
           exact ⟨rfl, below_drewN hb1 _⟩)
        | (go_wp2_with fail
           refine (H2.out _).mono ?_
           rintro e w4 ⟨rfl, rfl⟩
           go_wp2
           go_ret
           exact ⟨rfl, hb1⟩)
    · have H1 : Hid (∀ u, Calls Try.prog 5 #[.int .i64 (-1)] u fun e w' => e = .returned (.string ⟨#[]⟩) ∧ u = w') := fun u => replyText_any (-1) u
      have H2 : Hid (∀ u, Calls Try.prog 6 #[.int .i64 (-1)] u fun e w' => e = .returned (.string ⟨#[]⟩) ∧ u = w') := fun u => replyTextS_any (-1) u
      go_wp2_with fail
      refine (H1.out _).mono ?_
      rintro e w2 ⟨rfl, rfl⟩
      go_wp2_with fail
      refine (H2.out _).mono ?_
      rintro e w3 ⟨rfl, rfl⟩
      first
        | (go_wp2
           go_quiet (fail)
           go_wp2
           go_ret
           exact ⟨rfl, below_drewN hb1 _⟩)
        | (go_wp2_with fail
           refine (H2.out _).mono ?_
           rintro e w4 ⟨rfl, rfl⟩
           go_wp2
           go_ret
           exact ⟨rfl, hb1⟩)
set_option maxRecDepth 100000 in
theorem fnReplyText_lifted (os : Os) (started : os.Started) (H : Type) (enc : TypeId × Value → H) :
    ReturnsInHanded {} Try.checked os 3 .any (Rows.fnReplyTextSpec.pre6 enc Try.prog Try.f3 Rows.fnReplyTextRow.domain false) (Rows.fnReplyTextSpec.post enc Try.prog Try.f3 false true false false) := by
  refine returnsInHanded_of_change (C := Try.checked) own started (by kernel_rfl) Try.func3
    (ChangeSpec.witness6 (enc := enc) (C := Try.checked) false ⟨#[], #[.slice none 0 0], []⟩ 8 (by kernel_rfl) (by kernel_rfl) (by kernel_rfl) (by kernel_rfl)) ?_
  intro W base args ds gs before hval0 hW hcnd _
  have hval : ∀ (j : Nat) t v, Try.f3.params[j]? = some t → args[j]? = some v → Value.okWide Try.prog W .any base t v := hval0
  have hW' := hW
  obtain ⟨p, q, hA0, hV, rfl, hfz, hnd⟩ := hW
  have hA : DataW.TrodAll enc Try.prog W 0 (fun _ => true) true Try.f3.params.toList args.toList ds p := hA0
  rw [Try.params3] at hA hval
  obtain ⟨v0, vs0, d0, ds0, p0, q0, hargs, rfl, rfl, h0, r0⟩ := trodAll_cons hA
  obtain ⟨rfl, rfl, rfl⟩ := trodAll_nil r0
  obtain rfl : args = #[v0] := by cases args; simp_all
  obtain ⟨rfl, rfl⟩ := trodVars_none hV
  obtain ⟨a0, n0, c0, rfl⟩ := okWide_slice Try.underlying22 (hval 0 22 v0 rfl rfl)
  have k0 := h0
  have lt0 : ∀ x ∈ p0, x.block < W.heap.size := by obtain ⟨m, hm⟩ := k0; exact DataW.trod_lt m _ _ _ hm
  obtain ⟨w0, x0, y0⟩ := code_of_trod Try.underlying22 Try.underlying5 (by kernel_rfl) h0
  clear hA0 hval0
  refine (fnReplyText_walk a0 n0 c0 W w0 x0 y0).mono fun e W' ⟨he, bel⟩ => ?_
  subst he
  exact ⟨_, rfl, _, _, _, [], _, [], hW', trodAll_mk1 (shut_bool Try.underlying4 _), (trodAll_cons_mk (Below.trod laidOut (by kernel_rfl) (of_decide_eq_true (by kernel_rfl)) k0 bel lt0) trodAll_mk0), rfl, bel.frame _, fun h => by cases h⟩
/-- FnReplyText: THE STATEMENT. -/
theorem fnReplyText_holds : Rows.FnReplyTextSaid :=
  OpenClaim.holds_of_wide 3 Try.f3 rfl rfl rfl rfl rfl rfl rfl ⟨rfl, rfl, rfl, rfl, rfl⟩ rfl rfl rfl rfl rfl (by kernel_rfl) Try.func3 (by kernel_rfl)
    (of_decide_eq_true (by kernel_rfl)) (by unfold Func.isWrapper; first | (rw [if_pos (by decide +kernel)]; kernel_rfl) | (rw [if_neg (by decide +kernel)]; exact ⟨rfl, rfl⟩))
    (fun os started H enc _ => fnReplyText_lifted os started H enc)
end Go.Proofs.Ytdddmclhafbfoaa
