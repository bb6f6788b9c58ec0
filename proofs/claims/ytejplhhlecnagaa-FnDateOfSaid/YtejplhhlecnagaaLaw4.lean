/-
  The laws of chapter 4 on seconds and zones: each law's walk. For every input of the law: it returns true, and the input reads as it did. Conditions: none but the statement's own.
-/
import Derived.Test.YtejplhhlecnagaaLaw0
import Derived.Test.YtejplhhlecnagaaDrawE
import Derived.Test.YtejplhhlecnagaaDateQ
namespace Go.Proofs.Ytejplhhlecnagaa
open Go.ChangeShapes Go.WideShapes Go.ChangeAt Go.RowKit
open Go.ChangeMaps (open_string shut_string)

set_option maxRecDepth 100000 in
set_option maxHeartbeats 2000000 in
theorem fnDateOf_walk (a : Option Addr) (n c : Nat) (w : World) (hc : Code w a n) (hnc : n ≤ c) (hm : c ≤ maxLen) :
    Calls Try.prog 3 #[.slice a n c] w fun e w' => e = .returned (.bool true) ∧ Below w.heap.size w w' := by
  have hm' := hm
  unfold maxLen at hm'
  by_cases hn : 1048576 < n
  · have hd : decide ((1048576 : Int) < n) = true := by simp; omega
    go_enter Try.func3, Try.ntmps3
    go_wp2
    go_ret
    exact ⟨rfl, Below.refl _ _⟩
  · have hd : decide ((1048576 : Int) < n) = false := by simp; omega
    go_enter Try.func3, Try.ntmps3
    go_wp2_with fail
    refine (dDrawDateOf_any a n c w hc hnc hm).mono ?_
    rintro e w1 ⟨n1, z1, rfl, _, _, hb1⟩
    cases hO : dateO n1 z1 with
    | none =>
      have H1 := Lib.hid (dateOf_none hO)
      have H2 := Lib.hid (dateOfS_none hO)
      clear hO
      go_wp2_with fail
      refine (H1.out _).mono ?_
      rintro e w2 ⟨rfl, hb2⟩
      go_wp2_with fail
      refine (H2.out _).mono ?_
      rintro e w3 ⟨rfl, hb3⟩
      have h5 := (laid7_new 0 0 0 0 0 0 0 26 w2).below hb3
      have HBF := Lib.hid (nx hb1 (nx hb2 (nx (laid7_below 0 0 0 0 0 0 0 26 w2) (nx hb3 (laid7_below 0 0 0 0 0 0 0 26 w3)))))
      obtain ⟨c0, c1, c2, c3, c4, c5, c6⟩ := h5
      have hl := lt_of_cell c0
      simp only at c0 c1 c2 c3 c4 c5 c6
      go_wp2
      go_ret
      exact ⟨rfl, HBF.out⟩
    | some D =>
      have hat := dateO_some.1 hO
      obtain ⟨y, m, d, h, mi, s, z⟩ := D
      obtain ⟨hok, hsec, hz⟩ := hat
      simp only at hz
      subst hz
      have H1 := Lib.hid (dateOf_some hO)
      have H2 := Lib.hid (dateOfS_some hO)
      have H3 := Lib.hid (secondsOf_ok hok)
      have H4 := Lib.hid (dateValid_q true (okDB_ok hok))
      rw [hsec] at H3
      clear hO hsec hok
      go_wp2_with fail
      refine (H1.out _).mono ?_
      rintro e w2 ⟨rfl, hb2⟩
      go_wp2_with fail
      refine (H2.out _).mono ?_
      rintro e w3 ⟨rfl, hb3⟩
      have h5 := (laid7_new y m d h mi s z 26 w2).below hb3
      have hb13 := nx hb1 (nx hb2 (nx (laid7_below y m d h mi s z 26 w2) (nx hb3 (laid7_below y m d h mi s z 26 w3))))
      have H5 := Lib.hid (h5.below (laid7_below y m d h mi s z 26 w3))
      obtain ⟨c0, c1, c2, c3, c4, c5, c6⟩ := h5
      have hl := lt_of_cell c0
      simp only at c0 c1 c2 c3 c4 c5 c6
      go_wp2_with fail
      refine (H3.out _).mono ?_
      rintro e w4 ⟨rfl, hb4⟩
      clear c0 c1 c2 c3 c4 c5 c6
      have H6 := Lib.hid (H5.out.below hb4)
      obtain ⟨c0, c1, c2, c3, c4, c5, c6⟩ := H6.out
      simp only at c0 c1 c2 c3 c4 c5 c6
      go_wp2_with fail
      refine (H4.out _).mono ?_
      rintro e w5 ⟨rfl, hb5⟩
      clear c0 c1 c2 c3 c4 c5 c6
      obtain ⟨c0, c1, c2, c3, c4, c5, c6⟩ := H6.out.below hb5
      simp only at c0 c1 c2 c3 c4 c5 c6
      have HBF := Lib.hid (nx hb13 (nx hb4 hb5))
      go_wp2
      go_ret
      exact ⟨rfl, HBF.out⟩
set_option maxRecDepth 100000 in
theorem fnDateOf_lifted (os : Os) (started : os.Started) (H : Type) (enc : TypeId × Value → H) :
    ReturnsInHanded {} Try.checked os 3 .any (Rows.fnDateOfSpec.pre6 enc Try.prog Try.f3 Rows.fnDateOfRow.domain false) (Rows.fnDateOfSpec.post enc Try.prog Try.f3 false true false false) := by
  refine returnsInHanded_of_change (C := Try.checked) own started (by kernel_rfl) Try.func3
    (ChangeSpec.witness6 (enc := enc) (C := Try.checked) false ⟨#[], #[.slice none 0 0], []⟩ 8 (by kernel_rfl) (by kernel_rfl) (by kernel_rfl) (by kernel_rfl)) ?_
  intro W base args ds gs before hval0 hW hcnd _
  have hval : ∀ (j : Nat) t v, Try.f3.params[j]? = some t → args[j]? = some v → Value.okWide Try.prog W .any base t v := hval0
  have hW' := hW
  obtain ⟨p, q, hA0, hV, rfl, hfz, hnd⟩ := hW
  have hA : DataW.TrodAll enc Try.prog W 0 (fun _ => true) true Try.f3.params.toList args.toList ds p := hA0
  rw [Try.params3] at hA hval
  obtain ⟨v0, vs0, d0, ds0, p0, q0, hargs, rfl, rfl, h0, r0⟩ := trodAll_cons hA
  obtain ⟨rfl, rfl, rfl⟩ := trodAll_nil r0
  obtain rfl : args = #[v0] := by cases args; simp_all
  obtain ⟨rfl, rfl⟩ := trodVars_none hV
  obtain ⟨a0, n0, c0, rfl⟩ := okWide_slice Try.underlying22 (hval 0 22 v0 rfl rfl)
  have k0 := h0
  have lt0 : ∀ x ∈ p0, x.block < W.heap.size := by obtain ⟨m, hm⟩ := k0; exact DataW.trod_lt m _ _ _ hm
  obtain ⟨w0, x0, y0⟩ := code_of_trod Try.underlying22 Try.underlying5 (by kernel_rfl) h0
  clear hA0 hval0
  refine (fnDateOf_walk a0 n0 c0 W w0 x0 y0).mono fun e W' ⟨he, bel⟩ => ?_
  subst he
  exact ⟨_, rfl, _, _, _, [], _, [], hW', trodAll_mk1 (shut_bool Try.underlying4 _), (trodAll_cons_mk (Below.trod laidOut (by kernel_rfl) (of_decide_eq_true (by kernel_rfl)) k0 bel lt0) trodAll_mk0), rfl, bel.frame _, fun h => by cases h⟩
/-- FnDateOf: THE STATEMENT. -/
theorem fnDateOf_holds : Rows.FnDateOfSaid :=
  OpenClaim.holds_of_wide 3 Try.f3 rfl rfl rfl rfl rfl rfl rfl ⟨rfl, rfl, rfl, rfl, rfl⟩ rfl rfl rfl rfl rfl (by kernel_rfl) Try.func3 (by kernel_rfl)
    (of_decide_eq_true (by kernel_rfl)) (by unfold Func.isWrapper; first | (rw [if_pos (by decide +kernel)]; kernel_rfl) | (rw [if_neg (by decide +kernel)]; exact ⟨rfl, rfl⟩))
    (fun os started H enc _ => fnDateOf_lifted os started H enc)
end Go.Proofs.Ytejplhhlecnagaa
