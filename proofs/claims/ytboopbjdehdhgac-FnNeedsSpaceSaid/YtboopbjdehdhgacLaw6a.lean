/-
  The laws of chapter 6: each law's walk. For every input of the law: it returns true, and the input reads as it did. Conditions: none but the statement's own.
-/
import Derived.Test.YtboopbjdehdhgacLaw0n
import Derived.Test.YtboopbjdehdhgacNamN
namespace Go.Proofs.Ytboopbjdehdhgac
open Go.ChangeShapes Go.WideShapes Go.ChangeAt Go.RowKit
open Go.ChangeMaps (open_string shut_string)

theorem str_all {t : List UInt8} (h : ∀ x ∈ t, okB x = true) (k : Nat) (hk : k < (str t).size) : okB (str t)[k] = true := by
  rw [str_at]; exact h _ (List.getElem_mem _)
theorem codeW_sub {l t m : List UInt8} (h : codeW l = some t) (hs : ∃ a b, l = a ++ (m ++ b)) (hm : m ≠ []) : codeW m = some (wordL m) ∧ (wordL m).length ≤ t.length := by
  obtain ⟨rfl, _, h2⟩ := codeW_some h
  obtain ⟨a, b, rfl⟩ := hs
  rw [codL_app, codL_app, List.length_append, List.length_append] at h2
  refine ⟨codeW_in hm (by omega), ?_⟩
  rw [wordL_len, wordL_len, codL_app, codL_app, List.length_append, List.length_append]; omega
theorem needs_front (l : List UInt8) : needs (32 :: l) = true := by unfold needs; simp
theorem needs_q (l : List UInt8) : needs (l ++ [61, 63]) = true := by
  have : hasQ (l ++ [61, 63]) = true := hasQ_mid l []
  unfold needs; rw [this]; simp
theorem needs_zero (l : List UInt8) : needs (l ++ [0]) = true := by
  have : isText (l ++ [0]) = false := by
    unfold isText; rw [Bool.and_eq_false_iff]; right
    rw [List.all_eq_false]; exact ⟨0, by simp, by decide⟩
  unfold needs; rw [this]; simp
set_option maxRecDepth 100000 in
set_option maxHeartbeats 2000000 in
theorem fnNeedsSpace_walk (a : Option Addr) (n c : Nat) (w : World) (hmx : ∃ m, w.cell? ⟨0, 0, none⟩ = some (.int .i64 m)) (hc : Code w a n) (hnc : n ≤ c) (hm : c ≤ maxLen) :
    Calls Try.prog 3 #[.slice a n c] w fun e w' => e = .returned (.bool true) ∧ Below w.heap.size w w' := by
  have hm' := hm
  unfold maxLen at hm'
  by_cases hn : 1048576 < n
  · have hd : decide ((1048576 : Int) < n) = true := by simp; omega
    go_enter Try.func3, Try.ntmps3
    go_wp2
    go_ret
    exact ⟨rfl, Below.refl _ _⟩
  have hd : decide ((1048576 : Int) < n) = false := by simp; omega
  go_enter Try.func3, Try.ntmps3
  go_wp2_with fail
  refine (drawNeedsCode_any a n c w hc hnc hm).mono ?_
  rintro e w1 ⟨s, rfl, hs, hb1⟩
  have HN1 := Lib.hid (needsCode_any s w1 (mx_belowN hmx hb1) (by omega))
  have HN2 := Lib.hid (needsCodeS_any s w1 (by omega))
  have h1 : (ByteArray.mk #[32] ++ s).size = 1 + s.size := ByteArray.size_append
  have h2 : (s ++ ByteArray.mk #[61, 63]).size = s.size + 2 := ByteArray.size_append
  have h3 : (s ++ ByteArray.mk #[0]).size = s.size + 1 := ByteArray.size_append
  have HA : Hid (Calls Try.prog 8 #[.string (ByteArray.mk #[32] ++ s)] w1 fun e w' => e = .returned (.bool true) ∧ w1 = w') := by
    have := needsCode_any (ByteArray.mk #[32] ++ s) w1 (mx_belowN hmx hb1) (by omega)
    rw [Joins.data_append, show (ByteArray.mk #[32]).data.toList = [32] from rfl, List.singleton_append, needs_front] at this; exact this
  have HB : Hid (Calls Try.prog 8 #[.string (s ++ ByteArray.mk #[61, 63])] w1 fun e w' => e = .returned (.bool true) ∧ w1 = w') := by
    have := needsCode_any (s ++ ByteArray.mk #[61, 63]) w1 (mx_belowN hmx hb1) (by omega)
    rw [Joins.data_append, show (ByteArray.mk #[61, 63]).data.toList = [61, 63] from rfl, needs_q] at this; exact this
  have HC : Hid (Calls Try.prog 8 #[.string (s ++ ByteArray.mk #[0])] w1 fun e w' => e = .returned (.bool true) ∧ w1 = w') := by
    have := needsCode_any (s ++ ByteArray.mk #[0]) w1 (mx_belowN hmx hb1) (by omega)
    rw [Joins.data_append, show (ByteArray.mk #[0]).data.toList = [0] from rfl, needs_zero] at this; exact this
  generalize needs s.data.toList = nb at *
  go_wp2_with fail
  refine HN1.out.mono ?_
  rintro e w2 ⟨rfl, rfl⟩
  go_wp2_with fail
  refine HN2.out.mono ?_
  rintro e w2 ⟨rfl, rfl⟩
  go_wp2_with fail
  refine HA.out.mono ?_
  rintro e w2 ⟨rfl, rfl⟩
  go_wp2_with fail
  refine HB.out.mono ?_
  rintro e w2 ⟨rfl, rfl⟩
  go_wp2_with fail
  refine HC.out.mono ?_
  rintro e w2 ⟨rfl, rfl⟩
  go_wp2
  go_ret
  exact ⟨rfl, hb1⟩
set_option maxRecDepth 100000 in
theorem fnNeedsSpace_lifted (os : Os) (started : os.Started) (H : Type) (enc : TypeId × Value → H) :
    ReturnsInHanded {} Try.checked os 3 .any (Rows.fnNeedsSpaceSpec.pre6 enc Try.prog Try.f3 Rows.fnNeedsSpaceRow.domain false) (Rows.fnNeedsSpaceSpec.post enc Try.prog Try.f3 false true false false) := by
  refine returnsInHanded_of_change_shaped (C := Try.checked) own started (by kernel_rfl) Try.func3
    (ChangeSpec.witness6 (enc := enc) (C := Try.checked) false ⟨#[], #[.slice none 0 0], []⟩ 8 (by kernel_rfl) (by kernel_rfl) (by kernel_rfl) (by kernel_rfl)) ?_
  intro W base args ds gs before hval0 hW hcnd _ hsh _
  have hval : ∀ (j : Nat) t v, Try.f3.params[j]? = some t → args[j]? = some v → Value.okWide Try.prog W .any base t v := hval0
  have hW' := hW
  obtain ⟨p, q, hA0, hV, rfl, hfz, hnd⟩ := hW
  have hA : DataW.TrodAll enc Try.prog W 0 (fun _ => true) true Try.f3.params.toList args.toList ds p := hA0
  rw [Try.params3] at hA hval
  obtain ⟨v0, vs0, d0, ds0, p0, q0, hargs, rfl, rfl, h0, r0⟩ := trodAll_cons hA
  obtain ⟨rfl, rfl, rfl⟩ := trodAll_nil r0
  obtain rfl : args = #[v0] := by cases args; simp_all
  obtain ⟨rfl, rfl⟩ := trodVars_none hV
  obtain ⟨a0, n0, c0, rfl⟩ := okWide_slice Try.underlying22 (hval 0 22 v0 rfl rfl)
  have k0 := h0
  have lt0 : ∀ x ∈ p0, x.block < W.heap.size := by obtain ⟨m, hm⟩ := k0; exact DataW.trod_lt m _ _ _ hm
  obtain ⟨w0, x0, y0⟩ := code_of_trod Try.underlying22 Try.underlying5 (by kernel_rfl) h0
  clear hA0 hval0
  refine (fnNeedsSpace_walk a0 n0 c0 W (mx_of_shaped hsh) w0 x0 y0).mono fun e W' ⟨he, bel⟩ => ?_
  subst he
  exact ⟨_, rfl, _, _, _, [], _, [], hW', trodAll_mk1 (shut_bool Try.underlying4 _), (trodAll_cons_mk (Below.trod laidOut (by kernel_rfl) (of_decide_eq_true (by kernel_rfl)) k0 bel lt0) trodAll_mk0), rfl, bel.frame _, fun h => by cases h⟩
/-- FnNeedsSpace: THE STATEMENT. -/
theorem fnNeedsSpace_holds : Rows.FnNeedsSpaceSaid :=
  OpenClaim.holds_of_wide 3 Try.f3 rfl rfl rfl rfl rfl rfl rfl ⟨rfl, rfl, rfl, rfl, rfl⟩ rfl rfl rfl rfl rfl (by kernel_rfl) Try.func3 (by kernel_rfl)
    (of_decide_eq_true (by kernel_rfl)) (by unfold Func.isWrapper; first | (rw [if_pos (by decide +kernel)]; kernel_rfl) | (rw [if_neg (by decide +kernel)]; exact ⟨rfl, rfl⟩))
    (fun os started H enc _ => fnNeedsSpace_lifted os started H enc)
end Go.Proofs.Ytboopbjdehdhgac
