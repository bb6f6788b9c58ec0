/-
  The law of chapter 5 on soft breaks: its walk. For every input of the law: it returns true, and the input reads as it did. Conditions: none but the statement's own.
-/
import Derived.Test.YtjnpkmenlecdmabLaw0c
import Derived.Test.YtjnpkmenlecdmabCodV
import Derived.Test.YtjnpkmenlecdmabRowL
namespace Go.Proofs.Ytjnpkmenlecdmab
open Go.ChangeShapes Go.WideShapes Go.ChangeAt Go.RowKit
open Go.ChangeMaps (open_string shut_string)

theorem own_lit1 (w : World) (x : List UInt8) (s : ByteArray) (h : s = str x) : OwnL w.heap.size (.slice (some ⟨w.heap.size, 0, none⟩) 1 1) [x] (w.alloc (.cells #[.string s] 9)) := by
  subst h
  exact ⟨rfl, .inr ⟨w.heap.size, 1, #[.string (str x)], rfl, Nat.le_refl _, by show (w.heap.push _)[w.heap.size]? = _; simp, Nat.le_refl _, by unfold maxLen; omega, rfl, rfl⟩⟩
set_option maxRecDepth 100000 in
set_option maxHeartbeats 1000000 in
theorem fnQuotedSoft_walk (a : Option Addr) (n c : Nat) (w : World) (hc : Code w a n) (hnc : n ≤ c) (hm : c ≤ maxLen) :
    Calls Try.prog 3 #[.slice a n c] w fun e w' => e = .returned (.bool true) ∧ Below w.heap.size w w' := by
  have hm' := hm
  unfold maxLen at hm'
  by_cases hn : 1048576 < n
  · have hd : decide ((1048576 : Int) < n) = true := by simp; omega
    go_enter Try.func3, Try.ntmps3
    go_wp2
    go_ret
    exact ⟨rfl, Below.refl _ _⟩
  have hd : decide ((1048576 : Int) < n) = false := by simp; omega
  go_enter Try.func3, Try.ntmps3
  go_wp2_with fail
  refine (drawDecodeQuoted_any a n c w hc hnc hm).mono ?_
  rintro e w1 ⟨v1, ls, rfl, ho1, hl1, hx1, hb1⟩
  obtain ⟨a1, c1, rfl, hr1, _⟩ := ho1.read
  have HX : Hid (∀ x ∈ ls, x.length ≤ 1073741000) := fun x hx => Nat.le_trans (hx1 x hx) (by omega)
  have HR := Lib.hid hr1
  have HO := Lib.hid ho1
  have HB1 := Lib.hid hb1
  clear hr1 ho1 hx1 hb1
  go_wp2_with fail
  refine (decodeQuoted_any a1 ls.length c1 ls _ HR.out (by omega) HX.out).mono ?_
  rintro e w2 ⟨rfl, hb2⟩
  have HR2 := Lib.hid (HR.out.below hb2)
  have HO2 := Lib.hid (HO.out.keep hb2)
  have HB2 := Lib.hid (nx HB1.out hb2)
  clear hb2
  go_wp2_with fail
  refine (decodeQuotedS_any a1 ls.length c1 ls _ HR2.out (by omega) HX.out).mono ?_
  rintro e w3 ⟨rfl, hb3⟩
  have HO3 := Lib.hid (HO2.out.keep hb3)
  have HB3 := Lib.hid (nx HB2.out hb3)
  clear hb3
  cases hdq : decQ ls with
  | none =>
    have hq0 : (((str []).toList) == (str []).toList) = true := by simp
    have hq1 : (str []).toList.isEmpty = true := by rw [ByteArray.toList_eq, str_list]; rfl
    clear hdq
    go_wp2
    go_ret
    exact ⟨rfl, HB3.out⟩
  | some b =>
    obtain ⟨hg, h300⟩ := lim_some hdq
    have HX1 : Hid (decQ ([61] :: ls) = some b) := by show lim _ = _; rw [decG_soft, hg, lim_in h300]
    have HX2 : Hid (decQ (ls ++ [[]]) = lim (some (b ++ [10]))) := by show lim _ = _; rw [decG_last hg]
    have hbb : ((str b).toList == (str b).toList) = true := by simp
    have hbz : (str b).size ≤ 300 := by rw [str_size]; exact h300
    have HS1 : Hid (∀ x ∈ [61] :: ls, x.length ≤ 1073741000) := fun x hx => by
      rcases List.mem_cons.1 hx with e | e
      · subst e; simp
      · exact HX.out x e
    have HS2 : Hid (∀ x ∈ ls ++ [[]], x.length ≤ 1073741000) := fun x hx => by
      rcases List.mem_append.1 hx with e | e
      · exact HX.out x e
      · rw [List.mem_singleton.1 e]; simp
    have HP : Hid (str (b ++ [10]) = str b ++ ⟨#[10]⟩) := by show _ = _; rw [show (⟨#[10]⟩ : ByteArray) = str [10] from rfl, str_app]
    clear hdq hg
    have hL1 := own_lit1 w3 [61] ⟨#[61]⟩ rfl
    have hbA3 : Below w3.heap.size w3 (w3.alloc (.cells #[.string ⟨#[61]⟩] 9)) := (Below.refl _ _).alloc (Nat.le_refl _) _
    go_wp2_with (at_builtin; refine wpList_append_LL rfl _ _ rfl w3.heap.size _ _ _ [[61]] ls rfl rfl hL1 (HO3.out.keep hbA3) (by simp) (by simp only [List.length_singleton]; omega) ?_)
    intro v4 w4 ho4 hb4
    obtain ⟨a4, c4, rfl, hr4, _⟩ := ho4.read
    have HR4 := Lib.hid hr4
    have hbA4 := hbA3.trans hb4
    have HO4 := Lib.hid (HO3.out.keep hbA4)
    have HB4 := Lib.hid (nx HB3.out hbA4)
    clear ho4 hr4 hb4 hbA4 hL1 hbA3
    have HDQ : Hid (∀ u : World, RdL u a4 (ls.length + 1) ([61] :: ls) → Calls Try.prog 7 #[.slice a4 (ls.length + 1) c4] u (DecRet (some b) u)) := fun u h => by
      have := decodeQuoted_any a4 _ c4 ([61] :: ls) u h (by omega) HS1.out
      rw [HX1.out] at this; exact this
    go_wp2_with fail
    refine (HDQ.out _ HR4.out).mono ?_
    rintro e w5 ⟨rfl, hb5⟩
    have HO5 := Lib.hid (HO4.out.keep hb5)
    have HB5 := Lib.hid (nx HB4.out hb5)
    clear hb5
    have hL2 := OwnL.empty w5
    have hbA5 : Below w5.heap.size w5 (w5.alloc (.cells #[] 9)) := (Below.refl _ _).alloc (Nat.le_refl _) _
    go_wp2_with (at_builtin; refine wpList_append_LL rfl _ _ rfl w5.heap.size _ _ _ [] ls rfl rfl hL2 (HO5.out.keep hbA5) (by simp) (by simp only [List.length_nil]; omega) ?_)
    intro v6 w6 ho6 hb6
    have hB6 := hbA5.trans hb6
    have hz6 := hB6.size
    have HB6 := Lib.hid (nx HB5.out hB6)
    have hL3 := own_lit1 w6 [] ⟨#[]⟩ rfl
    have hbA6 : Below w6.heap.size w6 (w6.alloc (.cells #[.string ⟨#[]⟩] 9)) := (Below.refl _ _).alloc (Nat.le_refl _) _
    clear hL2 hb6
    go_wp2_with (at_builtin; refine wpList_append_LL rfl _ _ rfl w5.heap.size _ _ _ ls [[]] rfl rfl (ho6.keep hbA6) hL3 (by simp; omega) (by simp only [List.length_singleton]; omega) ?_)
    intro v7 w7 ho7 hb7
    obtain ⟨a7, c7, rfl, hr7, _⟩ := ho7.read
    have HR7 := Lib.hid hr7
    have HB7 := Lib.hid (nx HB5.out ((hB6.trans (hbA6.mono hz6)).trans hb7))
    have HR71 : Hid (RdL w7 a7 (ls.length + 1) (ls ++ [[]])) := by have := HR7.out; rw [List.length_append] at this; exact this
    clear ho7 hr7 hb7 hL3 hbA6 hbA5 hB6
    have HDQ2 : Hid (∀ u : World, RdL u a7 (ls.length + 1) (ls ++ [[]]) → Calls Try.prog 7 #[.slice a7 (ls.length + 1) c7] u (DecRet (lim (some (b ++ [10]))) u)) := fun u h => by
      have := decodeQuoted_any a7 _ c7 (ls ++ [[]]) u h (by omega) HS2.out
      rw [HX2.out] at this; exact this
    go_wp2_with fail
    refine (HDQ2.out _ HR71.out).mono ?_
    rintro e w8 ⟨rfl, hb8⟩
    have HB8 := Lib.hid (nx HB7.out hb8)
    clear hb8
    by_cases h301 : (b ++ [10]).length ≤ 300
    · have HLI := Lib.hid (lim_in h301)
      have hss : ((str (b ++ [10])).toList == (str b ++ (ByteArray.mk #[10])).toList) = true := by rw [HP.out]; simp
      rw [HLI.out]
      clear h301
      go_wp2
      go_ret
      exact ⟨rfl, HB8.out⟩
    · have HLI := Lib.hid (lim_out (b := b ++ [10]) (by omega))
      rw [HLI.out]
      clear h301
      go_wp2
      go_ret
      exact ⟨rfl, HB8.out⟩
set_option maxRecDepth 100000 in
theorem fnQuotedSoft_lifted (os : Os) (started : os.Started) (H : Type) (enc : TypeId × Value → H) :
    ReturnsInHanded {} Try.checked os 3 .any (Rows.fnQuotedSoftSpec.pre6 enc Try.prog Try.f3 Rows.fnQuotedSoftRow.domain false) (Rows.fnQuotedSoftSpec.post enc Try.prog Try.f3 false true false false) := by
  refine returnsInHanded_of_change (C := Try.checked) own started (by kernel_rfl) Try.func3
    (ChangeSpec.witness6 (enc := enc) (C := Try.checked) false ⟨#[], #[.slice none 0 0], []⟩ 8 (by kernel_rfl) (by kernel_rfl) (by kernel_rfl) (by kernel_rfl)) ?_
  intro W base args ds gs before hval0 hW hcnd _
  have hval : ∀ (j : Nat) t v, Try.f3.params[j]? = some t → args[j]? = some v → Value.okWide Try.prog W .any base t v := hval0
  have hW' := hW
  obtain ⟨p, q, hA0, hV, rfl, hfz, hnd⟩ := hW
  have hA : DataW.TrodAll enc Try.prog W 0 (fun _ => true) true Try.f3.params.toList args.toList ds p := hA0
  rw [Try.params3] at hA hval
  obtain ⟨v0, vs0, d0, ds0, p0, q0, hargs, rfl, rfl, h0, r0⟩ := trodAll_cons hA
  obtain ⟨rfl, rfl, rfl⟩ := trodAll_nil r0
  obtain rfl : args = #[v0] := by cases args; simp_all
  obtain ⟨rfl, rfl⟩ := trodVars_none hV
  obtain ⟨a0, n0, c0, rfl⟩ := okWide_slice Try.underlying22 (hval 0 22 v0 rfl rfl)
  have k0 := h0
  have lt0 : ∀ x ∈ p0, x.block < W.heap.size := by obtain ⟨m, hm⟩ := k0; exact DataW.trod_lt m _ _ _ hm
  obtain ⟨w0, x0, y0⟩ := code_of_trod Try.underlying22 Try.underlying5 (by kernel_rfl) h0
  clear hA0 hval0
  refine (fnQuotedSoft_walk a0 n0 c0 W w0 x0 y0).mono fun e W' ⟨he, bel⟩ => ?_
  subst he
  exact ⟨_, rfl, _, _, _, [], _, [], hW', trodAll_mk1 (shut_bool Try.underlying4 _), (trodAll_cons_mk (Below.trod laidOut (by kernel_rfl) (of_decide_eq_true (by kernel_rfl)) k0 bel lt0) trodAll_mk0), rfl, bel.frame _, fun h => by cases h⟩
/-- FnQuotedSoft: THE STATEMENT. -/
theorem fnQuotedSoft_holds : Rows.FnQuotedSoftSaid :=
  OpenClaim.holds_of_wide 3 Try.f3 rfl rfl rfl rfl rfl rfl rfl ⟨rfl, rfl, rfl, rfl, rfl⟩ rfl rfl rfl rfl rfl (by kernel_rfl) Try.func3 (by kernel_rfl)
    (of_decide_eq_true (by kernel_rfl)) (by unfold Func.isWrapper; first | (rw [if_pos (by decide +kernel)]; kernel_rfl) | (rw [if_neg (by decide +kernel)]; exact ⟨rfl, rfl⟩))
    (fun os started H enc _ => fnQuotedSoft_lifted os started H enc)
end Go.Proofs.Ytjnpkmenlecdmab
