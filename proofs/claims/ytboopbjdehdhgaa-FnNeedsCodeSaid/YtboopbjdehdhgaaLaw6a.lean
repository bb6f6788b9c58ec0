/-
  The laws of chapter 6: each law's walk. For every input of the law: it returns true, and the input reads as it did. Conditions: none but the statement's own.
-/
import Derived.Test.YtboopbjdehdhgaaLaw0n
import Derived.Test.YtboopbjdehdhgaaNamN
import Derived.Test.YtboopbjdehdhgaaNamN
namespace Go.Proofs.Ytboopbjdehdhgaa
open Go.ChangeShapes Go.WideShapes Go.ChangeAt Go.RowKit
open Go.ChangeMaps (open_string shut_string)

theorem str_all {t : List UInt8} (h : ∀ x ∈ t, okB x = true) (k : Nat) (hk : k < (str t).size) : okB (str t)[k] = true := by
  rw [str_at]; exact h _ (List.getElem_mem _)
theorem codeW_sub {l t m : List UInt8} (h : codeW l = some t) (hs : ∃ a b, l = a ++ (m ++ b)) (hm : m ≠ []) : codeW m = some (wordL m) ∧ (wordL m).length ≤ t.length := by
  obtain ⟨rfl, _, h2⟩ := codeW_some h
  obtain ⟨a, b, rfl⟩ := hs
  rw [codL_app, codL_app, List.length_append, List.length_append] at h2
  refine ⟨codeW_in hm (by omega), ?_⟩
  rw [wordL_len, wordL_len, codL_app, codL_app, List.length_append, List.length_append]; omega
set_option maxRecDepth 100000 in
set_option maxHeartbeats 2000000 in
theorem fnNeedsCode_walk (a : Option Addr) (n c : Nat) (w : World) (hmx : ∃ m, w.cell? ⟨0, 0, none⟩ = some (.int .i64 m)) (hc : Code w a n) (hnc : n ≤ c) (hm : c ≤ maxLen) :
    Calls Try.prog 4 #[.slice a n c] w fun e w' => e = .returned (.bool true) ∧ Below w.heap.size w w' := by
  have hm' := hm
  unfold maxLen at hm'
  by_cases hn : 1048576 < n
  · have hd : decide ((1048576 : Int) < n) = true := by simp; omega
    go_enter Try.func4, Try.ntmps4
    go_wp2
    go_ret
    exact ⟨rfl, Below.refl _ _⟩
  have hd : decide ((1048576 : Int) < n) = false := by simp; omega
  go_enter Try.func4, Try.ntmps4
  go_wp2_with fail
  refine (drawNeedsCode_any a n c w hc hnc hm).mono ?_
  rintro e w1 ⟨s, rfl, hs, hb1⟩
  have HN1 := Lib.hid (needsCode_any s w1 (mx_belowN hmx hb1) (by omega))
  have HN2 := Lib.hid (needsCodeS_any s w1 (by omega))
  cases hn' : needs s.data.toList
  · have hq := needs_false.1 hn'
    have he : encN s.data.toList = some s.data.toList := by rw [encN_in hq.1, hn']; simp
    have HE : Hid (∀ u, Below w.heap.size w u → Calls Try.prog 6 #[.string s] u (DecRet (some s.data.toList) u)) := fun u hu => by
      have := encodeName_any s u (mx_belowN hmx hu) (by omega)
      rw [he] at this; exact this
    have HTV : Hid (∀ u, Calls Try.prog 11 #[.string s] u fun e w' => e = .returned (.bool true) ∧ u = w') := fun u => by
      have := textValid_any s u (by unfold maxLen; omega)
      rw [hq.2.1] at this; exact this
    have HSS : Hid (str ((some s.data.toList).getD []) = s) := str_of s
    have hee : (s.toList == s.toList) = true := by simp
    rw [hn'] at HN1 HN2
    have H32a : Hid (∀ h : 0 < s.size, s[0] ≠ 32) := fun h e => hq.2.2.1 (by rw [← List.drop_zero (l := s.data.toList), drop_at s 0 h, e]; rfl)
    have H32b : Hid (∀ h : s.size - 1 < s.size, s[s.size - 1] ≠ 32) := fun h e => hq.2.2.2.1 (by rw [List.getLast?_eq_getElem?, size_list, List.getElem?_eq_getElem (by rw [size_list]; exact h)]; rw [← e]; rfl)
    clear hq he hn'
    by_cases h0 : s.size = 0
    · have hem : s.toList.isEmpty = true := by rw [emp_of, h0]; rfl
      clear h0
      go_wp2_with fail
      refine HN1.out.mono ?_
      rintro e w2 ⟨rfl, rfl⟩
      go_wp2_with fail
      refine HN2.out.mono ?_
      rintro e w2 ⟨rfl, rfl⟩
      go_wp2_with fail
      refine (HE.out _ hb1).mono ?_
      rintro e w3 ⟨rfl, hb3⟩
      rw [HSS.out]
      go_wp2_with fail
      refine (HTV.out _).mono ?_
      rintro e w4 ⟨rfl, rfl⟩
      go_wp2
      go_ret
      exact ⟨rfl, nx hb1 hb3⟩
    · have hem : s.toList.isEmpty = false := by rw [emp_of, decide_eq_false h0]
      have hp : 0 < s.size := by omega
      have hp1 : s.size - 1 < s.size := by omega
      have hf := bneq_t (H32a.out hp) (n := 32) rfl
      have hl := bneq_t (H32b.out hp1) (n := 32) rfl
      have hw2 : 0 ≤ (s.size : Int) - 1 := by omega
      have hw3 : ((s.size : Int) - 1).toNat = s.size - 1 := by omega
      have hw4 : (s.size : Int) - 1 < (s.size : Int) := by omega
      clear h0
      go_wp2_with fail
      refine HN1.out.mono ?_
      rintro e w2 ⟨rfl, rfl⟩
      go_wp2_with fail
      refine HN2.out.mono ?_
      rintro e w2 ⟨rfl, rfl⟩
      go_wp2_with fail
      refine (HE.out _ hb1).mono ?_
      rintro e w3 ⟨rfl, hb3⟩
      rw [HSS.out]
      go_wp2_with fail
      refine (HTV.out _).mono ?_
      rintro e w4 ⟨rfl, rfl⟩
      go_wp2
      go_ret
      exact ⟨rfl, nx hb1 hb3⟩
  · rw [hn'] at HN1 HN2
    clear hn'
    go_wp2_with fail
    refine HN1.out.mono ?_
    rintro e w2 ⟨rfl, rfl⟩
    go_wp2_with fail
    refine HN2.out.mono ?_
    rintro e w2 ⟨rfl, rfl⟩
    go_wp2_with fail
    refine HN2.out.mono ?_
    rintro e w2 ⟨rfl, rfl⟩
    go_wp2
    go_ret
    exact ⟨rfl, hb1⟩
set_option maxRecDepth 100000 in
theorem fnNeedsCode_lifted (os : Os) (started : os.Started) (H : Type) (enc : TypeId × Value → H) :
    ReturnsInHanded {} Try.checked os 4 .any (Rows.fnNeedsCodeSpec.pre6 enc Try.prog Try.f4 Rows.fnNeedsCodeRow.domain false) (Rows.fnNeedsCodeSpec.post enc Try.prog Try.f4 false true false false) := by
  refine returnsInHanded_of_change_shaped (C := Try.checked) own started (by kernel_rfl) Try.func4
    (ChangeSpec.witness6 (enc := enc) (C := Try.checked) false ⟨#[], #[.slice none 0 0], []⟩ 8 (by kernel_rfl) (by kernel_rfl) (by kernel_rfl) (by kernel_rfl)) ?_
  intro W base args ds gs before hval0 hW hcnd _ hsh _
  have hval : ∀ (j : Nat) t v, Try.f4.params[j]? = some t → args[j]? = some v → Value.okWide Try.prog W .any base t v := hval0
  have hW' := hW
  obtain ⟨p, q, hA0, hV, rfl, hfz, hnd⟩ := hW
  have hA : DataW.TrodAll enc Try.prog W 0 (fun _ => true) true Try.f4.params.toList args.toList ds p := hA0
  rw [Try.params4] at hA hval
  obtain ⟨v0, vs0, d0, ds0, p0, q0, hargs, rfl, rfl, h0, r0⟩ := trodAll_cons hA
  obtain ⟨rfl, rfl, rfl⟩ := trodAll_nil r0
  obtain rfl : args = #[v0] := by cases args; simp_all
  obtain ⟨rfl, rfl⟩ := trodVars_none hV
  obtain ⟨a0, n0, c0, rfl⟩ := okWide_slice Try.underlying22 (hval 0 22 v0 rfl rfl)
  have k0 := h0
  have lt0 : ∀ x ∈ p0, x.block < W.heap.size := by obtain ⟨m, hm⟩ := k0; exact DataW.trod_lt m _ _ _ hm
  obtain ⟨w0, x0, y0⟩ := code_of_trod Try.underlying22 Try.underlying5 (by kernel_rfl) h0
  clear hA0 hval0
  refine (fnNeedsCode_walk a0 n0 c0 W (mx_of_shaped hsh) w0 x0 y0).mono fun e W' ⟨he, bel⟩ => ?_
  subst he
  exact ⟨_, rfl, _, _, _, [], _, [], hW', trodAll_mk1 (shut_bool Try.underlying4 _), (trodAll_cons_mk (Below.trod laidOut (by kernel_rfl) (of_decide_eq_true (by kernel_rfl)) k0 bel lt0) trodAll_mk0), rfl, bel.frame _, fun h => by cases h⟩
/-- FnNeedsCode: THE STATEMENT. -/
theorem fnNeedsCode_holds : Rows.FnNeedsCodeSaid :=
  OpenClaim.holds_of_wide 4 Try.f4 rfl rfl rfl rfl rfl rfl rfl ⟨rfl, rfl, rfl, rfl, rfl⟩ rfl rfl rfl rfl rfl (by kernel_rfl) Try.func4 (by kernel_rfl)
    (of_decide_eq_true (by kernel_rfl)) (by unfold Func.isWrapper; first | (rw [if_pos (by decide +kernel)]; kernel_rfl) | (rw [if_neg (by decide +kernel)]; exact ⟨rfl, rfl⟩))
    (fun os started H enc _ => fnNeedsCode_lifted os started H enc)
theorem join_last : ∀ (xs : List (List UInt8)), xs ≠ [] → (∀ x ∈ xs, ∃ r, x = r ++ [63, 61]) → ∃ r, Lib.join xs [32] = r ++ [63, 61]
  | [], h, _ => absurd rfl h
  | [x], _, h => by rw [Lib.join_one]; exact h x (by simp)
  | x :: y :: r, _, h => by
    obtain ⟨q, hq⟩ := join_last (y :: r) (by simp) (fun z hz => h z (by simp [hz]))
    rw [join_cons2, hq]; exact ⟨x ++ ([32] ++ q), by simp⟩
theorem join_mem : ∀ (xs : List (List UInt8)) {x : UInt8}, x ∈ Lib.join xs [32] → x = 32 ∨ ∃ p ∈ xs, x ∈ p
  | [], x, h => by simp [Lib.join_nil] at h
  | [p], x, h => by rw [Lib.join_one] at h; exact .inr ⟨p, by simp, h⟩
  | p :: q :: r, x, h => by
    rw [join_cons2] at h
    rcases List.mem_append.1 h with h | h
    · exact .inr ⟨p, by simp, h⟩
    · rcases List.mem_append.1 h with h | h
      · exact .inl (by simpa using h)
      · rcases join_mem (q :: r) h with h | ⟨z, hz, hxz⟩
        · exact .inl h
        · exact .inr ⟨z, by simp [hz], hxz⟩
theorem coded_text {l t : List UInt8} (h : encN l = some t) (hn : needs l = true) : (∀ x ∈ t, okB x = true) ∧ 13 ≤ t.length ∧ t.take 2 = [61, 63] ∧ t.drop (t.length - 2) = [63, 61] := by
  unfold encN at h
  split at h
  · injection h with h
    have h : Lib.join (wordsOf l) [32] = t := by simpa [hn] using h
    have hne : l ≠ [] := by intro e; subst e; rw [needs_nil] at hn; cases hn
    obtain ⟨r, hr⟩ := join_last (wordsOf l) (wordsOf_ne hne) (fun x hx => by
      obtain ⟨b, hb⟩ := wordsOf_mem l x hx
      obtain ⟨rfl, _⟩ := codeW_some hb
      exact ⟨preL ++ codL b, by unfold wordL; simp [sufL]⟩)
    have hst := wordsOf_step hne
    have hj : ∃ q, t = wordL (l.take (room 28 l)) ++ q := by
      rw [← h, hst]
      cases hw : wordsOf (l.drop (room 28 l)) with
      | nil => exact ⟨[], by rw [Lib.join_one]; simp⟩
      | cons y ys => rw [join_cons2]; exact ⟨_, rfl⟩
    obtain ⟨q, hq⟩ := hj
    have h13 := (codeW_size (word_code hne)).1
    refine ⟨fun x hx => ?_, by rw [hq, List.length_append]; omega, by rw [hq]; rfl, by rw [← h, hr]; simp⟩
    rw [← h] at hx
    rcases join_mem _ hx with rfl | ⟨p, hp, hxp⟩
    · decide
    · obtain ⟨b, hb⟩ := wordsOf_mem l p hp
      obtain ⟨rfl, _⟩ := codeW_some hb
      exact (wordL_byte hxp).1
  · cases h
set_option maxRecDepth 100000 in
set_option maxHeartbeats 4000000 in
theorem fnNameText_walk (a : Option Addr) (n c : Nat) (w : World) (hmx : ∃ m, w.cell? ⟨0, 0, none⟩ = some (.int .i64 m)) (hc : Code w a n) (hnc : n ≤ c) (hm : c ≤ maxLen) :
    Calls Try.prog 3 #[.slice a n c] w fun e w' => e = .returned (.bool true) ∧ Below w.heap.size w w' := by
  have hm' := hm
  unfold maxLen at hm'
  by_cases hn : 1048576 < n
  · have hd : decide ((1048576 : Int) < n) = true := by simp; omega
    go_enter Try.func3, Try.ntmps3
    go_wp2
    go_ret
    exact ⟨rfl, Below.refl _ _⟩
  have hd : decide ((1048576 : Int) < n) = false := by simp; omega
  go_enter Try.func3, Try.ntmps3
  go_wp2_with fail
  refine (drawEncodeName_any a n c w hc hnc hm).mono ?_
  rintro e w1 ⟨s, rfl, hs, hb1⟩
  have HI : Hid (∀ u, Below w.heap.size w u → Calls Try.prog 6 #[.string s] u (DecRet (encN s.data.toList) u)) := fun u hu => encodeName_any s u (mx_belowN hmx hu) (by omega)
  have HS := Lib.hid (fun u => encodeNameS_any s u (by omega))
  have HNB : Hid (∀ u, Below w.heap.size w u → Calls Try.prog 8 #[.string s] u fun e w' => e = .returned (.bool (needs s.data.toList)) ∧ u = w') := fun u hu => needsCode_any s u (mx_belowN hmx hu) (by omega)
  cases ho : encN s.data.toList with
  | none =>
    rw [ho] at HI HS
    clear ho
    go_wp2_with fail
    refine (HI.out _ hb1).mono ?_
    rintro e w2 ⟨rfl, hb2⟩
    go_wp2_with fail
    refine (HS.out _).mono ?_
    rintro e w3 ⟨rfl, hb3⟩
    go_wp2
    go_ret
    exact ⟨rfl, nx (nx hb1 hb2) hb3⟩
  | some t =>
    have htz := str_size t
    have ht560 := encN_size ho
    have hee : ((str t).toList == (str t).toList) = true := by simp
    have hne : ((str t).toList != (str t).toList) = false := by simp
    rw [ho] at HI HS
    cases hnd : needs s.data.toList
    · rw [hnd] at HNB
      clear ho hnd
      go_wp2_with fail
      refine (HI.out _ hb1).mono ?_
      rintro e w2 ⟨rfl, hb2⟩
      go_wp2_with fail
      refine (HS.out _).mono ?_
      rintro e w3 ⟨rfl, hb3⟩
      go_wp2_with fail
      refine (HNB.out _ (nx (nx hb1 hb2) hb3)).mono ?_
      rintro e w4 ⟨rfl, rfl⟩
      go_wp2
      go_ret
      exact ⟨rfl, nx (nx hb1 hb2) hb3⟩
    · rw [hnd] at HNB
      obtain ⟨hok, h13, ht2, hd2⟩ := coded_text ho hnd
      have HOK := Lib.hid (fun k hk => str_all hok k hk)
      have HX1 : Hid (((str t).extract 0 2).toList == [61, 63]) := by show _ = true; rw [ByteArray.toList_eq, Lib.extract_data, str_list, List.drop_zero, ht2]; rfl
      have HX2 : Hid (((str t).extract ((str t).size - 2) (str t).size).toList == [63, 61]) := by
        show _ = true
        rw [ByteArray.toList_eq, Lib.extract_data, str_list, htz, hd2]; rw [show t.length - (t.length - 2) = 2 by omega]; rfl
      clear ho hnd hok ht2 hd2
      have hq13 : 13 ≤ (str t).size := by omega
      have hq560 : (str t).size ≤ 560 := by omega
      have HTG : Hid (str ((some t).getD []) = str t) := rfl
      go_wp2_with fail
      refine (HI.out _ hb1).mono ?_
      rintro e w2 ⟨rfl, hb2⟩
      rw [HTG.out]
      go_wp2_with fail
      refine (HS.out _).mono ?_
      rintro e w3 ⟨rfl, hb3⟩
      rw [HTG.out]
      clear htz HI HS
      generalize str t = q at *
      have HB3 := Lib.hid (nx (nx hb1 hb2) hb3)
      go_wp2_with fail
      refine (HNB.out _ HB3.out).mono ?_
      rintro e w4 ⟨rfl, rfl⟩
      go_wp2_with fail
      go_loop [8] (fun i => ∃ k : Nat, k ≤ q.size ∧ i = .int .i64 k) (fun i => q.size - (intOf i).toNat)
      case atStart => exact ⟨0, by omega, rfl⟩
      case round =>
        obtain ⟨k, hk, rfl⟩ := hrel
        by_cases hlt : k < q.size
        · obtain ⟨h1, h2⟩ := okB_t (HOK.out k hlt)
          go_wp2
          go_round
          case rel => exact ⟨k + 1, by omega, by go_num⟩
          case measure => simp [intOf]; omega
        · have e1 := HX1.out
          have e2 := HX2.out
          have b2 : (0 : Int) ≤ (q.size : Int) - 2 := by omega
          have b3 : (2 : Int) ≤ (q.size : Int) := by omega
          have b4 : ((q.size : Int) - 2).toNat = q.size - 2 := by omega
          go_wp2
          go_ret
          exact ⟨rfl, HB3.out⟩
set_option maxRecDepth 100000 in
theorem fnNameText_lifted (os : Os) (started : os.Started) (H : Type) (enc : TypeId × Value → H) :
    ReturnsInHanded {} Try.checked os 3 .any (Rows.fnNameTextSpec.pre6 enc Try.prog Try.f3 Rows.fnNameTextRow.domain false) (Rows.fnNameTextSpec.post enc Try.prog Try.f3 false true false false) := by
  refine returnsInHanded_of_change_shaped (C := Try.checked) own started (by kernel_rfl) Try.func3
    (ChangeSpec.witness6 (enc := enc) (C := Try.checked) false ⟨#[], #[.slice none 0 0], []⟩ 8 (by kernel_rfl) (by kernel_rfl) (by kernel_rfl) (by kernel_rfl)) ?_
  intro W base args ds gs before hval0 hW hcnd _ hsh _
  have hval : ∀ (j : Nat) t v, Try.f3.params[j]? = some t → args[j]? = some v → Value.okWide Try.prog W .any base t v := hval0
  have hW' := hW
  obtain ⟨p, q, hA0, hV, rfl, hfz, hnd⟩ := hW
  have hA : DataW.TrodAll enc Try.prog W 0 (fun _ => true) true Try.f3.params.toList args.toList ds p := hA0
  rw [Try.params3] at hA hval
  obtain ⟨v0, vs0, d0, ds0, p0, q0, hargs, rfl, rfl, h0, r0⟩ := trodAll_cons hA
  obtain ⟨rfl, rfl, rfl⟩ := trodAll_nil r0
  obtain rfl : args = #[v0] := by cases args; simp_all
  obtain ⟨rfl, rfl⟩ := trodVars_none hV
  obtain ⟨a0, n0, c0, rfl⟩ := okWide_slice Try.underlying22 (hval 0 22 v0 rfl rfl)
  have k0 := h0
  have lt0 : ∀ x ∈ p0, x.block < W.heap.size := by obtain ⟨m, hm⟩ := k0; exact DataW.trod_lt m _ _ _ hm
  obtain ⟨w0, x0, y0⟩ := code_of_trod Try.underlying22 Try.underlying5 (by kernel_rfl) h0
  clear hA0 hval0
  refine (fnNameText_walk a0 n0 c0 W (mx_of_shaped hsh) w0 x0 y0).mono fun e W' ⟨he, bel⟩ => ?_
  subst he
  exact ⟨_, rfl, _, _, _, [], _, [], hW', trodAll_mk1 (shut_bool Try.underlying4 _), (trodAll_cons_mk (Below.trod laidOut (by kernel_rfl) (of_decide_eq_true (by kernel_rfl)) k0 bel lt0) trodAll_mk0), rfl, bel.frame _, fun h => by cases h⟩
/-- FnNameText: THE STATEMENT. -/
theorem fnNameText_holds : Rows.FnNameTextSaid :=
  OpenClaim.holds_of_wide 3 Try.f3 rfl rfl rfl rfl rfl rfl rfl ⟨rfl, rfl, rfl, rfl, rfl⟩ rfl rfl rfl rfl rfl (by kernel_rfl) Try.func3 (by kernel_rfl)
    (of_decide_eq_true (by kernel_rfl)) (by unfold Func.isWrapper; first | (rw [if_pos (by decide +kernel)]; kernel_rfl) | (rw [if_neg (by decide +kernel)]; exact ⟨rfl, rfl⟩))
    (fun os started H enc _ => fnNameText_lifted os started H enc)
end Go.Proofs.Ytboopbjdehdhgaa
