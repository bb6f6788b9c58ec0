/-
  The laws of chapter 6: each law's walk. For every input of the law: it returns true, and the input reads as it did. Conditions: none but the statement's own.
-/
import Derived.Test.YtboopbjdehdhgabLaw0n
import Derived.Test.YtboopbjdehdhgabNamN
import Derived.Test.YtboopbjdehdhgabNamC
namespace Go.Proofs.Ytboopbjdehdhgab
open Go.ChangeShapes Go.WideShapes Go.ChangeAt Go.RowKit
open Go.ChangeMaps (open_string shut_string)

theorem str_all {t : List UInt8} (h : ∀ x ∈ t, okB x = true) (k : Nat) (hk : k < (str t).size) : okB (str t)[k] = true := by
  rw [str_at]; exact h _ (List.getElem_mem _)
theorem codeW_sub {l t m : List UInt8} (h : codeW l = some t) (hs : ∃ a b, l = a ++ (m ++ b)) (hm : m ≠ []) : codeW m = some (wordL m) ∧ (wordL m).length ≤ t.length := by
  obtain ⟨rfl, _, h2⟩ := codeW_some h
  obtain ⟨a, b, rfl⟩ := hs
  rw [codL_app, codL_app, List.length_append, List.length_append] at h2
  refine ⟨codeW_in hm (by omega), ?_⟩
  rw [wordL_len, wordL_len, codL_app, codL_app, List.length_append, List.length_append]; omega
set_option maxRecDepth 100000 in
set_option maxHeartbeats 2000000 in
theorem fnCodeSize_walk (a : Option Addr) (n c : Nat) (w : World) (hc : Code w a n) (hnc : n ≤ c) (hm : c ≤ maxLen) :
    Calls Try.prog 3 #[.slice a n c] w fun e w' => e = .returned (.bool true) ∧ Below w.heap.size w w' := by
  have hm' := hm
  unfold maxLen at hm'
  by_cases hn : 1048576 < n
  · have hd : decide ((1048576 : Int) < n) = true := by simp; omega
    go_enter Try.func3, Try.ntmps3
    go_wp2
    go_ret
    exact ⟨rfl, Below.refl _ _⟩
  have hd : decide ((1048576 : Int) < n) = false := by simp; omega
  go_enter Try.func3, Try.ntmps3
  go_wp2_with fail
  refine (drawCodeWord_any a n c w hc hnc hm).mono ?_
  rintro e w1 ⟨s, rfl, hs, hb1⟩
  have HI := Lib.hid (fun u => codeWord_any s u (by omega))
  have HS := Lib.hid (fun u => codeWordS_any s u (by omega))
  cases ho : codeW s.data.toList with
  | none =>
    rw [ho] at HI HS
    clear ho
    go_wp2_with fail
    refine (HI.out _).mono ?_
    rintro e w2 ⟨rfl, hb2⟩
    go_wp2_with fail
    refine (HS.out _).mono ?_
    rintro e w3 ⟨rfl, hb3⟩
    go_wp2
    go_ret
    exact ⟨rfl, nx (nx hb1 hb2) hb3⟩
  | some t =>
    have HT := Lib.hid (codeW_text ho)
    have HO := Lib.hid ho
    have htz := str_size t
    have ht40 := (codeW_size ho).2.1
    have htl := (codeW_size ho).2.2
    have hcl := codL_len s.data.toList
    rw [size_list] at hcl
    have hne := (codeW_some ho).2.1
    have hs1 : 1 ≤ s.size := by rw [← size_list]; exact List.length_pos_iff.2 hne
    have HI : Hid (∀ u, Calls Try.prog 7 #[.string s] u fun e w' => e = .returned (.tuple #[.string (str t), .bool true]) ∧ Below u.heap.size u w') := fun u => by have := HI.out u; rw [ho] at this; exact this
    have HS : Hid (∀ u, Calls Try.prog 8 #[.string s] u fun e w' => e = .returned (.tuple #[.string (str t), .bool true]) ∧ Below u.heap.size u w') := fun u => by have := HS.out u; rw [ho] at this; exact this
    clear ho hne
    have HTV : Hid (∀ u, Calls Try.prog 9 #[.string (str t)] u fun e w' => e = .returned (.bool true) ∧ u = w') := fun u => by
      have := textValid_any (str t) u (by unfold maxLen; omega)
      rw [str_list, HT.out] at this; exact this
    have h1 : ((str t).size : Int) ≤ 3 * (s.size : Int) + 12 := by omega
    have h2 : (s.size : Int) + 12 ≤ ((str t).size : Int) := by omega
    have hq40 : (str t).size ≤ 40 := by omega
    clear htz htl hcl ht40
    generalize str t = q at *
    go_wp2_with fail
    refine (HI.out _).mono ?_
    rintro e w2 ⟨rfl, hb2⟩
    go_wp2_with fail
    refine (HS.out _).mono ?_
    rintro e w3 ⟨rfl, hb3⟩
    go_wp2_with fail
    refine (HTV.out _).mono ?_
    rintro e w4 ⟨rfl, rfl⟩
    go_wp2
    go_ret
    exact ⟨rfl, nx (nx hb1 hb2) hb3⟩
set_option maxRecDepth 100000 in
theorem fnCodeSize_lifted (os : Os) (started : os.Started) (H : Type) (enc : TypeId × Value → H) :
    ReturnsInHanded {} Try.checked os 3 .any (Rows.fnCodeSizeSpec.pre6 enc Try.prog Try.f3 Rows.fnCodeSizeRow.domain false) (Rows.fnCodeSizeSpec.post enc Try.prog Try.f3 false true false false) := by
  refine returnsInHanded_of_change (C := Try.checked) own started (by kernel_rfl) Try.func3
    (ChangeSpec.witness6 (enc := enc) (C := Try.checked) false ⟨#[], #[.slice none 0 0], []⟩ 8 (by kernel_rfl) (by kernel_rfl) (by kernel_rfl) (by kernel_rfl)) ?_
  intro W base args ds gs before hval0 hW hcnd _
  have hval : ∀ (j : Nat) t v, Try.f3.params[j]? = some t → args[j]? = some v → Value.okWide Try.prog W .any base t v := hval0
  have hW' := hW
  obtain ⟨p, q, hA0, hV, rfl, hfz, hnd⟩ := hW
  have hA : DataW.TrodAll enc Try.prog W 0 (fun _ => true) true Try.f3.params.toList args.toList ds p := hA0
  rw [Try.params3] at hA hval
  obtain ⟨v0, vs0, d0, ds0, p0, q0, hargs, rfl, rfl, h0, r0⟩ := trodAll_cons hA
  obtain ⟨rfl, rfl, rfl⟩ := trodAll_nil r0
  obtain rfl : args = #[v0] := by cases args; simp_all
  obtain ⟨rfl, rfl⟩ := trodVars_none hV
  obtain ⟨a0, n0, c0, rfl⟩ := okWide_slice Try.underlying22 (hval 0 22 v0 rfl rfl)
  have k0 := h0
  have lt0 : ∀ x ∈ p0, x.block < W.heap.size := by obtain ⟨m, hm⟩ := k0; exact DataW.trod_lt m _ _ _ hm
  obtain ⟨w0, x0, y0⟩ := code_of_trod Try.underlying22 Try.underlying5 (by kernel_rfl) h0
  clear hA0 hval0
  refine (fnCodeSize_walk a0 n0 c0 W w0 x0 y0).mono fun e W' ⟨he, bel⟩ => ?_
  subst he
  exact ⟨_, rfl, _, _, _, [], _, [], hW', trodAll_mk1 (shut_bool Try.underlying4 _), (trodAll_cons_mk (Below.trod laidOut (by kernel_rfl) (of_decide_eq_true (by kernel_rfl)) k0 bel lt0) trodAll_mk0), rfl, bel.frame _, fun h => by cases h⟩
/-- FnCodeSize: THE STATEMENT. -/
theorem fnCodeSize_holds : Rows.FnCodeSizeSaid :=
  OpenClaim.holds_of_wide 3 Try.f3 rfl rfl rfl rfl rfl rfl rfl ⟨rfl, rfl, rfl, rfl, rfl⟩ rfl rfl rfl rfl rfl (by kernel_rfl) Try.func3 (by kernel_rfl)
    (of_decide_eq_true (by kernel_rfl)) (by unfold Func.isWrapper; first | (rw [if_pos (by decide +kernel)]; kernel_rfl) | (rw [if_neg (by decide +kernel)]; exact ⟨rfl, rfl⟩))
    (fun os started H enc _ => fnCodeSize_lifted os started H enc)
set_option maxRecDepth 100000 in
set_option maxHeartbeats 2000000 in
theorem fnCodePart_walk (a : Option Addr) (n c : Nat) (w : World) (hc : Code w a n) (hnc : n ≤ c) (hm : c ≤ maxLen) :
    Calls Try.prog 4 #[.slice a n c] w fun e w' => e = .returned (.bool true) ∧ Below w.heap.size w w' := by
  have hm' := hm
  unfold maxLen at hm'
  by_cases hn : 1048576 < n
  · have hd : decide ((1048576 : Int) < n) = true := by simp; omega
    go_enter Try.func4, Try.ntmps4
    go_wp2
    go_ret
    exact ⟨rfl, Below.refl _ _⟩
  have hd : decide ((1048576 : Int) < n) = false := by simp; omega
  go_enter Try.func4, Try.ntmps4
  go_wp2_with fail
  refine (drawCodeWord_any a n c w hc hnc hm).mono ?_
  rintro e w1 ⟨s, rfl, hs, hb1⟩
  have HI := Lib.hid (fun u => codeWord_any s u (by omega))
  have HS := Lib.hid (fun u => codeWordS_any s u (by omega))
  cases ho : codeW s.data.toList with
  | none =>
    rw [ho] at HI HS
    clear ho
    go_wp2_with fail
    refine (HI.out _).mono ?_
    rintro e w2 ⟨rfl, hb2⟩
    go_wp2_with fail
    refine (HS.out _).mono ?_
    rintro e w3 ⟨rfl, hb3⟩
    go_wp2
    go_ret
    exact ⟨rfl, nx (nx hb1 hb2) hb3⟩
  | some t =>
    have HT := Lib.hid (codeW_text ho)
    have HO := Lib.hid ho
    have htz := str_size t
    have ht40 := (codeW_size ho).2.1
    have htl := (codeW_size ho).2.2
    have hcl := codL_len s.data.toList
    rw [size_list] at hcl
    have hne := (codeW_some ho).2.1
    have hs1 : 1 ≤ s.size := by rw [← size_list]; exact List.length_pos_iff.2 hne
    have HI : Hid (∀ u, Calls Try.prog 7 #[.string s] u fun e w' => e = .returned (.tuple #[.string (str t), .bool true]) ∧ Below u.heap.size u w') := fun u => by have := HI.out u; rw [ho] at this; exact this
    have HS : Hid (∀ u, Calls Try.prog 8 #[.string s] u fun e w' => e = .returned (.tuple #[.string (str t), .bool true]) ∧ Below u.heap.size u w') := fun u => by have := HS.out u; rw [ho] at this; exact this
    clear ho hne
    have hx1 : (s.extract 0 1).data.toList = s.data.toList.take 1 := by rw [Lib.extract_data]; simp
    have hx2 : (s.extract (s.size / 2) s.size).data.toList = s.data.toList.drop (s.size / 2) := by rw [ext_drop, str_list]
    obtain ⟨g1, g2⟩ := codeW_sub HO.out (m := s.data.toList.take 1) ⟨[], s.data.toList.drop 1, by rw [List.nil_append, List.take_append_drop]⟩ (fun e => by have := congrArg List.length e; rw [List.length_take, size_list, List.length_nil] at this; omega)
    obtain ⟨g3, g4⟩ := codeW_sub HO.out (m := s.data.toList.drop (s.size / 2)) ⟨s.data.toList.take (s.size / 2), [], by rw [List.append_nil, List.take_append_drop]⟩ (fun e => by have := congrArg List.length e; rw [List.length_drop, size_list, List.length_nil] at this; omega)
    have HI1 : Hid (∀ u, Calls Try.prog 7 #[.string (s.extract 0 1)] u fun e w' => e = .returned (.tuple #[.string (str (wordL (s.data.toList.take 1))), .bool true]) ∧ Below u.heap.size u w') := fun u => by
      have := codeWord_any (s.extract 0 1) u (by rw [ByteArray.size_extract]; omega)
      rw [hx1, g1] at this; exact this
    have HI2 : Hid (∀ u, Calls Try.prog 7 #[.string (s.extract (s.size / 2) s.size)] u fun e w' => e = .returned (.tuple #[.string (str (wordL (s.data.toList.drop (s.size / 2)))), .bool true]) ∧ Below u.heap.size u w') := fun u => by
      have := codeWord_any (s.extract (s.size / 2) s.size) u (by rw [ByteArray.size_extract]; omega)
      rw [hx2, g3] at this; exact this
    have hz1 := str_size (wordL (s.data.toList.take 1))
    have hz2 := str_size (wordL (s.data.toList.drop (s.size / 2)))
    clear hx1 hx2 g1 g3
    have k1 : ((str (wordL (s.data.toList.take 1))).size : Int) ≤ ((str t).size : Int) := by omega
    have k2 : ((str (wordL (s.data.toList.drop (s.size / 2)))).size : Int) ≤ ((str t).size : Int) := by omega
    have hq40 : (str t).size ≤ 40 := by omega
    clear htz htl hcl ht40 hz1 hz2 g2 g4
    generalize str (wordL (s.data.toList.take 1)) = x1 at *
    generalize str (wordL (s.data.toList.drop (s.size / 2))) = x2 at *
    generalize str t = q at *
    have b1 : (0 : Int) ≤ (s.size : Int) / 2 := by omega
    have b2 : (s.size : Int) / 2 ≤ s.size := by omega
    have b3 : ((s.size : Int) / 2).toNat = s.size / 2 := by omega
    go_wp2_with fail
    refine (HI.out _).mono ?_
    rintro e w2 ⟨rfl, hb2⟩
    go_wp2_with fail
    refine (HS.out _).mono ?_
    rintro e w3 ⟨rfl, hb3⟩
    go_wp2_with fail
    refine (HI1.out _).mono ?_
    rintro e w4 ⟨rfl, hb4⟩
    go_wp2_with fail
    refine (HI2.out _).mono ?_
    rintro e w5 ⟨rfl, hb5⟩
    go_wp2
    go_ret
    exact ⟨rfl, nx (nx (nx (nx hb1 hb2) hb3) hb4) hb5⟩
set_option maxRecDepth 100000 in
theorem fnCodePart_lifted (os : Os) (started : os.Started) (H : Type) (enc : TypeId × Value → H) :
    ReturnsInHanded {} Try.checked os 4 .any (Rows.fnCodePartSpec.pre6 enc Try.prog Try.f4 Rows.fnCodePartRow.domain false) (Rows.fnCodePartSpec.post enc Try.prog Try.f4 false true false false) := by
  refine returnsInHanded_of_change (C := Try.checked) own started (by kernel_rfl) Try.func4
    (ChangeSpec.witness6 (enc := enc) (C := Try.checked) false ⟨#[], #[.slice none 0 0], []⟩ 8 (by kernel_rfl) (by kernel_rfl) (by kernel_rfl) (by kernel_rfl)) ?_
  intro W base args ds gs before hval0 hW hcnd _
  have hval : ∀ (j : Nat) t v, Try.f4.params[j]? = some t → args[j]? = some v → Value.okWide Try.prog W .any base t v := hval0
  have hW' := hW
  obtain ⟨p, q, hA0, hV, rfl, hfz, hnd⟩ := hW
  have hA : DataW.TrodAll enc Try.prog W 0 (fun _ => true) true Try.f4.params.toList args.toList ds p := hA0
  rw [Try.params4] at hA hval
  obtain ⟨v0, vs0, d0, ds0, p0, q0, hargs, rfl, rfl, h0, r0⟩ := trodAll_cons hA
  obtain ⟨rfl, rfl, rfl⟩ := trodAll_nil r0
  obtain rfl : args = #[v0] := by cases args; simp_all
  obtain ⟨rfl, rfl⟩ := trodVars_none hV
  obtain ⟨a0, n0, c0, rfl⟩ := okWide_slice Try.underlying22 (hval 0 22 v0 rfl rfl)
  have k0 := h0
  have lt0 : ∀ x ∈ p0, x.block < W.heap.size := by obtain ⟨m, hm⟩ := k0; exact DataW.trod_lt m _ _ _ hm
  obtain ⟨w0, x0, y0⟩ := code_of_trod Try.underlying22 Try.underlying5 (by kernel_rfl) h0
  clear hA0 hval0
  refine (fnCodePart_walk a0 n0 c0 W w0 x0 y0).mono fun e W' ⟨he, bel⟩ => ?_
  subst he
  exact ⟨_, rfl, _, _, _, [], _, [], hW', trodAll_mk1 (shut_bool Try.underlying4 _), (trodAll_cons_mk (Below.trod laidOut (by kernel_rfl) (of_decide_eq_true (by kernel_rfl)) k0 bel lt0) trodAll_mk0), rfl, bel.frame _, fun h => by cases h⟩
/-- FnCodePart: THE STATEMENT. -/
theorem fnCodePart_holds : Rows.FnCodePartSaid :=
  OpenClaim.holds_of_wide 4 Try.f4 rfl rfl rfl rfl rfl rfl rfl ⟨rfl, rfl, rfl, rfl, rfl⟩ rfl rfl rfl rfl rfl (by kernel_rfl) Try.func4 (by kernel_rfl)
    (of_decide_eq_true (by kernel_rfl)) (by unfold Func.isWrapper; first | (rw [if_pos (by decide +kernel)]; kernel_rfl) | (rw [if_neg (by decide +kernel)]; exact ⟨rfl, rfl⟩))
    (fun os started H enc _ => fnCodePart_lifted os started H enc)
end Go.Proofs.Ytboopbjdehdhgab
