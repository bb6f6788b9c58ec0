/-
  The laws of chapter 9 on ends of lines and sizes: each law's walk. For every input of the law: it returns true, and the input reads as it did. Conditions: none but the statement's own.
-/
import Derived.Test.YtnlnkcjphioehaaLaw0
import Derived.Test.YtnlnkcjphioehaaDrLin
namespace Go.Proofs.Ytnlnkcjphioehaa
open Go.ChangeShapes Go.WideShapes Go.ChangeAt Go.RowKit
open Go.ChangeMaps (open_string shut_string)

theorem sel_t (s : ByteArray) : (s.toList == s.toList) = true := by simp
theorem sel_f (s : ByteArray) : (s.toList != s.toList) = false := by simp
set_option maxRecDepth 100000 in
set_option maxHeartbeats 1000000 in
theorem fnNormalText_walk (a : Option Addr) (n c : Nat) (w : World) (hc : Code w a n) (hnc : n ≤ c) (hm : c ≤ maxLen) :
    Calls Try.prog 5 #[.slice a n c] w fun e w' => e = .returned (.bool true) ∧ Below w.heap.size w w' := by
  have hm' := hm
  unfold maxLen at hm'
  by_cases hn : 1048576 < n
  · have hd : decide ((1048576 : Int) < n) = true := by simp; omega
    go_enter Try.func5, Try.ntmps5
    go_wp2
    go_ret
    exact ⟨rfl, Below.refl _ _⟩
  have hd : decide ((1048576 : Int) < n) = false := by simp; omega
  go_enter Try.func5, Try.ntmps5
  go_wp2_with fail
  refine (drawNormalText_any a n c w hc hnc hm).mono ?_
  rintro e w1 ⟨s, rfl, hs, hb1⟩
  have HI := Lib.hid (fun u => normalText_any s u (by omega))
  have HS := Lib.hid (fun u => normalTextS_any s u (by omega))
  have HC := Lib.hid (fun u => countBare_any s u (by omega))
  have hlen := norm_len s.data.toList false
  have hcl := cnt_le s.data.toList false
  rw [size_list] at hlen hcl
  have hz : (str (normG false s.data.toList)).size = s.size + cntG false s.data.toList := by rw [str_size, hlen]
  have HI2 := Lib.hid (fun u => normalText_any (str (normG false s.data.toList)) u (by omega))
  have HC2 := Lib.hid (fun u => countBare_any (str (normG false s.data.toList)) u (by omega))
  rw [str_list, norm_same _ _ (cnt_norm0 _)] at HI2
  rw [str_list, cnt_norm0] at HC2
  have e1 := sel_f (str (normG false s.data.toList))
  have e2 := sel_t (str (normG false s.data.toList))
  have e3 : (((str (normG false s.data.toList)).size : Int) == (s.size : Int) + (cntG false s.data.toList : Nat)) = true := by simp; omega
  clear hlen hz
  generalize str (normG false s.data.toList) = X at *
  generalize cntG false s.data.toList = m at *
  go_wp2_with fail
  refine (HI.out _).mono ?_
  rintro e w2 ⟨rfl, hb2⟩
  go_wp2_with fail
  refine (HS.out _).mono ?_
  rintro e w3 ⟨rfl, hb3⟩
  go_wp2_with fail
  refine (HC2.out _).mono ?_
  rintro e w4 ⟨rfl, rfl⟩
  go_wp2_with fail
  refine (HI2.out _).mono ?_
  rintro e w4 ⟨rfl, hb4⟩
  go_wp2_with fail
  refine (HC.out _).mono ?_
  rintro e w5 ⟨rfl, rfl⟩
  go_wp2
  go_ret
  exact ⟨rfl, nx (nx (nx hb1 hb2) hb3) hb4⟩
set_option maxRecDepth 100000 in
theorem fnNormalText_lifted (os : Os) (started : os.Started) (H : Type) (enc : TypeId × Value → H) :
    ReturnsInHanded {} Try.checked os 5 .any (Rows.fnNormalTextSpec.pre6 enc Try.prog Try.f5 Rows.fnNormalTextRow.domain false) (Rows.fnNormalTextSpec.post enc Try.prog Try.f5 false true false false) := by
  refine returnsInHanded_of_change (C := Try.checked) own started (by kernel_rfl) Try.func5
    (ChangeSpec.witness6 (enc := enc) (C := Try.checked) false ⟨#[], #[.slice none 0 0], []⟩ 8 (by kernel_rfl) (by kernel_rfl) (by kernel_rfl) (by kernel_rfl)) ?_
  intro W base args ds gs before hval0 hW hcnd _
  have hval : ∀ (j : Nat) t v, Try.f5.params[j]? = some t → args[j]? = some v → Value.okWide Try.prog W .any base t v := hval0
  have hW' := hW
  obtain ⟨p, q, hA0, hV, rfl, hfz, hnd⟩ := hW
  have hA : DataW.TrodAll enc Try.prog W 0 (fun _ => true) true Try.f5.params.toList args.toList ds p := hA0
  rw [Try.params5] at hA hval
  obtain ⟨v0, vs0, d0, ds0, p0, q0, hargs, rfl, rfl, h0, r0⟩ := trodAll_cons hA
  obtain ⟨rfl, rfl, rfl⟩ := trodAll_nil r0
  obtain rfl : args = #[v0] := by cases args; simp_all
  obtain ⟨rfl, rfl⟩ := trodVars_none hV
  obtain ⟨a0, n0, c0, rfl⟩ := okWide_slice Try.underlying22 (hval 0 22 v0 rfl rfl)
  have k0 := h0
  have lt0 : ∀ x ∈ p0, x.block < W.heap.size := by obtain ⟨m, hm⟩ := k0; exact DataW.trod_lt m _ _ _ hm
  obtain ⟨w0, x0, y0⟩ := code_of_trod Try.underlying22 Try.underlying5 (by kernel_rfl) h0
  clear hA0 hval0
  refine (fnNormalText_walk a0 n0 c0 W w0 x0 y0).mono fun e W' ⟨he, bel⟩ => ?_
  subst he
  exact ⟨_, rfl, _, _, _, [], _, [], hW', trodAll_mk1 (shut_bool Try.underlying4 _), (trodAll_cons_mk (Below.trod laidOut (by kernel_rfl) (of_decide_eq_true (by kernel_rfl)) k0 bel lt0) trodAll_mk0), rfl, bel.frame _, fun h => by cases h⟩
/-- FnNormalText: THE STATEMENT. -/
theorem fnNormalText_holds : Rows.FnNormalTextSaid :=
  OpenClaim.holds_of_wide 5 Try.f5 rfl rfl rfl rfl rfl rfl rfl ⟨rfl, rfl, rfl, rfl, rfl⟩ rfl rfl rfl rfl rfl (by kernel_rfl) Try.func5 (by kernel_rfl)
    (of_decide_eq_true (by kernel_rfl)) (by unfold Func.isWrapper; first | (rw [if_pos (by decide +kernel)]; kernel_rfl) | (rw [if_neg (by decide +kernel)]; exact ⟨rfl, rfl⟩))
    (fun os started H enc _ => fnNormalText_lifted os started H enc)
set_option maxRecDepth 100000 in
set_option maxHeartbeats 1000000 in
theorem fnCountBare_walk (a : Option Addr) (n c : Nat) (w : World) (hc : Code w a n) (hnc : n ≤ c) (hm : c ≤ maxLen) :
    Calls Try.prog 6 #[.slice a n c] w fun e w' => e = .returned (.bool true) ∧ Below w.heap.size w w' := by
  have hm' := hm
  unfold maxLen at hm'
  by_cases hn : 1048576 < n
  · have hd : decide ((1048576 : Int) < n) = true := by simp; omega
    go_enter Try.func6, Try.ntmps6
    go_wp2
    go_ret
    exact ⟨rfl, Below.refl _ _⟩
  have hd : decide ((1048576 : Int) < n) = false := by simp; omega
  go_enter Try.func6, Try.ntmps6
  go_wp2_with fail
  refine (drawCountBare_any a n c w hc hnc hm).mono ?_
  rintro e w1 ⟨s, rfl, hs, hb1⟩
  have HI := Lib.hid (fun u => normalText_any s u (by omega))
  have HS := Lib.hid (fun u => countBareS_any s u (by omega))
  have HC := Lib.hid (fun u => countBare_any s u (by omega))
  have hcl := cnt_le s.data.toList false
  rw [size_list] at hcl
  have hiff := norm_iff s.data.toList
  by_cases h0 : cntG false s.data.toList = 0
  · have e1 : ((str (normG false s.data.toList)).toList == s.toList) = true := by rw [str_beq, decide_eq_true (hiff.1 h0)]
    rw [h0] at HS HC
    clear hiff h0 hcl
    generalize str (normG false s.data.toList) = X at *
    go_wp2_with fail
    refine (HC.out _).mono ?_
    rintro e w2 ⟨rfl, rfl⟩
    go_wp2_with fail
    refine (HS.out _).mono ?_
    rintro e w2 ⟨rfl, rfl⟩
    go_wp2_with fail
    refine (HI.out _).mono ?_
    rintro e w3 ⟨rfl, hb3⟩
    go_wp2
    go_ret
    exact ⟨rfl, nx hb1 hb3⟩
  · have e1 : ((str (normG false s.data.toList)).toList == s.toList) = false := by rw [str_beq, decide_eq_false (fun e => h0 (hiff.2 e))]
    have e2 : ((cntG false s.data.toList : Int) == 0) = false := by simp; omega
    have e3 : decide ((0 : Int) ≤ (cntG false s.data.toList : Int)) = true := by simp
    have e4 : decide ((cntG false s.data.toList : Int) ≤ (s.size : Int)) = true := by simp; omega
    clear hiff h0
    generalize str (normG false s.data.toList) = X at *
    generalize cntG false s.data.toList = m at *
    go_wp2_with fail
    refine (HC.out _).mono ?_
    rintro e w2 ⟨rfl, rfl⟩
    go_wp2_with fail
    refine (HS.out _).mono ?_
    rintro e w2 ⟨rfl, rfl⟩
    go_wp2_with fail
    refine (HI.out _).mono ?_
    rintro e w3 ⟨rfl, hb3⟩
    go_wp2
    go_ret
    exact ⟨rfl, nx hb1 hb3⟩
set_option maxRecDepth 100000 in
theorem fnCountBare_lifted (os : Os) (started : os.Started) (H : Type) (enc : TypeId × Value → H) :
    ReturnsInHanded {} Try.checked os 6 .any (Rows.fnCountBareSpec.pre6 enc Try.prog Try.f6 Rows.fnCountBareRow.domain false) (Rows.fnCountBareSpec.post enc Try.prog Try.f6 false true false false) := by
  refine returnsInHanded_of_change (C := Try.checked) own started (by kernel_rfl) Try.func6
    (ChangeSpec.witness6 (enc := enc) (C := Try.checked) false ⟨#[], #[.slice none 0 0], []⟩ 8 (by kernel_rfl) (by kernel_rfl) (by kernel_rfl) (by kernel_rfl)) ?_
  intro W base args ds gs before hval0 hW hcnd _
  have hval : ∀ (j : Nat) t v, Try.f6.params[j]? = some t → args[j]? = some v → Value.okWide Try.prog W .any base t v := hval0
  have hW' := hW
  obtain ⟨p, q, hA0, hV, rfl, hfz, hnd⟩ := hW
  have hA : DataW.TrodAll enc Try.prog W 0 (fun _ => true) true Try.f6.params.toList args.toList ds p := hA0
  rw [Try.params6] at hA hval
  obtain ⟨v0, vs0, d0, ds0, p0, q0, hargs, rfl, rfl, h0, r0⟩ := trodAll_cons hA
  obtain ⟨rfl, rfl, rfl⟩ := trodAll_nil r0
  obtain rfl : args = #[v0] := by cases args; simp_all
  obtain ⟨rfl, rfl⟩ := trodVars_none hV
  obtain ⟨a0, n0, c0, rfl⟩ := okWide_slice Try.underlying22 (hval 0 22 v0 rfl rfl)
  have k0 := h0
  have lt0 : ∀ x ∈ p0, x.block < W.heap.size := by obtain ⟨m, hm⟩ := k0; exact DataW.trod_lt m _ _ _ hm
  obtain ⟨w0, x0, y0⟩ := code_of_trod Try.underlying22 Try.underlying5 (by kernel_rfl) h0
  clear hA0 hval0
  refine (fnCountBare_walk a0 n0 c0 W w0 x0 y0).mono fun e W' ⟨he, bel⟩ => ?_
  subst he
  exact ⟨_, rfl, _, _, _, [], _, [], hW', trodAll_mk1 (shut_bool Try.underlying4 _), (trodAll_cons_mk (Below.trod laidOut (by kernel_rfl) (of_decide_eq_true (by kernel_rfl)) k0 bel lt0) trodAll_mk0), rfl, bel.frame _, fun h => by cases h⟩
/-- FnCountBare: THE STATEMENT. -/
theorem fnCountBare_holds : Rows.FnCountBareSaid :=
  OpenClaim.holds_of_wide 6 Try.f6 rfl rfl rfl rfl rfl rfl rfl ⟨rfl, rfl, rfl, rfl, rfl⟩ rfl rfl rfl rfl rfl (by kernel_rfl) Try.func6 (by kernel_rfl)
    (of_decide_eq_true (by kernel_rfl)) (by unfold Func.isWrapper; first | (rw [if_pos (by decide +kernel)]; kernel_rfl) | (rw [if_neg (by decide +kernel)]; exact ⟨rfl, rfl⟩))
    (fun os started H enc _ => fnCountBare_lifted os started H enc)
set_option maxRecDepth 100000 in
set_option maxHeartbeats 1000000 in
theorem fnNormalJoin_walk (a : Option Addr) (n c : Nat) (w : World) (hc : Code w a n) (hnc : n ≤ c) (hm : c ≤ maxLen) :
    Calls Try.prog 12 #[.slice a n c] w fun e w' => e = .returned (.bool true) ∧ Below w.heap.size w w' := by
  have hm' := hm
  unfold maxLen at hm'
  by_cases hn : 1048576 < n
  · have hd : decide ((1048576 : Int) < n) = true := by simp; omega
    go_enter Try.func12, Try.ntmps12
    go_wp2
    go_ret
    exact ⟨rfl, Below.refl _ _⟩
  have hd : decide ((1048576 : Int) < n) = false := by simp; omega
  go_enter Try.func12, Try.ntmps12
  go_wp2_with fail
  refine (drawNormalText_any a n c w hc hnc hm).mono ?_
  rintro e w1 ⟨s, rfl, hs, hb1⟩
  have z1 : (ByteArray.mk #[97]).size = 1 := rfl
  have z2 : (ByteArray.mk #[98]).size = 1 := rfl
  have HI := Lib.hid (fun u => normalText_any s u (by omega))
  have HS := Lib.hid (fun u => normalTextS_any s u (by omega))
  have hlen := norm_len s.data.toList false
  have hcl := cnt_le s.data.toList false
  rw [size_list] at hlen hcl
  have hz : (str (normG false s.data.toList)).size ≤ 36 := by rw [str_size, hlen]; omega
  have hab : (ByteArray.mk #[97] ++ s ++ ByteArray.mk #[98]).data.toList = 97 :: (s.data.toList ++ [98]) := by rw [Joins.data_append, Joins.data_append]; rfl
  have hax : (ByteArray.mk #[97] ++ str (normG false s.data.toList) ++ ByteArray.mk #[98]).data.toList = 97 :: (normG false s.data.toList ++ [98]) := by rw [Joins.data_append, Joins.data_append, str_list]; rfl
  have HY := Lib.hid (fun u => normalText_any (ByteArray.mk #[97] ++ s ++ ByteArray.mk #[98]) u (by simp [ByteArray.size_append]; omega))
  have hy : str (normG false (ByteArray.mk #[97] ++ s ++ ByteArray.mk #[98]).data.toList) = ByteArray.mk #[97] ++ str (normG false s.data.toList) ++ ByteArray.mk #[98] := by
    apply bytes_ext; rw [str_list, hab, hax, norm_join]
  have hzy : (ByteArray.mk #[97] ++ str (normG false s.data.toList) ++ ByteArray.mk #[98]).size ≤ 38 := by simp [ByteArray.size_append]; omega
  have hzx : (str (normG false s.data.toList) ++ (ByteArray.mk #[97] ++ str (normG false s.data.toList) ++ ByteArray.mk #[98])).size ≤ 80 := by rw [ByteArray.size_append]; omega
  have hxy : (str (normG false s.data.toList) ++ (ByteArray.mk #[97] ++ str (normG false s.data.toList) ++ ByteArray.mk #[98])).data.toList = normG false s.data.toList ++ 97 :: (normG false s.data.toList ++ [98]) := by rw [Joins.data_append, hax, str_list]
  have HC := Lib.hid (fun u => countBare_any (str (normG false s.data.toList) ++ (ByteArray.mk #[97] ++ str (normG false s.data.toList) ++ ByteArray.mk #[98])) u (by omega))
  have HN := Lib.hid (fun u => normalText_any (str (normG false s.data.toList) ++ (ByteArray.mk #[97] ++ str (normG false s.data.toList) ++ ByteArray.mk #[98])) u (by omega))
  have hn2 : str (normG false (str (normG false s.data.toList) ++ (ByteArray.mk #[97] ++ str (normG false s.data.toList) ++ ByteArray.mk #[98])).data.toList) = str (normG false s.data.toList) ++ (ByteArray.mk #[97] ++ str (normG false s.data.toList) ++ ByteArray.mk #[98]) := by
    apply bytes_ext; rw [str_list, hxy, norm_same _ _ (cnt_join _)]
  rw [hy] at HY
  rw [hn2] at HN
  rw [hxy, cnt_join] at HC
  have e1 := sel_f (str (normG false s.data.toList))
  clear hab hax hy hxy hn2 hlen
  generalize str (normG false s.data.toList) = X at *
  generalize hYY : ByteArray.mk #[97] ++ X ++ ByteArray.mk #[98] = Y at *
  have HYY := Lib.hid hYY
  have e2 : (Y.toList == (ByteArray.mk #[97] ++ X ++ ByteArray.mk #[98]).toList) = true := by rw [hYY]; simp
  have e3 := sel_t (X ++ Y)
  clear hYY hzx
  go_wp2_with fail
  refine (HI.out _).mono ?_
  rintro e w2 ⟨rfl, hb2⟩
  go_wp2_with fail
  refine (HS.out _).mono ?_
  rintro e w3 ⟨rfl, hb3⟩
  go_wp2_with fail
  refine (HY.out _).mono ?_
  rintro e w4 ⟨rfl, hb4⟩
  go_wp2_with fail
  refine (HC.out _).mono ?_
  rintro e w5 ⟨rfl, rfl⟩
  go_wp2_with fail
  refine (HN.out _).mono ?_
  rintro e w5 ⟨rfl, hb5⟩
  go_wp2
  go_ret
  exact ⟨rfl, nx (nx (nx (nx hb1 hb2) hb3) hb4) hb5⟩
set_option maxRecDepth 100000 in
theorem fnNormalJoin_lifted (os : Os) (started : os.Started) (H : Type) (enc : TypeId × Value → H) :
    ReturnsInHanded {} Try.checked os 12 .any (Rows.fnNormalJoinSpec.pre6 enc Try.prog Try.f12 Rows.fnNormalJoinRow.domain false) (Rows.fnNormalJoinSpec.post enc Try.prog Try.f12 false true false false) := by
  refine returnsInHanded_of_change (C := Try.checked) own started (by kernel_rfl) Try.func12
    (ChangeSpec.witness6 (enc := enc) (C := Try.checked) false ⟨#[], #[.slice none 0 0], []⟩ 8 (by kernel_rfl) (by kernel_rfl) (by kernel_rfl) (by kernel_rfl)) ?_
  intro W base args ds gs before hval0 hW hcnd _
  have hval : ∀ (j : Nat) t v, Try.f12.params[j]? = some t → args[j]? = some v → Value.okWide Try.prog W .any base t v := hval0
  have hW' := hW
  obtain ⟨p, q, hA0, hV, rfl, hfz, hnd⟩ := hW
  have hA : DataW.TrodAll enc Try.prog W 0 (fun _ => true) true Try.f12.params.toList args.toList ds p := hA0
  rw [Try.params12] at hA hval
  obtain ⟨v0, vs0, d0, ds0, p0, q0, hargs, rfl, rfl, h0, r0⟩ := trodAll_cons hA
  obtain ⟨rfl, rfl, rfl⟩ := trodAll_nil r0
  obtain rfl : args = #[v0] := by cases args; simp_all
  obtain ⟨rfl, rfl⟩ := trodVars_none hV
  obtain ⟨a0, n0, c0, rfl⟩ := okWide_slice Try.underlying22 (hval 0 22 v0 rfl rfl)
  have k0 := h0
  have lt0 : ∀ x ∈ p0, x.block < W.heap.size := by obtain ⟨m, hm⟩ := k0; exact DataW.trod_lt m _ _ _ hm
  obtain ⟨w0, x0, y0⟩ := code_of_trod Try.underlying22 Try.underlying5 (by kernel_rfl) h0
  clear hA0 hval0
  refine (fnNormalJoin_walk a0 n0 c0 W w0 x0 y0).mono fun e W' ⟨he, bel⟩ => ?_
  subst he
  exact ⟨_, rfl, _, _, _, [], _, [], hW', trodAll_mk1 (shut_bool Try.underlying4 _), (trodAll_cons_mk (Below.trod laidOut (by kernel_rfl) (of_decide_eq_true (by kernel_rfl)) k0 bel lt0) trodAll_mk0), rfl, bel.frame _, fun h => by cases h⟩
/-- FnNormalJoin: THE STATEMENT. -/
theorem fnNormalJoin_holds : Rows.FnNormalJoinSaid :=
  OpenClaim.holds_of_wide 12 Try.f12 rfl rfl rfl rfl rfl rfl rfl ⟨rfl, rfl, rfl, rfl, rfl⟩ rfl rfl rfl rfl rfl (by kernel_rfl) Try.func12 (by kernel_rfl)
    (of_decide_eq_true (by kernel_rfl)) (by unfold Func.isWrapper; first | (rw [if_pos (by decide +kernel)]; kernel_rfl) | (rw [if_neg (by decide +kernel)]; exact ⟨rfl, rfl⟩))
    (fun os started H enc _ => fnNormalJoin_lifted os started H enc)
set_option maxRecDepth 100000 in
set_option maxHeartbeats 1000000 in
theorem fnBareParts_walk (a : Option Addr) (n c : Nat) (w : World) (hc : Code w a n) (hnc : n ≤ c) (hm : c ≤ maxLen) :
    Calls Try.prog 13 #[.slice a n c] w fun e w' => e = .returned (.bool true) ∧ Below w.heap.size w w' := by
  have hm' := hm
  unfold maxLen at hm'
  by_cases hn : 1048576 < n
  · have hd : decide ((1048576 : Int) < n) = true := by simp; omega
    go_enter Try.func13, Try.ntmps13
    go_wp2
    go_ret
    exact ⟨rfl, Below.refl _ _⟩
  have hd : decide ((1048576 : Int) < n) = false := by simp; omega
  go_enter Try.func13, Try.ntmps13
  go_wp2_with fail
  refine (drawCountBare_any a n c w hc hnc hm).mono ?_
  rintro e w1 ⟨s, rfl, hs, hb1⟩
  have z1 : (ByteArray.mk #[120]).size = 1 := rfl
  have HC := Lib.hid (fun u => countBare_any s u (by omega))
  have HS := Lib.hid (fun u => countBareS_any s u (by omega))
  have hcl := cnt_le s.data.toList false
  rw [size_list] at hcl
  have HT := Lib.hid (fun u => countBare_any (s ++ ByteArray.mk #[120] ++ s) u (by simp [ByteArray.size_append]; omega))
  have HX := Lib.hid (fun u => countBare_any (ByteArray.mk #[120] ++ s) u (by simp [ByteArray.size_append]; omega))
  rw [show (s ++ ByteArray.mk #[120] ++ s).data.toList = s.data.toList ++ 120 :: s.data.toList from by rw [Joins.data_append, Joins.data_append]; simp, cnt_twice] at HT
  rw [show (ByteArray.mk #[120] ++ s).data.toList = 120 :: s.data.toList from by rw [Joins.data_append]; rfl, cnt_x] at HX
  have e1 : ((cntG false s.data.toList : Int) != (cntG false s.data.toList : Int)) = false := by simp
  have e2 : (((2 * cntG false s.data.toList : Nat) : Int) == 2 * (cntG false s.data.toList : Int)) = true := by simp
  have e3 : ((cntG false s.data.toList : Int) == (cntG false s.data.toList : Int)) = true := by simp
  generalize cntG false s.data.toList = m at *
  obtain ⟨m2, hm2⟩ : ∃ m2, m2 = 2 * m := ⟨_, rfl⟩
  rw [← hm2] at HT e2
  clear hm2
  go_wp2_with fail
  refine (HC.out _).mono ?_
  rintro e w2 ⟨rfl, rfl⟩
  go_wp2_with fail
  refine (HS.out _).mono ?_
  rintro e w2 ⟨rfl, rfl⟩
  go_wp2_with fail
  refine (HT.out _).mono ?_
  rintro e w2 ⟨rfl, rfl⟩
  go_wp2_with fail
  refine (HX.out _).mono ?_
  rintro e w2 ⟨rfl, rfl⟩
  go_wp2
  go_ret
  exact ⟨rfl, hb1⟩
set_option maxRecDepth 100000 in
theorem fnBareParts_lifted (os : Os) (started : os.Started) (H : Type) (enc : TypeId × Value → H) :
    ReturnsInHanded {} Try.checked os 13 .any (Rows.fnBarePartsSpec.pre6 enc Try.prog Try.f13 Rows.fnBarePartsRow.domain false) (Rows.fnBarePartsSpec.post enc Try.prog Try.f13 false true false false) := by
  refine returnsInHanded_of_change (C := Try.checked) own started (by kernel_rfl) Try.func13
    (ChangeSpec.witness6 (enc := enc) (C := Try.checked) false ⟨#[], #[.slice none 0 0], []⟩ 8 (by kernel_rfl) (by kernel_rfl) (by kernel_rfl) (by kernel_rfl)) ?_
  intro W base args ds gs before hval0 hW hcnd _
  have hval : ∀ (j : Nat) t v, Try.f13.params[j]? = some t → args[j]? = some v → Value.okWide Try.prog W .any base t v := hval0
  have hW' := hW
  obtain ⟨p, q, hA0, hV, rfl, hfz, hnd⟩ := hW
  have hA : DataW.TrodAll enc Try.prog W 0 (fun _ => true) true Try.f13.params.toList args.toList ds p := hA0
  rw [Try.params13] at hA hval
  obtain ⟨v0, vs0, d0, ds0, p0, q0, hargs, rfl, rfl, h0, r0⟩ := trodAll_cons hA
  obtain ⟨rfl, rfl, rfl⟩ := trodAll_nil r0
  obtain rfl : args = #[v0] := by cases args; simp_all
  obtain ⟨rfl, rfl⟩ := trodVars_none hV
  obtain ⟨a0, n0, c0, rfl⟩ := okWide_slice Try.underlying22 (hval 0 22 v0 rfl rfl)
  have k0 := h0
  have lt0 : ∀ x ∈ p0, x.block < W.heap.size := by obtain ⟨m, hm⟩ := k0; exact DataW.trod_lt m _ _ _ hm
  obtain ⟨w0, x0, y0⟩ := code_of_trod Try.underlying22 Try.underlying5 (by kernel_rfl) h0
  clear hA0 hval0
  refine (fnBareParts_walk a0 n0 c0 W w0 x0 y0).mono fun e W' ⟨he, bel⟩ => ?_
  subst he
  exact ⟨_, rfl, _, _, _, [], _, [], hW', trodAll_mk1 (shut_bool Try.underlying4 _), (trodAll_cons_mk (Below.trod laidOut (by kernel_rfl) (of_decide_eq_true (by kernel_rfl)) k0 bel lt0) trodAll_mk0), rfl, bel.frame _, fun h => by cases h⟩
/-- FnBareParts: THE STATEMENT. -/
theorem fnBareParts_holds : Rows.FnBarePartsSaid :=
  OpenClaim.holds_of_wide 13 Try.f13 rfl rfl rfl rfl rfl rfl rfl ⟨rfl, rfl, rfl, rfl, rfl⟩ rfl rfl rfl rfl rfl (by kernel_rfl) Try.func13 (by kernel_rfl)
    (of_decide_eq_true (by kernel_rfl)) (by unfold Func.isWrapper; first | (rw [if_pos (by decide +kernel)]; kernel_rfl) | (rw [if_neg (by decide +kernel)]; exact ⟨rfl, rfl⟩))
    (fun os started H enc _ => fnBareParts_lifted os started H enc)
/-- The size of what is sent, line by line. -/
def sizeK (ls : List (List UInt8)) (k : Nat) : Nat := 3 + (stuB (ls.take k)).length
theorem sizeK_step {ls : List (List UInt8)} {k : Nat} (h : k < ls.length) : sizeK ls (k + 1) = sizeK ls k + (stuP ls[k]).length + 2 := by
  unfold sizeK; rw [stuB_step h]; simp; omega
theorem size_all (ls : List (List UInt8)) {k : Nat} (h : ls.length ≤ k) : sizeK ls k = (stuAll ls).length := by
  unfold sizeK; rw [stuAll_len, List.take_of_length_le h]; omega
theorem sizeK_le (ls : List (List UInt8)) (k : Nat) : sizeK ls k ≤ (stuAll ls).length := by
  unfold sizeK
  have : stuB ls = stuB (ls.take k) ++ stuB (ls.drop k) := by rw [← stuB_app, List.take_append_drop]
  rw [stuAll_len, this, List.length_append]; omega
theorem stuSize_way (X : ByteArray) : (X.size = 0 ∧ (stuP X.data.toList).length = X.size) ∨ (0 < X.size ∧ ((∃ h : 0 < X.size, X[0] = 46) ∧ (stuP X.data.toList).length = X.size + 1 ∨ (∃ h : 0 < X.size, X[0] ≠ 46) ∧ (stuP X.data.toList).length = X.size)) := by
  rcases stuP_way X with ⟨g1, g2⟩ | ⟨g1, g2, ⟨g3, g4⟩ | ⟨g3, g4⟩⟩
  · by_cases h : X.size = 0
    · exact .inl ⟨h, by rw [g2, size_list]⟩
    · rw [empty_f (by omega)] at g1; cases g1
  · exact .inr ⟨g2, .inl ⟨g3, by rw [g4, List.length_cons, size_list]⟩⟩
  · exact .inr ⟨g2, .inr ⟨g3, by rw [g4, size_list]⟩⟩
theorem last3 (ls : List (List UInt8)) : (str (stuAll ls)).extract ((stuAll ls).length - 3) (str (stuAll ls)).size = str [46, 13, 10] := by
  rw [ext_dropW, str_list]; congr 1
  unfold stuAll
  rw [List.drop_append_of_le_length (by simp)]
  simp
set_option maxRecDepth 100000 in
set_option maxHeartbeats 4000000 in
theorem fnStuffSize_walk (a : Option Addr) (n c : Nat) (w : World) (hc : Code w a n) (hnc : n ≤ c) (hm : c ≤ maxLen) :
    Calls Try.prog 8 #[.slice a n c] w fun e w' => e = .returned (.bool true) ∧ Below w.heap.size w w' := by
  have hm' := hm
  unfold maxLen at hm'
  by_cases hn : 1048576 < n
  · have hd : decide ((1048576 : Int) < n) = true := by simp; omega
    go_enter Try.func8, Try.ntmps8
    go_wp2
    go_ret
    exact ⟨rfl, Below.refl _ _⟩
  have hd : decide ((1048576 : Int) < n) = false := by simp; omega
  go_enter Try.func8, Try.ntmps8
  go_wp2_with fail
  refine (drawStuffLines_any a n c w hc hnc hm).mono ?_
  rintro e w1 ⟨v, xs, rfl, ho, hl, hx, hb1⟩
  obtain ⟨a1, c1, rfl, hr1, _⟩ := ho.read
  have HR1 := Lib.hid hr1
  have hx9 : ∀ x ∈ xs, x.length ≤ 1073741000 := fun x h => by have := hx x h; omega
  have HI := Lib.hid (fun u h => stuffLines_any a1 xs.length c1 xs u h (by omega) hx9)
  have HS := Lib.hid (fun u h => stuffLinesS_any a1 xs.length c1 xs u h (by omega) hx9)
  have HX := Lib.hid hx
  clear ho hx hx9
  cases hst : stuW xs with
  | none =>
    rw [hst] at HI HS
    clear hst hr1
    have e1 := sel_f (str ((none : Option (List UInt8)).getD []))
    have e2 := sel_t (str ((none : Option (List UInt8)).getD []))
    have HI' : Hid (∀ u, RdL u a1 xs.length xs → Calls Try.prog 16 #[.slice a1 xs.length c1] u fun e w' => e = .returned (.tuple #[.string (str ((none : Option (List UInt8)).getD [])), .bool false]) ∧ Below u.heap.size u w') := HI.out
    have HS' : Hid (∀ u, RdL u a1 xs.length xs → Calls Try.prog 17 #[.slice a1 xs.length c1] u fun e w' => e = .returned (.tuple #[.string (str ((none : Option (List UInt8)).getD [])), .bool false]) ∧ u = w') := HS.out
    clear HI HS
    generalize str ((none : Option (List UInt8)).getD []) = B at *
    go_wp2_with fail
    refine (HI'.out _ HR1.out).mono ?_
    rintro e w2 ⟨rfl, hb2⟩
    go_wp2_with fail
    refine (HS'.out _ (HR1.out.below hb2)).mono ?_
    rintro e w3 ⟨rfl, rfl⟩
    go_wp2
    go_ret
    exact ⟨rfl, nx hb1 hb2⟩
  | some S =>
    obtain ⟨rfl, ht, hsl⟩ := stuW_some hst
    rw [hst] at HI HS
    have e1 := sel_f (str (stuAll xs))
    have HI' : Hid (∀ u, RdL u a1 xs.length xs → Calls Try.prog 16 #[.slice a1 xs.length c1] u fun e w' => e = .returned (.tuple #[.string (str (stuAll xs)), .bool true]) ∧ Below u.heap.size u w') := HI.out
    have HS' : Hid (∀ u, RdL u a1 xs.length xs → Calls Try.prog 17 #[.slice a1 xs.length c1] u fun e w' => e = .returned (.tuple #[.string (str (stuAll xs)), .bool true]) ∧ u = w') := HS.out
    have hz : (str (stuAll xs)).size = (stuAll xs).length := str_size _
    have HK := Lib.hid (sizeK_le xs)
    have HSA : Hid (∀ k, xs.length ≤ k → sizeK xs k = (stuAll xs).length) := fun k h => size_all xs h
    have HSK := Lib.hid (fun k (h : k < xs.length) => sizeK_step h)
    have HL3 := Lib.hid (last3 xs)
    have hge : 3 ≤ (stuAll xs).length := by rw [stuAll_len]; omega
    have HR := Lib.hid hr1.2
    have HK0 : Hid (sizeK xs 0 = 3) := by show _ = _; simp [sizeK, stuB]
    clear HI HS hst ht hr1
    generalize hBB : str (stuAll xs) = B at *
    clear hBB
    obtain ⟨N, hN⟩ : ∃ N, N = (stuAll xs).length := ⟨_, rfl⟩
    rw [← hN] at hz HK HL3 hge hsl
    have HN : Hid (∀ k, xs.length ≤ k → sizeK xs k = N) := fun k h => by rw [hN]; exact HSA.out k h
    clear HSA hN
    have hz' : B.size ≤ 2000 := by omega
    have HZ := Lib.hid hz
    obtain ⟨q3, hq3⟩ : ∃ q3 : Nat, q3 + 3 = B.size := ⟨B.size - 3, by omega⟩
    have hqi : (B.size : Int) - 3 = (q3 : Int) := by omega
    have hql : (q3 : Int) ≤ (B.size : Int) := by omega
    have e5 : ((B.extract q3 B.size).toList == [46, 13, 10]) = true := by
      have := HL3.out
      rw [show N - 3 = q3 by omega] at this
      rw [this]; decide +kernel
    go_wp2_with fail
    refine (HI'.out _ HR1.out).mono ?_
    rintro e w2 ⟨rfl, hb2⟩
    have HB2 := Lib.hid hb2
    go_wp2_with fail
    refine (HS'.out _ (HR1.out.below hb2)).mono ?_
    rintro e w3 ⟨rfl, rfl⟩
    clear hz hq3 HL3
    go_wp2_with fail
    go_loop [8, 9] (fun m i => ∃ k : Nat, k ≤ xs.length ∧ i = .int .i64 k ∧ m = .int .i64 (sizeK xs k : Nat)) (fun _ i => xs.length - (intOf i).toNat)
    case atStart => exact ⟨0, Nat.zero_le _, rfl, by rw [HK0.out]; rfl⟩
    case round =>
      obtain ⟨k, hk, rfl, rfl⟩ := hrel
      have hkk := HK.out k
      by_cases hlt : k < xs.length
      · obtain ⟨b, off, rfl, hbl, hcell⟩ := HR.out.resolve_left (by omega)
        have c0 : w2.cell? ⟨b, off + k, none⟩ = some (.string (str xs[k])) := by rw [below_at HB2.out hbl]; exact hcell k hlt
        have hxk := HX.out _ (List.getElem_mem hlt)
        have hxz : (str xs[k]).size ≤ 14 := by rw [str_size]; exact hxk
        have HST := Lib.hid (HSK.out k hlt)
        have hway := stuSize_way (str xs[k])
        rw [str_list] at hway
        clear hcell hxk
        generalize str xs[k] = X at *
        generalize (stuP xs[k]).length = q at *
        generalize sizeK xs k = K at *
        rcases hway with ⟨g1, g2⟩ | ⟨g1, ⟨⟨_, g3⟩, g4⟩ | ⟨⟨_, g3⟩, g4⟩⟩
        · have d0 : decide ((0 : Int) < (X.size : Int)) = false := decide_eq_false (by omega)
          go_wp2
          go_round
          case rel => exact ⟨k + 1, by omega, by go_num, by rw [HST.out]; go_num⟩
          case measure => simp [intOf]; omega
        · have d0 : decide ((0 : Int) < (X.size : Int)) = true := decide_eq_true (by omega)
          have e3 := beqW_t g3 (n := 46) rfl
          clear g3
          go_wp2
          go_round
          case rel => exact ⟨k + 1, by omega, by go_num, by rw [HST.out]; go_num⟩
          case measure => simp [intOf]; omega
        · have d0 : decide ((0 : Int) < (X.size : Int)) = true := decide_eq_true (by omega)
          have e3 := beqW_f g3 (n := 46) rfl
          clear g3
          go_wp2
          go_round
          case rel => exact ⟨k + 1, by omega, by go_num, by rw [HST.out]; go_num⟩
          case measure => simp [intOf]; omega
      · have HNN := HN.out k (by omega)
        rw [HNN]
        have e4 : ((B.size : Int) == (N : Int)) = true := by have := HZ.out; simp; omega
        clear hkk
        go_wp2
        go_ret
        exact ⟨rfl, nx hb1 HB2.out⟩
set_option maxRecDepth 100000 in
theorem fnStuffSize_lifted (os : Os) (started : os.Started) (H : Type) (enc : TypeId × Value → H) :
    ReturnsInHanded {} Try.checked os 8 .any (Rows.fnStuffSizeSpec.pre6 enc Try.prog Try.f8 Rows.fnStuffSizeRow.domain false) (Rows.fnStuffSizeSpec.post enc Try.prog Try.f8 false true false false) := by
  refine returnsInHanded_of_change (C := Try.checked) own started (by kernel_rfl) Try.func8
    (ChangeSpec.witness6 (enc := enc) (C := Try.checked) false ⟨#[], #[.slice none 0 0], []⟩ 8 (by kernel_rfl) (by kernel_rfl) (by kernel_rfl) (by kernel_rfl)) ?_
  intro W base args ds gs before hval0 hW hcnd _
  have hval : ∀ (j : Nat) t v, Try.f8.params[j]? = some t → args[j]? = some v → Value.okWide Try.prog W .any base t v := hval0
  have hW' := hW
  obtain ⟨p, q, hA0, hV, rfl, hfz, hnd⟩ := hW
  have hA : DataW.TrodAll enc Try.prog W 0 (fun _ => true) true Try.f8.params.toList args.toList ds p := hA0
  rw [Try.params8] at hA hval
  obtain ⟨v0, vs0, d0, ds0, p0, q0, hargs, rfl, rfl, h0, r0⟩ := trodAll_cons hA
  obtain ⟨rfl, rfl, rfl⟩ := trodAll_nil r0
  obtain rfl : args = #[v0] := by cases args; simp_all
  obtain ⟨rfl, rfl⟩ := trodVars_none hV
  obtain ⟨a0, n0, c0, rfl⟩ := okWide_slice Try.underlying22 (hval 0 22 v0 rfl rfl)
  have k0 := h0
  have lt0 : ∀ x ∈ p0, x.block < W.heap.size := by obtain ⟨m, hm⟩ := k0; exact DataW.trod_lt m _ _ _ hm
  obtain ⟨w0, x0, y0⟩ := code_of_trod Try.underlying22 Try.underlying5 (by kernel_rfl) h0
  clear hA0 hval0
  refine (fnStuffSize_walk a0 n0 c0 W w0 x0 y0).mono fun e W' ⟨he, bel⟩ => ?_
  subst he
  exact ⟨_, rfl, _, _, _, [], _, [], hW', trodAll_mk1 (shut_bool Try.underlying4 _), (trodAll_cons_mk (Below.trod laidOut (by kernel_rfl) (of_decide_eq_true (by kernel_rfl)) k0 bel lt0) trodAll_mk0), rfl, bel.frame _, fun h => by cases h⟩
/-- FnStuffSize: THE STATEMENT. -/
theorem fnStuffSize_holds : Rows.FnStuffSizeSaid :=
  OpenClaim.holds_of_wide 8 Try.f8 rfl rfl rfl rfl rfl rfl rfl ⟨rfl, rfl, rfl, rfl, rfl⟩ rfl rfl rfl rfl rfl (by kernel_rfl) Try.func8 (by kernel_rfl)
    (of_decide_eq_true (by kernel_rfl)) (by unfold Func.isWrapper; first | (rw [if_pos (by decide +kernel)]; kernel_rfl) | (rw [if_neg (by decide +kernel)]; exact ⟨rfl, rfl⟩))
    (fun os started H enc _ => fnStuffSize_lifted os started H enc)
end Go.Proofs.Ytnlnkcjphioehaa
