/-
  The laws of chapter 5 on letters: each law's walk. For every input of the law: it returns true, and the input reads as it did. Conditions: none but the statement's own.
-/
import Derived.Test.YtdaoeoociamdnaaLaw0c
import Derived.Test.YtdaoeoociamdnaaCodR
import Derived.Test.YtdaoeoociamdnaaDraw2
import Derived.Deep.RegionWith
namespace Go.Proofs.Ytdaoeoociamdnaa
open Go.ChangeShapes Go.WideShapes Go.ChangeAt Go.RowKit
open Go.ChangeMaps (open_string shut_string)

theorem encB_flat {b : List UInt8} {xs : List (List UInt8)} (h : encB b = some xs) : xs.flatten = b64 b ∧ b.length ≤ 300 ∧ xs = chop (b64 b) := by
  unfold encB at h
  split at h
  · injection h with h; subst h; rename_i h2; exact ⟨chop_flat _ _ (Nat.le_refl _), h2, rfl⟩
  · cases h
theorem rd_lit3 (u : World) (x y : ByteArray) (t : TypeId) : RdL (u.alloc (.cells #[.string x, .string ⟨#[]⟩, .string y] t)) (some ⟨u.heap.size, 0, none⟩) 3 [x.data.toList, [], y.data.toList] := by
  refine ⟨rfl, .inr ⟨u.heap.size, 0, rfl, by simp, fun i hi => ?_⟩⟩
  have hi' : i < 3 := hi
  rw [World.cell?_alloc_at _ _ _ _ rfl]
  rcases (by omega : i = 0 ∨ i = 1 ∨ i = 2) with rfl | rfl | rfl
  · simp [str_of]
  · rfl
  · simp [str_of]
theorem rd_lit3d (u : World) (x y : ByteArray) (t : TypeId) : RdL (u.alloc (.cells #[.string x, .string ⟨#[]⟩, .string y] t)).drew (some ⟨u.heap.size, 0, none⟩) 3 [x.data.toList, [], y.data.toList] := rd_lit3 u x y t
set_option maxRecDepth 100000 in
set_option maxHeartbeats 4000000 in
theorem fnBaseSize_walk (a : Option Addr) (n c : Nat) (w : World) (hc : Code w a n) (hnc : n ≤ c) (hm : c ≤ maxLen) :
    Calls Try.prog 4 #[.slice a n c] w fun e w' => e = .returned (.bool true) ∧ Below w.heap.size w w' := by
  have hm' := hm
  unfold maxLen at hm'
  by_cases hn : 1048576 < n
  · have hd : decide ((1048576 : Int) < n) = true := by simp; omega
    go_enter Try.func4, Try.ntmps4
    go_wp2
    go_ret
    exact ⟨rfl, Below.refl _ _⟩
  have hd : decide ((1048576 : Int) < n) = false := by simp; omega
  go_enter Try.func4, Try.ntmps4
  go_wp2_with fail
  refine (drawEncodeBase_any a n c w hc hnc hm).mono ?_
  rintro e w1 ⟨s, rfl, hs, hb1⟩
  obtain ⟨hxl, hxs⟩ := encB_small s.data.toList
  have HXS := Lib.hid hxs
  have HM : Hid (((encB s.data.toList).getD []).length ≤ maxLen) := by show _ ≤ _; unfold maxLen; omega
  clear hxs
  go_wp2_with fail
  refine (encodeBase_any s _ (by omega)).mono ?_
  rintro e w2 ⟨v2, rfl, ho2, hb2⟩
  obtain ⟨a2, c2, rfl, hr2, _⟩ := ho2.read
  have HR2 := Lib.hid hr2
  have hB2 := nx hb1 hb2
  clear hr2 ho2 hb1 hb2
  go_wp2_with fail
  refine (encodeBaseS_any s _ (by omega)).mono ?_
  rintro e w3 ⟨v3, rfl, ho3, hb3⟩
  obtain ⟨a3, c3, rfl, hr3, _⟩ := ho3.read
  have HR23 := Lib.hid (HR2.out.below hb3)
  have HR3 := Lib.hid hr3
  have hB3 := nx hB2 hb3
  clear hr3 ho3 hb3 HR2 hB2
  generalize hX : (encB s.data.toList).getD [] = xs at *
  have HX := Lib.hid hX
  clear hX
  go_wp2_with fail
  refine (mwTexts_any _ _ _ _ _ _ xs xs _ HR23.out HR3.out HM.out HM.out).mono ?_
  rintro e w4 ⟨rfl, hb4⟩
  rw [decide_eq_true (rfl : xs = xs)]
  have HR24 := Lib.hid (HR23.out.below hb4)
  have HR34 := Lib.hid (HR3.out.below hb4)
  have hB4 := nx hB3 hb4
  clear hb4 hB3 HR23 HR3
  cases ho : encB s.data.toList with
  | none =>
    clear ho
    go_wp2_with fail
    refine (mwTexts_any _ _ _ _ _ _ xs xs _ HR24.out HR34.out HM.out HM.out).mono ?_
    rintro e w5 ⟨rfl, hb5⟩
    rw [decide_eq_true (rfl : xs = xs)]
    go_wp2
    go_ret
    exact ⟨rfl, nx hB4 hb5⟩
  | some ys =>
    obtain ⟨h1, h2, h3⟩ := encB_flat ho
    have HYX : Hid (xs = ys) := by show _ = _; rw [← HX.out, ho]; rfl
    have HSM : Hid (∀ x ∈ xs, x.length ≤ 1000) := fun x hx => Nat.le_trans (HXS.out x hx) (by omega)
    have HF : Hid (xs.flatten = b64 s.data.toList) := by show _ = _; rw [HYX.out]; exact h1
    have HC : Hid (xs = chop (b64 s.data.toList)) := by show _ = _; rw [HYX.out]; exact h3
    have h300 : s.size ≤ 300 := by rw [size_list] at h2; exact h2
    clear ho h1 h2 h3 HX
    go_wp2_with fail
    have HSZ : Hid (((str xs.flatten).size : Int) = ((s.size : Int) + 2) / 3 * 4) := by show _ = _; rw [str_size, HF.out, b64_len, size_list]; omega
    refine (mwJoin_any a2 xs.length c2 xs _ HR24.out (by omega) HSM.out).mono ?_
    rintro e w5 ⟨rfl, rfl⟩
    have hq : (((str xs.flatten).size : Int) == ((s.size : Int) + 2) / 3 * 4) = true := by rw [beq_iff_eq]; exact HSZ.out
    go_wp2
    go_ret
    exact ⟨rfl, hB4⟩
set_option maxRecDepth 100000 in
theorem fnBaseSize_lifted (os : Os) (started : os.Started) (H : Type) (enc : TypeId × Value → H) :
    ReturnsInHanded {} Try.checked os 4 .any (Rows.fnBaseSizeSpec.pre6 enc Try.prog Try.f4 Rows.fnBaseSizeRow.domain false) (Rows.fnBaseSizeSpec.post enc Try.prog Try.f4 false true false false) := by
  refine returnsInHanded_of_change (C := Try.checked) own started (by kernel_rfl) Try.func4
    (ChangeSpec.witness6 (enc := enc) (C := Try.checked) false ⟨#[], #[.slice none 0 0], []⟩ 8 (by kernel_rfl) (by kernel_rfl) (by kernel_rfl) (by kernel_rfl)) ?_
  intro W base args ds gs before hval0 hW hcnd _
  have hval : ∀ (j : Nat) t v, Try.f4.params[j]? = some t → args[j]? = some v → Value.okWide Try.prog W .any base t v := hval0
  have hW' := hW
  obtain ⟨p, q, hA0, hV, rfl, hfz, hnd⟩ := hW
  have hA : DataW.TrodAll enc Try.prog W 0 (fun _ => true) true Try.f4.params.toList args.toList ds p := hA0
  rw [Try.params4] at hA hval
  obtain ⟨v0, vs0, d0, ds0, p0, q0, hargs, rfl, rfl, h0, r0⟩ := trodAll_cons hA
  obtain ⟨rfl, rfl, rfl⟩ := trodAll_nil r0
  obtain rfl : args = #[v0] := by cases args; simp_all
  obtain ⟨rfl, rfl⟩ := trodVars_none hV
  obtain ⟨a0, n0, c0, rfl⟩ := okWide_slice Try.underlying22 (hval 0 22 v0 rfl rfl)
  have k0 := h0
  have lt0 : ∀ x ∈ p0, x.block < W.heap.size := by obtain ⟨m, hm⟩ := k0; exact DataW.trod_lt m _ _ _ hm
  obtain ⟨w0, x0, y0⟩ := code_of_trod Try.underlying22 Try.underlying5 (by kernel_rfl) h0
  clear hA0 hval0
  refine (fnBaseSize_walk a0 n0 c0 W w0 x0 y0).mono fun e W' ⟨he, bel⟩ => ?_
  subst he
  exact ⟨_, rfl, _, _, _, [], _, [], hW', trodAll_mk1 (shut_bool Try.underlying4 _), (trodAll_cons_mk (Below.trod laidOut (by kernel_rfl) (of_decide_eq_true (by kernel_rfl)) k0 bel lt0) trodAll_mk0), rfl, bel.frame _, fun h => by cases h⟩
/-- FnBaseSize: THE STATEMENT. -/
theorem fnBaseSize_holds : Rows.FnBaseSizeSaid :=
  OpenClaim.holds_of_wide 4 Try.f4 rfl rfl rfl rfl rfl rfl rfl ⟨rfl, rfl, rfl, rfl, rfl⟩ rfl rfl rfl rfl rfl (by kernel_rfl) Try.func4 (by kernel_rfl)
    (of_decide_eq_true (by kernel_rfl)) (by unfold Func.isWrapper; first | (rw [if_pos (by decide +kernel)]; kernel_rfl) | (rw [if_neg (by decide +kernel)]; exact ⟨rfl, rfl⟩))
    (fun os started H enc _ => fnBaseSize_lifted os started H enc)
set_option maxRecDepth 100000 in
set_option maxHeartbeats 4000000 in
theorem fnBaseWidth_walk (a : Option Addr) (n c : Nat) (w : World) (hc : Code w a n) (hnc : n ≤ c) (hm : c ≤ maxLen) :
    Calls Try.prog 6 #[.slice a n c] w fun e w' => e = .returned (.bool true) ∧ Below w.heap.size w w' := by
  have hm' := hm
  unfold maxLen at hm'
  by_cases hn : 1048576 < n
  · have hd : decide ((1048576 : Int) < n) = true := by simp; omega
    go_enter Try.func6, Try.ntmps6
    go_wp2
    go_ret
    exact ⟨rfl, Below.refl _ _⟩
  have hd : decide ((1048576 : Int) < n) = false := by simp; omega
  go_enter Try.func6, Try.ntmps6
  go_wp2_with fail
  refine (drawEncodeBase_any a n c w hc hnc hm).mono ?_
  rintro e w1 ⟨s, rfl, hs, hb1⟩
  obtain ⟨hxl, hxs⟩ := encB_small s.data.toList
  have HXS := Lib.hid hxs
  have HM : Hid (((encB s.data.toList).getD []).length ≤ maxLen) := by show _ ≤ _; unfold maxLen; omega
  clear hxs
  go_wp2_with fail
  refine (encodeBase_any s _ (by omega)).mono ?_
  rintro e w2 ⟨v2, rfl, ho2, hb2⟩
  obtain ⟨a2, c2, rfl, hr2, _⟩ := ho2.read
  have HR2 := Lib.hid hr2
  have hB2 := nx hb1 hb2
  clear hr2 ho2 hb1 hb2
  go_wp2_with fail
  refine (encodeBaseS_any s _ (by omega)).mono ?_
  rintro e w3 ⟨v3, rfl, ho3, hb3⟩
  obtain ⟨a3, c3, rfl, hr3, _⟩ := ho3.read
  have HR23 := Lib.hid (HR2.out.below hb3)
  have HR3 := Lib.hid hr3
  have hB3 := nx hB2 hb3
  clear hr3 ho3 hb3 HR2 hB2
  generalize hX : (encB s.data.toList).getD [] = xs at *
  have HX := Lib.hid hX
  clear hX
  go_wp2_with fail
  refine (mwTexts_any _ _ _ _ _ _ xs xs _ HR23.out HR3.out HM.out HM.out).mono ?_
  rintro e w4 ⟨rfl, hb4⟩
  rw [decide_eq_true (rfl : xs = xs)]
  have HR24 := Lib.hid (HR23.out.below hb4)
  have HR34 := Lib.hid (HR3.out.below hb4)
  have hB4 := nx hB3 hb4
  clear hb4 hB3 HR23 HR3
  cases ho : encB s.data.toList with
  | none =>
    clear ho
    go_wp2_with fail
    refine (mwTexts_any _ _ _ _ _ _ xs xs _ HR24.out HR34.out HM.out HM.out).mono ?_
    rintro e w5 ⟨rfl, hb5⟩
    rw [decide_eq_true (rfl : xs = xs)]
    go_wp2
    go_ret
    exact ⟨rfl, nx hB4 hb5⟩
  | some ys =>
    obtain ⟨h1, h2, h3⟩ := encB_flat ho
    have HYX : Hid (xs = ys) := by show _ = _; rw [← HX.out, ho]; rfl
    have HSM : Hid (∀ x ∈ xs, x.length ≤ 1000) := fun x hx => Nat.le_trans (HXS.out x hx) (by omega)
    have HF : Hid (xs.flatten = b64 s.data.toList) := by show _ = _; rw [HYX.out]; exact h1
    have HC : Hid (xs = chop (b64 s.data.toList)) := by show _ = _; rw [HYX.out]; exact h3
    have h300 : s.size ≤ 300 := by rw [size_list] at h2; exact h2
    clear ho h1 h2 h3 HX
    have HW := Lib.hid (chop_width _ (b64 s.data.toList) (Nat.le_refl _))
    have HPOS : Hid (0 < (b64 s.data.toList).length ↔ 0 < s.size) := by have := b64_pos s.data.toList; rw [size_list] at this; exact this
    rw [← HC.out] at HW
    obtain ⟨L, hL⟩ : ∃ L, xs.length = L + 1 := by
      have h1 : xs ≠ [] := by
        rw [HC.out]; intro e
        by_cases h40 : 40 < (b64 s.data.toList).length
        · rw [chop_long h40] at e; cases e
        · rw [chop_short (by omega)] at e; cases e
      exact ⟨xs.length - 1, by have := List.length_pos_iff.2 h1; omega⟩
    have HL := Lib.hid hL
    obtain ⟨b, off, rfl, hbl, hcell⟩ := HR24.out.2.resolve_left (by omega)
    have HCELL := Lib.hid hcell
    have hLb : L ≤ 500 := by omega
    clear hcell
    rw [hL]
    clear hxl hL
    go_wp2_with fail
    go_loop [8] (fun i => ∃ k : Nat, k ≤ L ∧ i = .int .i64 k) (fun i => L - (intOf i).toNat)
    case atStart => exact ⟨0, by omega, rfl⟩
    case round =>
      obtain ⟨k, hk, rfl⟩ := hrel
      have hkx : k < xs.length := by rw [HL.out]; omega
      have c0 : w4.cell? ⟨b, off + k, none⟩ = some (.string (str xs[k])) := HCELL.out k hkx
      have HK := Lib.hid (HW.out k hkx)
      have hkz := str_size xs[k]
      rw [HL.out] at HK
      by_cases hlt : k < L
      · have h40 : (str xs[k]).size = 40 := by rw [hkz]; exact HK.out.1 (by omega)
        have e40 : (((str xs[k]).size : Int) != 40) = false := by rw [h40]; rfl
        clear hkz h40
        generalize str xs[k] = y at *
        go_wp2
        go_round
        case rel => exact ⟨k + 1, by omega, by go_num⟩
        case measure => simp [intOf]; omega
      · obtain rfl : k = L := by omega
        obtain ⟨z1, z2⟩ := HK.out.2 rfl
        have hz1 : (str xs[k]).size ≤ 40 := by rw [hkz]; exact z1
        have hz2 : 0 < (str xs[k]).size ↔ 0 < s.size := by rw [hkz, z2]; exact HPOS.out
        clear hkz z1 z2
        generalize str xs[k] = y at *
        by_cases hs0 : 0 < s.size
        · have hy0 : 0 < y.size := hz2.2 hs0
          have d1 : decide ((0 : Int) < y.size) = true := decide_eq_true (by omega)
          have d2 : decide ((0 : Int) < s.size) = true := decide_eq_true (by omega)
          clear hz2
          go_wp2
          go_ret
          exact ⟨rfl, hB4⟩
        · have hy0 : ¬ 0 < y.size := fun h => hs0 (hz2.1 h)
          have d1 : decide ((0 : Int) < y.size) = false := decide_eq_false (by omega)
          have d2 : decide ((0 : Int) < s.size) = false := decide_eq_false (by omega)
          clear hz2
          go_wp2
          go_ret
          exact ⟨rfl, hB4⟩
set_option maxRecDepth 100000 in
theorem fnBaseWidth_lifted (os : Os) (started : os.Started) (H : Type) (enc : TypeId × Value → H) :
    ReturnsInHanded {} Try.checked os 6 .any (Rows.fnBaseWidthSpec.pre6 enc Try.prog Try.f6 Rows.fnBaseWidthRow.domain false) (Rows.fnBaseWidthSpec.post enc Try.prog Try.f6 false true false false) := by
  refine returnsInHanded_of_change (C := Try.checked) own started (by kernel_rfl) Try.func6
    (ChangeSpec.witness6 (enc := enc) (C := Try.checked) false ⟨#[], #[.slice none 0 0], []⟩ 8 (by kernel_rfl) (by kernel_rfl) (by kernel_rfl) (by kernel_rfl)) ?_
  intro W base args ds gs before hval0 hW hcnd _
  have hval : ∀ (j : Nat) t v, Try.f6.params[j]? = some t → args[j]? = some v → Value.okWide Try.prog W .any base t v := hval0
  have hW' := hW
  obtain ⟨p, q, hA0, hV, rfl, hfz, hnd⟩ := hW
  have hA : DataW.TrodAll enc Try.prog W 0 (fun _ => true) true Try.f6.params.toList args.toList ds p := hA0
  rw [Try.params6] at hA hval
  obtain ⟨v0, vs0, d0, ds0, p0, q0, hargs, rfl, rfl, h0, r0⟩ := trodAll_cons hA
  obtain ⟨rfl, rfl, rfl⟩ := trodAll_nil r0
  obtain rfl : args = #[v0] := by cases args; simp_all
  obtain ⟨rfl, rfl⟩ := trodVars_none hV
  obtain ⟨a0, n0, c0, rfl⟩ := okWide_slice Try.underlying22 (hval 0 22 v0 rfl rfl)
  have k0 := h0
  have lt0 : ∀ x ∈ p0, x.block < W.heap.size := by obtain ⟨m, hm⟩ := k0; exact DataW.trod_lt m _ _ _ hm
  obtain ⟨w0, x0, y0⟩ := code_of_trod Try.underlying22 Try.underlying5 (by kernel_rfl) h0
  clear hA0 hval0
  refine (fnBaseWidth_walk a0 n0 c0 W w0 x0 y0).mono fun e W' ⟨he, bel⟩ => ?_
  subst he
  exact ⟨_, rfl, _, _, _, [], _, [], hW', trodAll_mk1 (shut_bool Try.underlying4 _), (trodAll_cons_mk (Below.trod laidOut (by kernel_rfl) (of_decide_eq_true (by kernel_rfl)) k0 bel lt0) trodAll_mk0), rfl, bel.frame _, fun h => by cases h⟩
/-- FnBaseWidth: THE STATEMENT. -/
theorem fnBaseWidth_holds : Rows.FnBaseWidthSaid :=
  OpenClaim.holds_of_wide 6 Try.f6 rfl rfl rfl rfl rfl rfl rfl ⟨rfl, rfl, rfl, rfl, rfl⟩ rfl rfl rfl rfl rfl (by kernel_rfl) Try.func6 (by kernel_rfl)
    (of_decide_eq_true (by kernel_rfl)) (by unfold Func.isWrapper; first | (rw [if_pos (by decide +kernel)]; kernel_rfl) | (rw [if_neg (by decide +kernel)]; exact ⟨rfl, rfl⟩))
    (fun os started H enc _ => fnBaseWidth_lifted os started H enc)
set_option maxRecDepth 100000 in
set_option maxHeartbeats 4000000 in
theorem fnBaseLines_walk (a : Option Addr) (n c : Nat) (w : World) (hc : Code w a n) (hnc : n ≤ c) (hm : c ≤ maxLen) :
    Calls Try.prog 5 #[.slice a n c] w fun e w' => e = .returned (.bool true) ∧ Below w.heap.size w w' := by
  have hm' := hm
  unfold maxLen at hm'
  by_cases hn : 1048576 < n
  · have hd : decide ((1048576 : Int) < n) = true := by simp; omega
    go_enter Try.func5, Try.ntmps5
    go_wp2
    go_ret
    exact ⟨rfl, Below.refl _ _⟩
  have hd : decide ((1048576 : Int) < n) = false := by simp; omega
  go_enter Try.func5, Try.ntmps5
  go_wp2_with fail
  refine (drawEncodeBase_any a n c w hc hnc hm).mono ?_
  rintro e w1 ⟨s, rfl, hs, hb1⟩
  obtain ⟨hxl, hxs⟩ := encB_small s.data.toList
  have HXS := Lib.hid hxs
  have HM : Hid (((encB s.data.toList).getD []).length ≤ maxLen) := by show _ ≤ _; unfold maxLen; omega
  clear hxs
  go_wp2_with fail
  refine (encodeBase_any s _ (by omega)).mono ?_
  rintro e w2 ⟨v2, rfl, ho2, hb2⟩
  obtain ⟨a2, c2, rfl, hr2, _⟩ := ho2.read
  have HR2 := Lib.hid hr2
  have hB2 := nx hb1 hb2
  clear hr2 ho2 hb1 hb2
  go_wp2_with fail
  refine (encodeBaseS_any s _ (by omega)).mono ?_
  rintro e w3 ⟨v3, rfl, ho3, hb3⟩
  obtain ⟨a3, c3, rfl, hr3, _⟩ := ho3.read
  have HR23 := Lib.hid (HR2.out.below hb3)
  have HR3 := Lib.hid hr3
  have hB3 := nx hB2 hb3
  clear hr3 ho3 hb3 HR2 hB2
  generalize hX : (encB s.data.toList).getD [] = xs at *
  have HX := Lib.hid hX
  clear hX
  go_wp2_with fail
  refine (mwTexts_any _ _ _ _ _ _ xs xs _ HR23.out HR3.out HM.out HM.out).mono ?_
  rintro e w4 ⟨rfl, hb4⟩
  rw [decide_eq_true (rfl : xs = xs)]
  have HR24 := Lib.hid (HR23.out.below hb4)
  have HR34 := Lib.hid (HR3.out.below hb4)
  have hB4 := nx hB3 hb4
  clear hb4 hB3 HR23 HR3
  cases ho : encB s.data.toList with
  | none =>
    clear ho
    go_wp2_with fail
    refine (mwTexts_any _ _ _ _ _ _ xs xs _ HR24.out HR34.out HM.out HM.out).mono ?_
    rintro e w5 ⟨rfl, hb5⟩
    rw [decide_eq_true (rfl : xs = xs)]
    go_wp2
    go_ret
    exact ⟨rfl, nx hB4 hb5⟩
  | some ys =>
    obtain ⟨h1, h2, h3⟩ := encB_flat ho
    have HYX : Hid (xs = ys) := by show _ = _; rw [← HX.out, ho]; rfl
    have HSM : Hid (∀ x ∈ xs, x.length ≤ 1000) := fun x hx => Nat.le_trans (HXS.out x hx) (by omega)
    have HF : Hid (xs.flatten = b64 s.data.toList) := by show _ = _; rw [HYX.out]; exact h1
    have HC : Hid (xs = chop (b64 s.data.toList)) := by show _ = _; rw [HYX.out]; exact h3
    have h300 : s.size ≤ 300 := by rw [size_list] at h2; exact h2
    clear ho h1 h2 h3 HX
    go_wp2_with fail
    refine (mwJoin_any a2 xs.length c2 xs _ HR24.out (by omega) HSM.out).mono ?_
    rintro e w5 ⟨rfl, rfl⟩
    have hjl : (str xs.flatten).size ≤ 400 := by rw [str_size, HF.out]; exact encB_len s h300
    have HJF : Hid ((str xs.flatten).data.toList = b64 s.data.toList) := by show _ = _; rw [str_list, HF.out]
    generalize str xs.flatten = J at *
    have HD3 : Hid (decB [(J.extract 0 (J.size / 3)).data.toList, [], (J.extract (J.size / 3) J.size).data.toList] = some s.data.toList) := by
      show lim (dB _) = _
      have e : [(J.extract 0 (J.size / 3)).data.toList, [], (J.extract (J.size / 3) J.size).data.toList].flatten = b64 s.data.toList := by
        rw [← HJF.out, ext_take, ext_drop, str_list, str_list]; simp
      rw [e, dB_b64, lim_in (by rw [size_list]; exact h300)]
    have z1 : (J.extract 0 (J.size / 3)).size ≤ 400 := by rw [ByteArray.size_extract]; omega
    have z2 : (J.extract (J.size / 3) J.size).size ≤ 400 := by rw [ByteArray.size_extract]; omega
    have HSM3 : Hid (∀ x ∈ [(J.extract 0 (J.size / 3)).data.toList, [], (J.extract (J.size / 3) J.size).data.toList], x.length ≤ 1073741000) := by
      intro x hx
      simp only [List.mem_cons, List.not_mem_nil, or_false] at hx
      rcases hx with rfl | rfl | rfl
      · rw [size_list]; omega
      · simp
      · rw [size_list]; omega
    have q1 : 0 ≤ (J.size : Int) / 3 ∧ (J.size : Int) / 3 ≤ J.size := by omega
    have hq3 : ((J.size : Int) / 3).toNat = J.size / 3 := by omega
    have hjj : ((str s.data.toList).toList == s.toList) = true := by rw [str_of]; simp
    clear z1 z2
    go_wp2_with fail
    go_region_with (go_at_call 12; refine (decodeBase_any _ 3 3 _ _ (rd_lit3d _ _ _ _) (by omega) HSM3.out).mono ?_; rintro e w6 ⟨rfl, hb6⟩; rw [HD3.out])
    all_goals
      go_wp2
      go_ret
      exact ⟨rfl, nx hB4 (nx ((Below.refl _ _).alloc (Nat.le_refl _) _).drew hb6)⟩
set_option maxRecDepth 100000 in
theorem fnBaseLines_lifted (os : Os) (started : os.Started) (H : Type) (enc : TypeId × Value → H) :
    ReturnsInHanded {} Try.checked os 5 .any (Rows.fnBaseLinesSpec.pre6 enc Try.prog Try.f5 Rows.fnBaseLinesRow.domain false) (Rows.fnBaseLinesSpec.post enc Try.prog Try.f5 false true false false) := by
  refine returnsInHanded_of_change (C := Try.checked) own started (by kernel_rfl) Try.func5
    (ChangeSpec.witness6 (enc := enc) (C := Try.checked) false ⟨#[], #[.slice none 0 0], []⟩ 8 (by kernel_rfl) (by kernel_rfl) (by kernel_rfl) (by kernel_rfl)) ?_
  intro W base args ds gs before hval0 hW hcnd _
  have hval : ∀ (j : Nat) t v, Try.f5.params[j]? = some t → args[j]? = some v → Value.okWide Try.prog W .any base t v := hval0
  have hW' := hW
  obtain ⟨p, q, hA0, hV, rfl, hfz, hnd⟩ := hW
  have hA : DataW.TrodAll enc Try.prog W 0 (fun _ => true) true Try.f5.params.toList args.toList ds p := hA0
  rw [Try.params5] at hA hval
  obtain ⟨v0, vs0, d0, ds0, p0, q0, hargs, rfl, rfl, h0, r0⟩ := trodAll_cons hA
  obtain ⟨rfl, rfl, rfl⟩ := trodAll_nil r0
  obtain rfl : args = #[v0] := by cases args; simp_all
  obtain ⟨rfl, rfl⟩ := trodVars_none hV
  obtain ⟨a0, n0, c0, rfl⟩ := okWide_slice Try.underlying22 (hval 0 22 v0 rfl rfl)
  have k0 := h0
  have lt0 : ∀ x ∈ p0, x.block < W.heap.size := by obtain ⟨m, hm⟩ := k0; exact DataW.trod_lt m _ _ _ hm
  obtain ⟨w0, x0, y0⟩ := code_of_trod Try.underlying22 Try.underlying5 (by kernel_rfl) h0
  clear hA0 hval0
  refine (fnBaseLines_walk a0 n0 c0 W w0 x0 y0).mono fun e W' ⟨he, bel⟩ => ?_
  subst he
  exact ⟨_, rfl, _, _, _, [], _, [], hW', trodAll_mk1 (shut_bool Try.underlying4 _), (trodAll_cons_mk (Below.trod laidOut (by kernel_rfl) (of_decide_eq_true (by kernel_rfl)) k0 bel lt0) trodAll_mk0), rfl, bel.frame _, fun h => by cases h⟩
/-- FnBaseLines: THE STATEMENT. -/
theorem fnBaseLines_holds : Rows.FnBaseLinesSaid :=
  OpenClaim.holds_of_wide 5 Try.f5 rfl rfl rfl rfl rfl rfl rfl ⟨rfl, rfl, rfl, rfl, rfl⟩ rfl rfl rfl rfl rfl (by kernel_rfl) Try.func5 (by kernel_rfl)
    (of_decide_eq_true (by kernel_rfl)) (by unfold Func.isWrapper; first | (rw [if_pos (by decide +kernel)]; kernel_rfl) | (rw [if_neg (by decide +kernel)]; exact ⟨rfl, rfl⟩))
    (fun os started H enc _ => fnBaseLines_lifted os started H enc)
set_option maxRecDepth 100000 in
set_option maxHeartbeats 4000000 in
theorem fnBaseBytes_walk (a : Option Addr) (n c : Nat) (a0 : Option Addr) (n0 c0 : Nat) (w : World) (hc : Code w a n) (hnc : n ≤ c) (hm : c ≤ maxLen) (hc0 : Code w a0 n0) (hnc0 : n0 ≤ c0) (hm0 : c0 ≤ maxLen) :
    Calls Try.prog 3 #[.slice a n c, .slice a0 n0 c0] w fun e w' => e = .returned (.bool true) ∧ Below w.heap.size w w' := by
  have hm' := hm
  have hm0' := hm0
  unfold maxLen at hm' hm0'
  by_cases hn : 1048576 < n
  · have hd : decide ((1048576 : Int) < n) = true := by simp; omega
    go_enter Try.func3, Try.ntmps3
    go_wp2
    go_ret
    exact ⟨rfl, Below.refl _ _⟩
  have hd : decide ((1048576 : Int) < n) = false := by simp; omega
  by_cases hn0 : 1048576 < n0
  · have hd0 : decide ((1048576 : Int) < n0) = true := by simp; omega
    go_enter Try.func3, Try.ntmps3
    go_wp2
    go_ret
    exact ⟨rfl, Below.refl _ _⟩
  have hd0 : decide ((1048576 : Int) < n0) = false := by simp; omega
  have HC0 := Lib.hid hc0
  go_enter Try.func3, Try.ntmps3
  go_wp2_with fail
  refine (drawEncodeBase_any a n c w hc hnc hm).mono ?_
  rintro e w1 ⟨s, rfl, hs, hb1⟩
  obtain ⟨hxl, hxs⟩ := encB_small s.data.toList
  have HXS := Lib.hid hxs
  have HM : Hid (((encB s.data.toList).getD []).length ≤ maxLen) := by show _ ≤ _; unfold maxLen; omega
  clear hxs
  go_wp2_with fail
  refine (encodeBase_any s _ (by omega)).mono ?_
  rintro e w2 ⟨v2, rfl, ho2, hb2⟩
  obtain ⟨a2, c2, rfl, hr2, _⟩ := ho2.read
  have HR2 := Lib.hid hr2
  have hB2 := nx hb1 hb2
  clear hr2 ho2 hb1 hb2
  go_wp2_with fail
  refine (encodeBaseS_any s _ (by omega)).mono ?_
  rintro e w3 ⟨v3, rfl, ho3, hb3⟩
  obtain ⟨a3, c3, rfl, hr3, _⟩ := ho3.read
  have HR23 := Lib.hid (HR2.out.below hb3)
  have HR3 := Lib.hid hr3
  have hB3 := nx hB2 hb3
  clear hr3 ho3 hb3 HR2 hB2
  generalize hX : (encB s.data.toList).getD [] = xs at *
  have HX := Lib.hid hX
  clear hX
  go_wp2_with fail
  refine (mwTexts_any _ _ _ _ _ _ xs xs _ HR23.out HR3.out HM.out HM.out).mono ?_
  rintro e w4 ⟨rfl, hb4⟩
  rw [decide_eq_true (rfl : xs = xs)]
  have HR24 := Lib.hid (HR23.out.below hb4)
  have hB4 := nx hB3 hb4
  clear hb4 hB3 HR23 HR3
  cases ho : encB s.data.toList with
  | none =>
    clear ho
    have hB5 := hB4
    go_wp2_with fail
    refine (drawDecodeBase_any a0 n0 c0 _ (HC0.out.below hB5) hnc0 hm0).mono ?_
    rintro e w6 ⟨v6, ls, rfl, ho6, hl6, hx6, hb6⟩
    obtain ⟨a6, c6, rfl, hr6, _⟩ := ho6.read
    have HL6 : Hid (∀ x ∈ ls, x.length ≤ 1073741000) := fun x hx => Nat.le_trans (hx6 x hx) (by omega)
    have HL1 : Hid (∀ x ∈ ls, x.length ≤ 1000) := fun x hx => Nat.le_trans (hx6 x hx) (by omega)
    have HR6 := Lib.hid hr6
    have hB6 := nx hB5 hb6
    clear ho6 hr6 hx6 hb6 hB5
    go_wp2_with fail
    refine (decodeBase_any a6 ls.length c6 ls _ HR6.out (by omega) HL6.out).mono ?_
    rintro e w7 ⟨rfl, hb7⟩
    have HR67 := Lib.hid (HR6.out.below hb7)
    have hB7 := nx hB6 hb7
    go_wp2_with fail
    refine (decodeBaseS_any a6 ls.length c6 ls _ HR67.out (by omega) HL6.out).mono ?_
    rintro e w8 ⟨rfl, hb8⟩
    have HR68 := Lib.hid (HR67.out.below hb8)
    have hB8 := nx hB7 hb8
    clear hb7 hb8 hB6 hB7 HR6 HR67
    cases hdl : decB ls with
    | none =>
      have hq0 : (((str []).toList) == (str []).toList) = true := by simp
      clear hdl
      go_wp2
      go_ret
      exact ⟨rfl, hB8⟩
    | some g =>
      obtain ⟨h1, h2, h3⟩ := decB_back hdl
      have hgg : ((str g).toList == (str g).toList) = true := by simp
      have hgz : (str g).size ≤ 300 := by rw [str_size]; exact h3
      have HE : Hid (encB (str g).data.toList = some (chop ls.flatten)) := by show _ = _; rw [str_list]; exact h1
      have hfl : ls.flatten.length ≤ 400 := by
        have := congrArg List.length h2
        rw [chop_flat _ _ (Nat.le_refl _), b64_len] at this; omega
      have HCF : Hid ((chop ls.flatten).flatten = ls.flatten) := chop_flat _ _ (Nat.le_refl _)
      obtain ⟨hc1, hc2⟩ := chop_count 400 ls.flatten hfl
      have HC2 : Hid (∀ x ∈ chop ls.flatten, x.length ≤ 1000) := fun x hx => Nat.le_trans (hc2 x hx) (by omega)
      clear hdl h1 h2 h3 hc2
      go_wp2_with fail
      refine (encodeBase_any (str g) _ (by omega)).mono ?_
      rintro e w9 ⟨v9, rfl, ho9, hb9⟩
      rw [HE.out] at ho9 ⊢
      obtain ⟨a9, c9, rfl, hr9, _⟩ := ho9.read
      have HR9 : Hid (RdL w9 a9 (chop ls.flatten).length (chop ls.flatten)) := hr9
      have HR69 := Lib.hid (HR68.out.below hb9)
      have hB9 := nx hB8 hb9
      have hlz : ((some (chop ls.flatten)).getD []).length = (chop ls.flatten).length := rfl
      rw [hlz]
      clear ho9 hr9 hb9 hB8 hlz
      have hJJ : ((str ls.flatten).toList == (str ls.flatten).toList) = true := by simp
      have HJ1 : Hid (∀ u : World, u.heap = w9.heap → Calls Try.prog 15 #[.slice a9 (chop ls.flatten).length c9] u fun e w' => e = .returned (.string (str ls.flatten)) ∧ w' = u) := fun u hu => by
        refine (mwJoin_any a9 _ c9 _ u (by have := HR9.out; unfold RdL at this ⊢; simp only [World.cell?, hu] at this ⊢; exact this) (by omega) HC2.out).mono ?_
        rintro e w' ⟨rfl, rfl⟩; rw [HCF.out]; exact ⟨rfl, rfl⟩
      have HJ2 : Hid (∀ u : World, u.heap = w9.heap → Calls Try.prog 15 #[.slice a6 ls.length c6] u fun e w' => e = .returned (.string (str ls.flatten)) ∧ w' = u) := fun u hu => by
        refine (mwJoin_any a6 _ c6 _ u (by have := HR69.out; unfold RdL at this ⊢; simp only [World.cell?, hu] at this ⊢; exact this) (by omega) HL1.out).mono ?_
        rintro e w' ⟨rfl, rfl⟩; exact ⟨rfl, rfl⟩
      generalize (chop ls.flatten).length = M at *
      go_wp2_with fail
      refine (HJ1.out _ rfl).mono ?_
      rintro e w10 ⟨rfl, rfl⟩
      go_wp2_with fail
      refine (HJ2.out _ rfl).mono ?_
      rintro e w10 ⟨rfl, rfl⟩
      go_wp2
      go_ret
      exact ⟨rfl, hB9⟩
  | some ys =>
    obtain ⟨h1, h2, h3⟩ := encB_flat ho
    have HYX : Hid (xs = ys) := by show _ = _; rw [← HX.out, ho]; rfl
    have HSM : Hid (∀ x ∈ xs, x.length ≤ 1073741000) := fun x hx => Nat.le_trans (HXS.out x hx) (by omega)
    have HDE : Hid (decB xs = some s.data.toList) := by show _ = _; rw [HYX.out, h3]; exact decB_encB h2
    have hss : ((str s.data.toList).toList == s.toList) = true := by rw [str_of]; simp
    clear ho h1 h2 h3 HX
    go_wp2_with fail
    refine (decodeBase_any a2 xs.length c2 xs _ HR24.out (by omega) HSM.out).mono ?_
    rintro e w5 ⟨rfl, hb5⟩
    rw [HDE.out]
    have hB5 := nx hB4 hb5
    clear hB4 hb5
    go_wp2_with fail
    refine (drawDecodeBase_any a0 n0 c0 _ (HC0.out.below hB5) hnc0 hm0).mono ?_
    rintro e w6 ⟨v6, ls, rfl, ho6, hl6, hx6, hb6⟩
    obtain ⟨a6, c6, rfl, hr6, _⟩ := ho6.read
    have HL6 : Hid (∀ x ∈ ls, x.length ≤ 1073741000) := fun x hx => Nat.le_trans (hx6 x hx) (by omega)
    have HL1 : Hid (∀ x ∈ ls, x.length ≤ 1000) := fun x hx => Nat.le_trans (hx6 x hx) (by omega)
    have HR6 := Lib.hid hr6
    have hB6 := nx hB5 hb6
    clear ho6 hr6 hx6 hb6 hB5
    go_wp2_with fail
    refine (decodeBase_any a6 ls.length c6 ls _ HR6.out (by omega) HL6.out).mono ?_
    rintro e w7 ⟨rfl, hb7⟩
    have HR67 := Lib.hid (HR6.out.below hb7)
    have hB7 := nx hB6 hb7
    go_wp2_with fail
    refine (decodeBaseS_any a6 ls.length c6 ls _ HR67.out (by omega) HL6.out).mono ?_
    rintro e w8 ⟨rfl, hb8⟩
    have HR68 := Lib.hid (HR67.out.below hb8)
    have hB8 := nx hB7 hb8
    clear hb7 hb8 hB6 hB7 HR6 HR67
    cases hdl : decB ls with
    | none =>
      have hq0 : (((str []).toList) == (str []).toList) = true := by simp
      clear hdl
      go_wp2
      go_ret
      exact ⟨rfl, hB8⟩
    | some g =>
      obtain ⟨h1, h2, h3⟩ := decB_back hdl
      have hgg : ((str g).toList == (str g).toList) = true := by simp
      have hgz : (str g).size ≤ 300 := by rw [str_size]; exact h3
      have HE : Hid (encB (str g).data.toList = some (chop ls.flatten)) := by show _ = _; rw [str_list]; exact h1
      have hfl : ls.flatten.length ≤ 400 := by
        have := congrArg List.length h2
        rw [chop_flat _ _ (Nat.le_refl _), b64_len] at this; omega
      have HCF : Hid ((chop ls.flatten).flatten = ls.flatten) := chop_flat _ _ (Nat.le_refl _)
      obtain ⟨hc1, hc2⟩ := chop_count 400 ls.flatten hfl
      have HC2 : Hid (∀ x ∈ chop ls.flatten, x.length ≤ 1000) := fun x hx => Nat.le_trans (hc2 x hx) (by omega)
      clear hdl h1 h2 h3 hc2
      go_wp2_with fail
      refine (encodeBase_any (str g) _ (by omega)).mono ?_
      rintro e w9 ⟨v9, rfl, ho9, hb9⟩
      rw [HE.out] at ho9 ⊢
      obtain ⟨a9, c9, rfl, hr9, _⟩ := ho9.read
      have HR9 : Hid (RdL w9 a9 (chop ls.flatten).length (chop ls.flatten)) := hr9
      have HR69 := Lib.hid (HR68.out.below hb9)
      have hB9 := nx hB8 hb9
      have hlz : ((some (chop ls.flatten)).getD []).length = (chop ls.flatten).length := rfl
      rw [hlz]
      clear ho9 hr9 hb9 hB8 hlz
      have hJJ : ((str ls.flatten).toList == (str ls.flatten).toList) = true := by simp
      have HJ1 : Hid (∀ u : World, u.heap = w9.heap → Calls Try.prog 15 #[.slice a9 (chop ls.flatten).length c9] u fun e w' => e = .returned (.string (str ls.flatten)) ∧ w' = u) := fun u hu => by
        refine (mwJoin_any a9 _ c9 _ u (by have := HR9.out; unfold RdL at this ⊢; simp only [World.cell?, hu] at this ⊢; exact this) (by omega) HC2.out).mono ?_
        rintro e w' ⟨rfl, rfl⟩; rw [HCF.out]; exact ⟨rfl, rfl⟩
      have HJ2 : Hid (∀ u : World, u.heap = w9.heap → Calls Try.prog 15 #[.slice a6 ls.length c6] u fun e w' => e = .returned (.string (str ls.flatten)) ∧ w' = u) := fun u hu => by
        refine (mwJoin_any a6 _ c6 _ u (by have := HR69.out; unfold RdL at this ⊢; simp only [World.cell?, hu] at this ⊢; exact this) (by omega) HL1.out).mono ?_
        rintro e w' ⟨rfl, rfl⟩; exact ⟨rfl, rfl⟩
      generalize (chop ls.flatten).length = M at *
      go_wp2_with fail
      refine (HJ1.out _ rfl).mono ?_
      rintro e w10 ⟨rfl, rfl⟩
      go_wp2_with fail
      refine (HJ2.out _ rfl).mono ?_
      rintro e w10 ⟨rfl, rfl⟩
      go_wp2
      go_ret
      exact ⟨rfl, hB9⟩
set_option maxRecDepth 100000 in
theorem fnBaseBytes_lifted (os : Os) (started : os.Started) (H : Type) (enc : TypeId × Value → H) :
    ReturnsInHanded {} Try.checked os 3 .any (Rows.fnBaseBytesSpec.pre6 enc Try.prog Try.f3 Rows.fnBaseBytesRow.domain false) (Rows.fnBaseBytesSpec.post enc Try.prog Try.f3 false true false false) := by
  refine returnsInHanded_of_change (C := Try.checked) own started (by kernel_rfl) Try.func3
    (ChangeSpec.witness6 (enc := enc) (C := Try.checked) false ⟨#[], #[.slice none 0 0, .slice none 0 0], []⟩ 8 (by kernel_rfl) (by kernel_rfl) (by kernel_rfl) (by kernel_rfl)) ?_
  intro W base args ds gs before hval0 hW hcnd _
  have hval : ∀ (j : Nat) t v, Try.f3.params[j]? = some t → args[j]? = some v → Value.okWide Try.prog W .any base t v := hval0
  have hW' := hW
  obtain ⟨p, q, hA0, hV, rfl, hfz, hnd⟩ := hW
  have hA : DataW.TrodAll enc Try.prog W 0 (fun _ => true) true Try.f3.params.toList args.toList ds p := hA0
  rw [Try.params3] at hA hval
  obtain ⟨v0, vs0, d0, ds0, p0, q0, hargs, rfl, rfl, h0, r0⟩ := trodAll_cons hA
  obtain ⟨v1, vs1, d1, ds1, p1, q1, rfl, rfl, rfl, h1, r1⟩ := trodAll_cons r0
  obtain ⟨rfl, rfl, rfl⟩ := trodAll_nil r1
  obtain rfl : args = #[v0, v1] := by cases args; simp_all
  obtain ⟨rfl, rfl⟩ := trodVars_none hV
  obtain ⟨a0, n0, c0, rfl⟩ := okWide_slice Try.underlying22 (hval 0 22 v0 rfl rfl)
  have k0 := h0
  have lt0 : ∀ x ∈ p0, x.block < W.heap.size := by obtain ⟨m, hm⟩ := k0; exact DataW.trod_lt m _ _ _ hm
  obtain ⟨w0, x0, y0⟩ := code_of_trod Try.underlying22 Try.underlying5 (by kernel_rfl) h0
  obtain ⟨a1, n1, c1, rfl⟩ := okWide_slice Try.underlying22 (hval 1 22 v1 rfl rfl)
  have k1 := h1
  have lt1 : ∀ x ∈ p1, x.block < W.heap.size := by obtain ⟨m, hm⟩ := k1; exact DataW.trod_lt m _ _ _ hm
  obtain ⟨w1, x1, y1⟩ := code_of_trod Try.underlying22 Try.underlying5 (by kernel_rfl) h1
  clear hA0 hval0
  refine (fnBaseBytes_walk a0 n0 c0 a1 n1 c1 W w0 x0 y0 w1 x1 y1).mono fun e W' ⟨he, bel⟩ => ?_
  subst he
  exact ⟨_, rfl, _, _, _, [], _, [], hW', trodAll_mk1 (shut_bool Try.underlying4 _), (trodAll_cons_mk (Below.trod laidOut (by kernel_rfl) (of_decide_eq_true (by kernel_rfl)) k0 bel lt0) (trodAll_cons_mk (Below.trod laidOut (by kernel_rfl) (of_decide_eq_true (by kernel_rfl)) k1 bel lt1) trodAll_mk0)), rfl, bel.frame _, fun h => by cases h⟩
/-- FnBaseBytes: THE STATEMENT. -/
theorem fnBaseBytes_holds : Rows.FnBaseBytesSaid :=
  OpenClaim.holds_of_wide 3 Try.f3 rfl rfl rfl rfl rfl rfl rfl ⟨rfl, rfl, rfl, rfl, rfl⟩ rfl rfl rfl rfl rfl (by kernel_rfl) Try.func3 (by kernel_rfl)
    (of_decide_eq_true (by kernel_rfl)) (by unfold Func.isWrapper; first | (rw [if_pos (by decide +kernel)]; kernel_rfl) | (rw [if_neg (by decide +kernel)]; exact ⟨rfl, rfl⟩))
    (fun os started H enc _ => fnBaseBytes_lifted os started H enc)
end Go.Proofs.Ytdaoeoociamdnaa
