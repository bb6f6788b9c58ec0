/-
  Ends are lines: each law's walk. For every input of the law: it returns true, and the input reads as it did. Conditions: none but the statement's own.
-/
import Derived.Test.YtnlnkcjphioehaaLaw0
import Derived.Test.YtnlnkcjphioehaaDrLin
namespace Go.Proofs.Ytnlnkcjphioehaa
open Go.ChangeShapes Go.WideShapes Go.ChangeAt Go.RowKit
open Go.ChangeMaps (open_string shut_string)

theorem sel9n_t (s : ByteArray) : (s.toList == s.toList) = true := by simp
theorem sel9n_f (s : ByteArray) : (s.toList != s.toList) = false := by simp
set_option maxRecDepth 100000 in
set_option maxHeartbeats 4000000 in
theorem fnSplitNormal_walk (a : Option Addr) (n c : Nat) (w : World) (hmx : ∃ m, w.cell? ⟨0, 0, none⟩ = some (.int .i64 m)) (hc : Code w a n) (hnc : n ≤ c) (hm : c ≤ maxLen) :
    Calls Try.prog 14 #[.slice a n c] w fun e w' => e = .returned (.bool true) ∧ Below w.heap.size w w' := by
  have hm' := hm
  unfold maxLen at hm'
  have HMX : Hid (∀ u, Below w.heap.size w u → MxL u) := fun u h => MxL.below hmx h
  by_cases hn : 1048576 < n
  · have hd : decide ((1048576 : Int) < n) = true := by simp; omega
    go_enter Try.func14, Try.ntmps14
    go_wp2
    go_ret
    exact ⟨rfl, Below.refl _ _⟩
  have hd : decide ((1048576 : Int) < n) = false := by simp; omega
  go_enter Try.func14, Try.ntmps14
  go_wp2_with fail
  refine (drawSplitWire_any a n c w hc hnc hm).mono ?_
  rintro e w1 ⟨s, rfl, hs, hb1⟩
  have HI := Lib.hid (fun u (h : MxL u) => splitWire_any s u h (by omega))
  have HS := Lib.hid (fun u => splitWireS_any s u (by omega))
  have hlens := spliN_lens (s.data.toList.length + 1) s.data.toList
  have hsn := split_norm s.data.toList
  have hnl := norm_len s.data.toList false
  have hcl := cnt_le s.data.toList false
  rw [size_list] at hnl hcl
  have HC := Lib.hid (fun u => countBare_any s u (by omega))
  have HN := Lib.hid (fun u => normalText_any s u (by omega))
  have HK := Lib.hid (fun u (h : MxL u) => splitWire_any (str (normG false s.data.toList)) u h (by rw [str_size]; omega))
  rw [str_list] at HK
  have hkl := spliN_lens ((normG false s.data.toList).length + 1) (normG false s.data.toList)
  obtain ⟨xs, hxs⟩ : ∃ xs, (spliL s.data.toList).1 = xs := ⟨_, rfl⟩
  obtain ⟨r, hr⟩ : ∃ r, (spliL s.data.toList).2 = r := ⟨_, rfl⟩
  have hp : spliL s.data.toList = (xs, r) := by rw [← hxs, ← hr]
  obtain ⟨ys, hys⟩ : ∃ ys, (spliL (normG false s.data.toList)).1 = ys := ⟨_, rfl⟩
  obtain ⟨q, hq⟩ : ∃ q, (spliL (normG false s.data.toList)).2 = q := ⟨_, rfl⟩
  have hp2 : spliL (normG false s.data.toList) = (ys, q) := by rw [← hys, ← hq]
  rw [hp] at HI HS
  rw [hp2] at HK
  rw [hp, hp2] at hsn
  unfold spliL at hp hp2
  rw [hp] at hlens
  rw [hp2] at hkl
  rw [size_list] at hlens
  obtain ⟨hs1, hs2⟩ := hsn
  have hs1 : ys.length = xs.length + cntG false s.data.toList := hs1
  have hs2 : cntG false q = 0 := hs2
  clear hp hxs hr hp2 hys hq
  have hxl : xs.length ≤ 18 := by have := hlens.1; simp at this; omega
  have hql : q.length ≤ 36 := by have := hkl.1; simp at this; omega
  have hyl : ys.length ≤ 36 := by omega
  clear hlens hkl
  have HQ := Lib.hid (fun u => countBare_any (str q) u (by rw [str_size]; omega))
  rw [str_list, hs2] at HQ
  have HMW := Lib.hid (fun u (a2 a3 : Option Addr) (c2 c3 : Nat) (h1 : RdL u a2 xs.length xs) (h2 : RdL u a3 xs.length xs) => mwTexts_any a2 a3 xs.length c2 xs.length c3 xs xs u h1 h2 (by unfold maxLen; omega) (by unfold maxLen; omega))
  rw [decide_eq_true (rfl : xs = xs)] at HMW
  have e1 := sel9n_f (str r)
  have HI' : Hid (∀ u, MxL u → Calls Try.prog 29 #[.string s] u fun e w' => ∃ a c, e = .returned (.tuple #[.slice a xs.length c, .string (str r)]) ∧ RdL w' a xs.length xs ∧ Below u.heap.size u w') := fun u h => (HI.out u h).mono fun e w' h => by
    obtain ⟨a, c, h1, _, h2, h3⟩ := h.out'
    exact ⟨a, c, h1, h2, h3⟩
  have HS' : Hid (∀ u, Calls Try.prog 30 #[.string s] u fun e w' => ∃ a c, e = .returned (.tuple #[.slice a xs.length c, .string (str r)]) ∧ RdL w' a xs.length xs ∧ Below u.heap.size u w') := fun u => (HS.out u).mono fun e w' h => by
    obtain ⟨a, c, h1, _, h2, h3⟩ := h.out'
    exact ⟨a, c, h1, h2, h3⟩
  have HK' : Hid (∀ u, MxL u → Calls Try.prog 29 #[.string (str (normG false s.data.toList))] u fun e w' => ∃ a c, e = .returned (.tuple #[.slice a ys.length c, .string (str q)]) ∧ Below u.heap.size u w') := fun u h => (HK.out u h).mono fun e w' h => by
    obtain ⟨a, c, h1, _, h2, h3⟩ := h.out'
    exact ⟨a, c, h1, h3⟩
  have e5 : ((ys.length : Int) == (xs.length : Int) + (cntG false s.data.toList : Nat)) = true := by simp; omega
  clear HI HS HK hs1 hs2 hnl
  generalize str r = R at *
  generalize str q = Q at *
  generalize str (normG false s.data.toList) = X at *
  generalize cntG false s.data.toList = m at *
  go_wp2_with fail
  refine (HI'.out _ (HMX.out _ hb1)).mono ?_
  rintro e w2 ⟨a2, c2, rfl, hr2, hb2⟩
  go_wp2_with fail
  refine (HS'.out _).mono ?_
  rintro e w3 ⟨a3, c3, rfl, hr3, hb3⟩
  have HR2 := Lib.hid (hr2.below hb3)
  have HR3 := Lib.hid hr3
  have HB3 := Lib.hid (nx (nx hb1 hb2) hb3)
  clear hr2 hr3 hb2 hb3 hb1
  go_wp2_with fail
  refine (HMW.out _ _ _ _ _ HR2.out HR3.out).mono ?_
  rintro e w4 ⟨rfl, hb4⟩
  have HB4 := Lib.hid (nx HB3.out hb4)
  go_wp2_with fail
  refine (HN.out _).mono ?_
  rintro e w5 ⟨rfl, hb5⟩
  have HB5 := Lib.hid (nx HB4.out hb5)
  go_wp2_with fail
  refine (HK'.out _ (HMX.out _ HB5.out)).mono ?_
  rintro e w6 ⟨a6, c6, rfl, hb6⟩
  go_wp2_with fail
  refine (HC.out _).mono ?_
  rintro e w7 ⟨rfl, rfl⟩
  go_wp2_with fail
  refine (HQ.out _).mono ?_
  rintro e w7 ⟨rfl, rfl⟩
  go_wp2
  go_ret
  exact ⟨rfl, nx HB5.out hb6⟩
set_option maxRecDepth 100000 in
theorem fnSplitNormal_lifted (os : Os) (started : os.Started) (H : Type) (enc : TypeId × Value → H) :
    ReturnsInHanded {} Try.checked os 14 .any (Rows.fnSplitNormalSpec.pre6 enc Try.prog Try.f14 Rows.fnSplitNormalRow.domain false) (Rows.fnSplitNormalSpec.post enc Try.prog Try.f14 false true false false) := by
  refine returnsInHanded_of_change_shaped (C := Try.checked) own started (by kernel_rfl) Try.func14
    (ChangeSpec.witness6 (enc := enc) (C := Try.checked) false ⟨#[], #[.slice none 0 0], []⟩ 8 (by kernel_rfl) (by kernel_rfl) (by kernel_rfl) (by kernel_rfl)) ?_
  intro W base args ds gs before hval0 hW hcnd _ hsh _
  have hval : ∀ (j : Nat) t v, Try.f14.params[j]? = some t → args[j]? = some v → Value.okWide Try.prog W .any base t v := hval0
  have hW' := hW
  obtain ⟨p, q, hA0, hV, rfl, hfz, hnd⟩ := hW
  have hA : DataW.TrodAll enc Try.prog W 0 (fun _ => true) true Try.f14.params.toList args.toList ds p := hA0
  rw [Try.params14] at hA hval
  obtain ⟨v0, vs0, d0, ds0, p0, q0, hargs, rfl, rfl, h0, r0⟩ := trodAll_cons hA
  obtain ⟨rfl, rfl, rfl⟩ := trodAll_nil r0
  obtain rfl : args = #[v0] := by cases args; simp_all
  obtain ⟨rfl, rfl⟩ := trodVars_none hV
  obtain ⟨a0, n0, c0, rfl⟩ := okWide_slice Try.underlying22 (hval 0 22 v0 rfl rfl)
  have k0 := h0
  have lt0 : ∀ x ∈ p0, x.block < W.heap.size := by obtain ⟨m, hm⟩ := k0; exact DataW.trod_lt m _ _ _ hm
  obtain ⟨w0, x0, y0⟩ := code_of_trod Try.underlying22 Try.underlying5 (by kernel_rfl) h0
  clear hA0 hval0
  refine (fnSplitNormal_walk a0 n0 c0 W (mx_of_shaped hsh) w0 x0 y0).mono fun e W' ⟨he, bel⟩ => ?_
  subst he
  exact ⟨_, rfl, _, _, _, [], _, [], hW', trodAll_mk1 (shut_bool Try.underlying4 _), (trodAll_cons_mk (Below.trod laidOut (by kernel_rfl) (of_decide_eq_true (by kernel_rfl)) k0 bel lt0) trodAll_mk0), rfl, bel.frame _, fun h => by cases h⟩
/-- FnSplitNormal: THE STATEMENT. -/
theorem fnSplitNormal_holds : Rows.FnSplitNormalSaid :=
  OpenClaim.holds_of_wide 14 Try.f14 rfl rfl rfl rfl rfl rfl rfl ⟨rfl, rfl, rfl, rfl, rfl⟩ rfl rfl rfl rfl rfl (by kernel_rfl) Try.func14 (by kernel_rfl)
    (of_decide_eq_true (by kernel_rfl)) (by unfold Func.isWrapper; first | (rw [if_pos (by decide +kernel)]; kernel_rfl) | (rw [if_neg (by decide +kernel)]; exact ⟨rfl, rfl⟩))
    (fun os started H enc _ => fnSplitNormal_lifted os started H enc)
end Go.Proofs.Ytnlnkcjphioehaa
