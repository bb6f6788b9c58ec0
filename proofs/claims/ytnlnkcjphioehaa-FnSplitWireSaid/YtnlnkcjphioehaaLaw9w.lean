/-
  Nothing is lost: each law's walk. For every input of the law: it returns true, and the input reads as it did. Conditions: none but the statement's own.
-/
import Derived.Test.YtnlnkcjphioehaaLaw0
import Derived.Test.YtnlnkcjphioehaaDrLin
namespace Go.Proofs.Ytnlnkcjphioehaa
open Go.ChangeShapes Go.WideShapes Go.ChangeAt Go.RowKit
open Go.ChangeMaps (open_string shut_string)

theorem sel9w_t (s : ByteArray) : (s.toList == s.toList) = true := by simp
theorem sel9w_f (s : ByteArray) : (s.toList != s.toList) = false := by simp
theorem endsL_step {ls : List (List UInt8)} {k : Nat} (h : k < ls.length) : endsL (ls.take (k + 1)) = endsL (ls.take k) ++ (ls[k] ++ [13, 10]) := by
  unfold endsL; rw [List.take_succ_eq_append_getElem h, List.flatMap_append]; simp
theorem endsL_le (ls : List (List UInt8)) (k : Nat) : (endsL (ls.take k)).length ≤ (endsL ls).length := by
  have : endsL ls = endsL (ls.take k) ++ endsL (ls.drop k) := by unfold endsL; rw [← List.flatMap_append, List.take_append_drop]
  rw [this, List.length_append]; omega
set_option maxRecDepth 100000 in
set_option maxHeartbeats 4000000 in
theorem fnSplitWire_walk (a : Option Addr) (n c : Nat) (w : World) (hmx : ∃ m, w.cell? ⟨0, 0, none⟩ = some (.int .i64 m)) (hc : Code w a n) (hnc : n ≤ c) (hm : c ≤ maxLen) :
    Calls Try.prog 7 #[.slice a n c] w fun e w' => e = .returned (.bool true) ∧ Below w.heap.size w w' := by
  have hm' := hm
  unfold maxLen at hm'
  have HMX : Hid (∀ u, Below w.heap.size w u → MxL u) := fun u h => MxL.below hmx h
  by_cases hn : 1048576 < n
  · have hd : decide ((1048576 : Int) < n) = true := by simp; omega
    go_enter Try.func7, Try.ntmps7
    go_wp2
    go_ret
    exact ⟨rfl, Below.refl _ _⟩
  have hd : decide ((1048576 : Int) < n) = false := by simp; omega
  go_enter Try.func7, Try.ntmps7
  go_wp2_with fail
  refine (drawSplitWire_any a n c w hc hnc hm).mono ?_
  rintro e w1 ⟨s, rfl, hs, hb1⟩
  have HI := Lib.hid (fun u (h : MxL u) => splitWire_any s u h (by omega))
  have HS := Lib.hid (fun u => splitWireS_any s u (by omega))
  have hlens := spliN_lens (s.data.toList.length + 1) s.data.toList
  have HJN := Lib.hid (spliN_join (s.data.toList.length + 1) s.data.toList)
  have HRS := Lib.hid (spliN_rest (s.data.toList.length + 1) s.data.toList (by omega))
  obtain ⟨xs, hxs⟩ : ∃ xs, (spliL s.data.toList).1 = xs := ⟨_, rfl⟩
  obtain ⟨r, hr⟩ : ∃ r, (spliL s.data.toList).2 = r := ⟨_, rfl⟩
  have hp : spliL s.data.toList = (xs, r) := by rw [← hxs, ← hr]
  rw [hp] at HI HS
  unfold spliL at hp
  rw [hp] at hlens HJN HRS
  rw [size_list] at hlens
  clear hp hxs hr
  have hxl : xs.length ≤ 18 := by have := hlens.1; simp at this; omega
  have hrl : r.length ≤ 18 := by have := hlens.1; simp at this; omega
  have HXL : Hid (∀ l ∈ xs, l.length ≤ 18) := fun l h => by have := hlens.2 l h; omega
  clear hlens
  have hel : (endsL xs).length ≤ 18 := by have := congrArg List.length HJN.out; simp at this; omega
  have HEL := Lib.hid (endsL_le xs)
  have hrz : (str r).size ≤ 18 := by rw [str_size]; exact hrl
  have HJ := Lib.hid (fun u (h : MxL u) => splitWire_any (str r) u h (by omega))
  rw [str_list, spliL_of_none HRS.out] at HJ
  have HMW := Lib.hid (fun u (a2 a3 : Option Addr) (c2 c3 : Nat) (h1 : RdL u a2 xs.length xs) (h2 : RdL u a3 xs.length xs) => mwTexts_any a2 a3 xs.length c2 xs.length c3 xs xs u h1 h2 (by unfold maxLen; omega) (by unfold maxLen; omega))
  rw [decide_eq_true (rfl : xs = xs)] at HMW
  have e1 := sel9w_f (str r)
  have e2 := sel9w_t (str r)
  have HES : Hid (str (endsL xs) ++ str r = s) := by show _ = _; apply bytes_ext; rw [Joins.data_append, str_list, str_list]; exact HJN.out
  have z2 : (ByteArray.mk #[13, 10]).size = 2 := rfl
  have HI' : Hid (∀ u, MxL u → Calls Try.prog 29 #[.string s] u fun e w' => ∃ a c, e = .returned (.tuple #[.slice a xs.length c, .string (str r)]) ∧ RdL w' a xs.length xs ∧ Below u.heap.size u w') := fun u h => (HI.out u h).mono fun e w' h => by
    obtain ⟨a, c, h1, _, h2, h3⟩ := h.out'
    exact ⟨a, c, h1, h2, h3⟩
  have HS' : Hid (∀ u, Calls Try.prog 30 #[.string s] u fun e w' => ∃ a c, e = .returned (.tuple #[.slice a xs.length c, .string (str r)]) ∧ RdL w' a xs.length xs ∧ Below u.heap.size u w') := fun u => (HS.out u).mono fun e w' h => by
    obtain ⟨a, c, h1, _, h2, h3⟩ := h.out'
    exact ⟨a, c, h1, h2, h3⟩
  have HJ' : Hid (∀ u, MxL u → Calls Try.prog 29 #[.string (str r)] u fun e w' => ∃ a c, e = .returned (.tuple #[.slice a 0 c, .string (str r)]) ∧ Below u.heap.size u w') := fun u h => (HJ.out u h).mono fun e w' h => by
    obtain ⟨a, c, h1, _, h2, h3⟩ := h.out'
    exact ⟨a, c, h1, h3⟩
  clear HI HS HJ HRS HJN hrl
  generalize str r = R at *
  go_wp2_with fail
  refine (HI'.out _ (HMX.out _ hb1)).mono ?_
  rintro e w2 ⟨a2, c2, rfl, hr2, hb2⟩
  go_wp2_with fail
  refine (HS'.out _).mono ?_
  rintro e w3 ⟨a3, c3, rfl, hr3, hb3⟩
  have HR2 := Lib.hid (hr2.below hb3)
  have HR3 := Lib.hid hr3
  have HB3 := Lib.hid (nx (nx hb1 hb2) hb3)
  clear hr2 hr3 hb2 hb3 hb1
  go_wp2_with fail
  refine (HMW.out _ _ _ _ _ HR2.out HR3.out).mono ?_
  rintro e w4 ⟨rfl, hb4⟩
  have HR4 := Lib.hid (HR2.out.below hb4).2
  have HB4 := Lib.hid (nx HB3.out hb4)
  clear hb4
  go_wp2_with fail
  go_loop [8, 9] (fun t i => ∃ k : Nat, k ≤ xs.length ∧ i = .int .i64 k ∧ t = .string (str (endsL (xs.take k)))) (fun _ i => xs.length - (intOf i).toNat)
  case atStart => exact ⟨0, Nat.zero_le _, rfl, rfl⟩
  case round =>
    obtain ⟨k, hk, rfl, rfl⟩ := hrel
    by_cases hlt : k < xs.length
    · obtain ⟨b, off, rfl, hbl, hcell⟩ := HR4.out.resolve_left (by omega)
      have c0 : w4.cell? ⟨b, off + k, none⟩ = some (.string (str xs[k])) := hcell k hlt
      have hxz : (str xs[k]).size ≤ 18 := by rw [str_size]; exact HXL.out _ (List.getElem_mem hlt)
      have hoz : (str (endsL (xs.take k))).size ≤ 18 := by rw [str_size]; have := HEL.out k; omega
      have HN : Hid (str (endsL (xs.take k)) ++ str xs[k] ++ ByteArray.mk #[13, 10] = str (endsL (xs.take (k + 1)))) := by
        show _ = _
        apply bytes_ext; rw [str_list, endsL_step hlt, Joins.data_append, Joins.data_append, str_list, str_list]; simp
      clear hcell
      generalize str xs[k] = X at *
      generalize str (endsL (xs.take k)) = O at *
      go_wp2
      go_round
      case rel => exact ⟨k + 1, by omega, by go_num, by rw [HN.out]⟩
      case measure => simp [intOf]; omega
    · have htk : xs.take k = xs := List.take_of_length_le (by omega)
      rw [htk]
      have e5 : ((str (endsL xs) ++ R).toList == s.toList) = true := by rw [HES.out]; simp
      have hez : (str (endsL xs)).size ≤ 18 := by rw [str_size]; exact hel
      clear htk
      generalize str (endsL xs) = O at *
      go_wp2_with fail
      refine (HJ'.out _ (HMX.out _ HB4.out)).mono ?_
      rintro e w5 ⟨a5, c5, rfl, hb5⟩
      go_wp2
      go_ret
      exact ⟨rfl, nx HB4.out hb5⟩
set_option maxRecDepth 100000 in
theorem fnSplitWire_lifted (os : Os) (started : os.Started) (H : Type) (enc : TypeId × Value → H) :
    ReturnsInHanded {} Try.checked os 7 .any (Rows.fnSplitWireSpec.pre6 enc Try.prog Try.f7 Rows.fnSplitWireRow.domain false) (Rows.fnSplitWireSpec.post enc Try.prog Try.f7 false true false false) := by
  refine returnsInHanded_of_change_shaped (C := Try.checked) own started (by kernel_rfl) Try.func7
    (ChangeSpec.witness6 (enc := enc) (C := Try.checked) false ⟨#[], #[.slice none 0 0], []⟩ 8 (by kernel_rfl) (by kernel_rfl) (by kernel_rfl) (by kernel_rfl)) ?_
  intro W base args ds gs before hval0 hW hcnd _ hsh _
  have hval : ∀ (j : Nat) t v, Try.f7.params[j]? = some t → args[j]? = some v → Value.okWide Try.prog W .any base t v := hval0
  have hW' := hW
  obtain ⟨p, q, hA0, hV, rfl, hfz, hnd⟩ := hW
  have hA : DataW.TrodAll enc Try.prog W 0 (fun _ => true) true Try.f7.params.toList args.toList ds p := hA0
  rw [Try.params7] at hA hval
  obtain ⟨v0, vs0, d0, ds0, p0, q0, hargs, rfl, rfl, h0, r0⟩ := trodAll_cons hA
  obtain ⟨rfl, rfl, rfl⟩ := trodAll_nil r0
  obtain rfl : args = #[v0] := by cases args; simp_all
  obtain ⟨rfl, rfl⟩ := trodVars_none hV
  obtain ⟨a0, n0, c0, rfl⟩ := okWide_slice Try.underlying22 (hval 0 22 v0 rfl rfl)
  have k0 := h0
  have lt0 : ∀ x ∈ p0, x.block < W.heap.size := by obtain ⟨m, hm⟩ := k0; exact DataW.trod_lt m _ _ _ hm
  obtain ⟨w0, x0, y0⟩ := code_of_trod Try.underlying22 Try.underlying5 (by kernel_rfl) h0
  clear hA0 hval0
  refine (fnSplitWire_walk a0 n0 c0 W (mx_of_shaped hsh) w0 x0 y0).mono fun e W' ⟨he, bel⟩ => ?_
  subst he
  exact ⟨_, rfl, _, _, _, [], _, [], hW', trodAll_mk1 (shut_bool Try.underlying4 _), (trodAll_cons_mk (Below.trod laidOut (by kernel_rfl) (of_decide_eq_true (by kernel_rfl)) k0 bel lt0) trodAll_mk0), rfl, bel.frame _, fun h => by cases h⟩
/-- FnSplitWire: THE STATEMENT. -/
theorem fnSplitWire_holds : Rows.FnSplitWireSaid :=
  OpenClaim.holds_of_wide 7 Try.f7 rfl rfl rfl rfl rfl rfl rfl ⟨rfl, rfl, rfl, rfl, rfl⟩ rfl rfl rfl rfl rfl (by kernel_rfl) Try.func7 (by kernel_rfl)
    (of_decide_eq_true (by kernel_rfl)) (by unfold Func.isWrapper; first | (rw [if_pos (by decide +kernel)]; kernel_rfl) | (rw [if_neg (by decide +kernel)]; exact ⟨rfl, rfl⟩))
    (fun os started H enc _ => fnSplitWire_lifted os started H enc)
end Go.Proofs.Ytnlnkcjphioehaa
