/-
  What is read is sent: each law's walk. For every input of the law: it returns true, and the input reads as it did. Conditions: none but the statement's own.
-/
import Derived.Test.YtnlnkcjphioehaaLaw0
import Derived.Test.YtnlnkcjphioehaaDrLin
namespace Go.Proofs.Ytnlnkcjphioehaa
open Go.ChangeShapes Go.WideShapes Go.ChangeAt Go.RowKit
open Go.ChangeMaps (open_string shut_string)

theorem sel9u_t (s : ByteArray) : (s.toList == s.toList) = true := by simp
theorem sel9u_f (s : ByteArray) : (s.toList != s.toList) = false := by simp
set_option maxRecDepth 100000 in
set_option maxHeartbeats 4000000 in
theorem fnUnstuffText_walk (a : Option Addr) (n c : Nat) (w : World) (hmx : ∃ m, w.cell? ⟨0, 0, none⟩ = some (.int .i64 m)) (hc : Code w a n) (hnc : n ≤ c) (hm : c ≤ maxLen) :
    Calls Try.prog 4 #[.slice a n c] w fun e w' => e = .returned (.bool true) ∧ Below w.heap.size w w' := by
  have hm' := hm
  unfold maxLen at hm'
  have HMX : Hid (∀ u, Below w.heap.size w u → MxL u) := fun u h => MxL.below hmx h
  by_cases hn : 1048576 < n
  · have hd : decide ((1048576 : Int) < n) = true := by simp; omega
    go_enter Try.func4, Try.ntmps4
    go_wp2
    go_ret
    exact ⟨rfl, Below.refl _ _⟩
  have hd : decide ((1048576 : Int) < n) = false := by simp; omega
  go_enter Try.func4, Try.ntmps4
  go_wp2_with fail
  refine (drawUnstuffText_any a n c w hc hnc hm).mono ?_
  rintro e w1 ⟨s, rfl, hs, hb1⟩
  have HI := Lib.hid (fun u (h : MxL u) => unstuffText_any s u h (by omega))
  have HS := Lib.hid (fun u => unstuffTextS_any s u (by omega))
  cases ho : unsW s.data.toList with
  | none =>
    rw [ho] at HI HS
    clear ho
    have HMW := Lib.hid (fun u (a2 a3 : Option Addr) (c2 c3 : Nat) (h1 : RdL u a2 0 []) (h2 : RdL u a3 0 []) => mwTexts_any a2 a3 0 c2 0 c3 [] [] u h1 h2 (by unfold maxLen; omega) (by unfold maxLen; omega))
    go_wp2_with fail
    refine (HI.out _ (HMX.out _ hb1)).mono ?_
    intro e w2 h2
    obtain ⟨a2, c2, rfl, _, hr2, hb2⟩ := h2.none'
    clear h2
    go_wp2_with fail
    refine (HS.out _).mono ?_
    intro e w3 h3
    obtain ⟨a3, c3, rfl, _, hr3, hb3⟩ := h3.none'
    clear h3
    have HR2 := Lib.hid (hr2.below hb3)
    have HR3 := Lib.hid hr3
    clear hr2 hr3
    go_wp2_with fail
    refine (HMW.out _ _ _ _ _ HR2.out HR3.out).mono ?_
    rintro e w4 ⟨rfl, hb4⟩
    go_wp2_with fail
    refine (HMW.out _ _ _ _ _ (HR2.out.below hb4) (HR3.out.below hb4)).mono ?_
    rintro e w5 ⟨rfl, hb5⟩
    go_wp2
    go_ret
    exact ⟨rfl, nx (nx (nx (nx hb1 hb2) hb3) hb4) hb5⟩
  | some p =>
    obtain ⟨xs, r⟩ := p
    rw [ho] at HI HS
    have hlen : xs.length + r.length ≤ 2000 ∧ ∀ l ∈ xs, isText l = true := by
      unfold unsW at ho
      split at ho
      · rename_i h0
        have := unsN_lens _ _ _ ho
        exact ⟨Nat.le_trans this.1 h0, this.2⟩
      · cases ho
    obtain ⟨hlen, htx⟩ := hlen
    have hx9 : ∀ x ∈ xs, x.length ≤ 1073741000 := fun x h => by
      have := htx x h
      unfold isText at this; simp at this; omega
    clear ho
    have er : ((str r).toList != (str r).toList) = false := sel9u_f _
    have er2 : ((str r).toList == (str r).toList) = true := sel9u_t _
    have hrz : (str r).size = r.length := str_size r
    have HRL : Hid ((str r).data.toList = r) := str_list r
    have HI' : Hid (∀ u, MxL u → Calls Try.prog 18 #[.string s] u fun e w' => ∃ a c, e = .returned (.tuple #[.slice a xs.length c, .string (str r), .bool true]) ∧ RdL w' a xs.length xs ∧ Below u.heap.size u w') := fun u h => (HI.out u h).mono fun e w' h => by
      obtain ⟨a, c, h1, _, h2, h3⟩ := h.some'
      exact ⟨a, c, h1, h2, h3⟩
    have HS' : Hid (∀ u, Calls Try.prog 21 #[.string s] u fun e w' => ∃ a c, e = .returned (.tuple #[.slice a xs.length c, .string (str r), .bool true]) ∧ RdL w' a xs.length xs ∧ Below u.heap.size u w') := fun u => (HS.out u).mono fun e w' h => by
      obtain ⟨a, c, h1, _, h2, h3⟩ := h.some'
      exact ⟨a, c, h1, h2, h3⟩
    have HMW := Lib.hid (fun u (a2 a3 : Option Addr) (c2 c3 : Nat) (h1 : RdL u a2 xs.length xs) (h2 : RdL u a3 xs.length xs) => mwTexts_any a2 a3 xs.length c2 xs.length c3 xs xs u h1 h2 (by unfold maxLen; omega) (by unfold maxLen; omega))
    rw [decide_eq_true (rfl : xs = xs)] at HMW
    have HJ := Lib.hid (fun u (a2 : Option Addr) (c2 : Nat) (h : RdL u a2 xs.length xs) => stuffLines_any a2 xs.length c2 xs u h (by omega) hx9)
    clear HI HS
    have HTX := Lib.hid htx
    clear htx hx9
    generalize hR : str r = R at *
    have HRR := Lib.hid hR
    clear hR
    go_wp2_with fail
    refine (HI'.out _ (HMX.out _ hb1)).mono ?_
    rintro e w2 ⟨a2, c2, rfl, hr2, hb2⟩
    go_wp2_with fail
    refine (HS'.out _).mono ?_
    rintro e w3 ⟨a3, c3, rfl, hr3, hb3⟩
    have HR2 := Lib.hid (hr2.below hb3)
    have HR3 := Lib.hid hr3
    have HB3 := Lib.hid (nx (nx hb1 hb2) hb3)
    clear hr2 hr3 hb2 hb3 hb1
    go_wp2_with fail
    refine (HMW.out _ _ _ _ _ HR2.out HR3.out).mono ?_
    rintro e w4 ⟨rfl, hb4⟩
    have HB4 := Lib.hid (nx HB3.out hb4)
    have HR24 := Lib.hid (HR2.out.below hb4)
    cases hst : stuW xs with
    | none =>
      rw [hst] at HJ
      have HJ' : Hid (∀ u (a2 : Option Addr) (c2 : Nat), RdL u a2 xs.length xs → Calls Try.prog 16 #[.slice a2 xs.length c2] u fun e w' => e = .returned (.tuple #[.string (str ((none : Option (List UInt8)).getD [])), .bool false]) ∧ Below u.heap.size u w') := HJ.out
      have hzb : (str ((none : Option (List UInt8)).getD [])).size = 0 := rfl
      clear hst HJ
      generalize str ((none : Option (List UInt8)).getD []) = B at *
      go_wp2_with fail
      refine (HJ'.out _ _ _ HR24.out).mono ?_
      rintro e w5 ⟨rfl, hb5⟩
      have HU := Lib.hid (unstuffText_any (B ++ R) w5 (HMX.out _ (nx HB4.out hb5)) (by rw [ByteArray.size_append]; omega))
      generalize unsW (B ++ R).data.toList = o at *
      go_wp2_with fail
      refine HU.out.mono ?_
      rintro e w6 ⟨v6, rfl, ho6, hb6⟩
      clear HU
      generalize str (o.getD ([], [])).2 = Q at *
      generalize o.isSome = k at *
      obtain ⟨a6, c6, rfl, _, _⟩ := ho6.read
      clear ho6
      go_wp2
      go_ret
      exact ⟨rfl, nx (nx HB4.out hb5) hb6⟩
    | some T =>
      obtain ⟨rfl, ht, hsl⟩ := stuW_some hst
      rw [hst] at HJ
      have HJ' : Hid (∀ u (a2 : Option Addr) (c2 : Nat), RdL u a2 xs.length xs → Calls Try.prog 16 #[.slice a2 xs.length c2] u fun e w' => e = .returned (.tuple #[.string (str (stuAll xs)), .bool true]) ∧ Below u.heap.size u w') := HJ.out
      have hzb : (str (stuAll xs)).size = (stuAll xs).length := str_size _
      have HTL : Hid ((str (stuAll xs) ++ R).data.toList = stuAll xs ++ r) := by show _ = _; rw [Joins.data_append, str_list, HRL.out]
      have HSZ : Hid ((str (stuAll xs) ++ R).size = (str (stuAll xs)).size + R.size) := ByteArray.size_append
      have HU := Lib.hid (fun u (h : MxL u) => unstuffText_any (str (stuAll xs) ++ R) u h (by rw [HSZ.out]; omega))
      rw [HTL.out] at HU
      clear hst HJ
      by_cases hlong : 2000 < (stuAll xs).length + r.length
      · rw [show unsW (stuAll xs ++ r) = none from by unfold unsW; rw [if_neg (by simp; omega)]] at HU
        have d0 : decide ((2000 : Int) < ((str (stuAll xs) ++ R).size : Int)) = true := decide_eq_true (by rw [HSZ.out]; omega)
        have d1 : decide ((2000 : Int) < ((str (stuAll xs)).size : Int) + (R.size : Int)) = true := decide_eq_true (by omega)
        have hz1 : (str (stuAll xs)).size ≤ 2000 := by omega
        have hz2 : R.size ≤ 2000 := by omega
        clear hzb hrz
        generalize str (stuAll xs) = B at *
        go_wp2_with fail
        refine (HJ'.out _ _ _ HR24.out).mono ?_
        rintro e w5 ⟨rfl, hb5⟩
        go_wp2_with fail
        refine (HU.out _ (HMX.out _ (nx HB4.out hb5))).mono ?_
        intro e w6 h6
        obtain ⟨a6, c6, rfl, _, _, hb6⟩ := h6.none'
        clear h6
        go_wp2
        go_ret
        exact ⟨rfl, nx (nx HB4.out hb5) hb6⟩
      · rw [show unsW (stuAll xs ++ r) = some (xs, r) from unsW_stu r HTX.out (by simp; omega)] at HU
        have d0 : decide ((2000 : Int) < ((str (stuAll xs) ++ R).size : Int)) = false := decide_eq_false (by rw [HSZ.out]; omega)
        have d1 : decide ((2000 : Int) < ((str (stuAll xs)).size : Int) + (R.size : Int)) = false := decide_eq_false (by omega)
        have hz1 : (str (stuAll xs)).size ≤ 2000 := by omega
        have hz2 : R.size ≤ 2000 := by omega
        have HU' : Hid (∀ u, MxL u → Calls Try.prog 18 #[.string (str (stuAll xs) ++ R)] u fun e w' => ∃ a c, e = .returned (.tuple #[.slice a xs.length c, .string R, .bool true]) ∧ RdL w' a xs.length xs ∧ Below u.heap.size u w') := fun u h => (HU.out u h).mono fun e w' h => by
          obtain ⟨a, c, h1, _, h2, h3⟩ := h.some'
          exact ⟨a, c, by rw [h1, HRR.out], h2, h3⟩
        clear hzb hrz HU
        generalize str (stuAll xs) = B at *
        go_wp2_with fail
        refine (HJ'.out _ _ _ HR24.out).mono ?_
        rintro e w5 ⟨rfl, hb5⟩
        go_wp2_with fail
        refine (HU'.out _ (HMX.out _ (nx HB4.out hb5))).mono ?_
        rintro e w6 ⟨a6, c6, rfl, hr6, hb6⟩
        have R6 := Lib.hid hr6
        have R26 := Lib.hid ((HR24.out.below hb5).below hb6)
        clear hr6
        go_wp2_with fail
        refine (HMW.out _ _ _ _ _ R6.out R26.out).mono ?_
        rintro e w7 ⟨rfl, hb7⟩
        go_wp2
        go_ret
        exact ⟨rfl, nx (nx (nx HB4.out hb5) hb6) hb7⟩
set_option maxRecDepth 100000 in
theorem fnUnstuffText_lifted (os : Os) (started : os.Started) (H : Type) (enc : TypeId × Value → H) :
    ReturnsInHanded {} Try.checked os 4 .any (Rows.fnUnstuffTextSpec.pre6 enc Try.prog Try.f4 Rows.fnUnstuffTextRow.domain false) (Rows.fnUnstuffTextSpec.post enc Try.prog Try.f4 false true false false) := by
  refine returnsInHanded_of_change_shaped (C := Try.checked) own started (by kernel_rfl) Try.func4
    (ChangeSpec.witness6 (enc := enc) (C := Try.checked) false ⟨#[], #[.slice none 0 0], []⟩ 8 (by kernel_rfl) (by kernel_rfl) (by kernel_rfl) (by kernel_rfl)) ?_
  intro W base args ds gs before hval0 hW hcnd _ hsh _
  have hval : ∀ (j : Nat) t v, Try.f4.params[j]? = some t → args[j]? = some v → Value.okWide Try.prog W .any base t v := hval0
  have hW' := hW
  obtain ⟨p, q, hA0, hV, rfl, hfz, hnd⟩ := hW
  have hA : DataW.TrodAll enc Try.prog W 0 (fun _ => true) true Try.f4.params.toList args.toList ds p := hA0
  rw [Try.params4] at hA hval
  obtain ⟨v0, vs0, d0, ds0, p0, q0, hargs, rfl, rfl, h0, r0⟩ := trodAll_cons hA
  obtain ⟨rfl, rfl, rfl⟩ := trodAll_nil r0
  obtain rfl : args = #[v0] := by cases args; simp_all
  obtain ⟨rfl, rfl⟩ := trodVars_none hV
  obtain ⟨a0, n0, c0, rfl⟩ := okWide_slice Try.underlying22 (hval 0 22 v0 rfl rfl)
  have k0 := h0
  have lt0 : ∀ x ∈ p0, x.block < W.heap.size := by obtain ⟨m, hm⟩ := k0; exact DataW.trod_lt m _ _ _ hm
  obtain ⟨w0, x0, y0⟩ := code_of_trod Try.underlying22 Try.underlying5 (by kernel_rfl) h0
  clear hA0 hval0
  refine (fnUnstuffText_walk a0 n0 c0 W (mx_of_shaped hsh) w0 x0 y0).mono fun e W' ⟨he, bel⟩ => ?_
  subst he
  exact ⟨_, rfl, _, _, _, [], _, [], hW', trodAll_mk1 (shut_bool Try.underlying4 _), (trodAll_cons_mk (Below.trod laidOut (by kernel_rfl) (of_decide_eq_true (by kernel_rfl)) k0 bel lt0) trodAll_mk0), rfl, bel.frame _, fun h => by cases h⟩
/-- FnUnstuffText: THE STATEMENT. -/
theorem fnUnstuffText_holds : Rows.FnUnstuffTextSaid :=
  OpenClaim.holds_of_wide 4 Try.f4 rfl rfl rfl rfl rfl rfl rfl ⟨rfl, rfl, rfl, rfl, rfl⟩ rfl rfl rfl rfl rfl (by kernel_rfl) Try.func4 (by kernel_rfl)
    (of_decide_eq_true (by kernel_rfl)) (by unfold Func.isWrapper; first | (rw [if_pos (by decide +kernel)]; kernel_rfl) | (rw [if_neg (by decide +kernel)]; exact ⟨rfl, rfl⟩))
    (fun os started H enc _ => fnUnstuffText_lifted os started H enc)
end Go.Proofs.Ytnlnkcjphioehaa
