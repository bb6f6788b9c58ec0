/-
  Messages follow each other: each law's walk. For every input of the law: it returns true, and the input reads as it did. Conditions: none but the statement's own.
-/
import Derived.Test.YtnlnkcjphioehaaLaw0
import Derived.Test.YtnlnkcjphioehaaDrLin
namespace Go.Proofs.Ytnlnkcjphioehaa
open Go.ChangeShapes Go.WideShapes Go.ChangeAt Go.RowKit
open Go.ChangeMaps (open_string shut_string)

theorem sel9d_t (s : ByteArray) : (s.toList == s.toList) = true := by simp
theorem sel9d_f (s : ByteArray) : (s.toList != s.toList) = false := by simp
theorem uns_both {xs ys : List (List UInt8)} (h1 : ∀ l ∈ xs, isText l = true) (h2 : ∀ l ∈ ys, isText l = true) (hl : (stuAll xs).length + (stuAll ys).length ≤ 2000) : unsW (stuAll xs ++ stuAll ys) = some (xs, stuAll ys) ∧ unsW (stuAll ys) = some (ys, []) :=
  ⟨unsW_stu _ h1 (by simp; omega), by have := unsW_stu (ls := ys) [] h2 (by simp; omega); simpa using this⟩
set_option maxRecDepth 100000 in
set_option maxHeartbeats 4000000 in
theorem fnStuffTwo_walk (a : Option Addr) (n c : Nat) (b : Option Addr) (n2 c2 : Nat) (w : World) (hmx : ∃ m, w.cell? ⟨0, 0, none⟩ = some (.int .i64 m)) (hc : Code w a n) (hnc : n ≤ c) (hm : c ≤ maxLen) (hcb : Code w b n2) (hnc2 : n2 ≤ c2) (hm2 : c2 ≤ maxLen) :
    Calls Try.prog 10 #[.slice a n c, .slice b n2 c2] w fun e w' => e = .returned (.bool true) ∧ Below w.heap.size w w' := by
  have hm' := hm
  unfold maxLen at hm'
  have hm2' := hm2
  unfold maxLen at hm2'
  have HMX : Hid (∀ u, Below w.heap.size w u → MxL u) := fun u h => MxL.below hmx h
  by_cases hn : 1048576 < n
  · have hd : decide ((1048576 : Int) < n) = true := by simp; omega
    go_enter Try.func10, Try.ntmps10
    go_wp2
    go_ret
    exact ⟨rfl, Below.refl _ _⟩
  have hd : decide ((1048576 : Int) < n) = false := by simp; omega
  by_cases hn2 : 1048576 < n2
  · have hd2 : decide ((1048576 : Int) < n2) = true := by simp; omega
    go_enter Try.func10, Try.ntmps10
    go_wp2
    go_ret
    exact ⟨rfl, Below.refl _ _⟩
  have hd2 : decide ((1048576 : Int) < n2) = false := by simp; omega
  go_enter Try.func10, Try.ntmps10
  go_wp2_with fail
  refine (drawStuffLines_any a n c w hc hnc hm).mono ?_
  rintro e w1 ⟨v, xs, rfl, ho, hl, hx, hb1⟩
  obtain ⟨a1, c1, rfl, hr1, _⟩ := ho.read
  have HR1 := Lib.hid hr1
  have hx9 : ∀ x ∈ xs, x.length ≤ 1073741000 := fun x h => by have := hx x h; omega
  have HI := Lib.hid (fun u h => stuffLines_any a1 xs.length c1 xs u h (by omega) hx9)
  have HS := Lib.hid (fun u h => stuffLinesS_any a1 xs.length c1 xs u h (by omega) hx9)
  clear ho hx hx9
  cases hst : stuW xs with
  | none =>
    rw [hst] at HI HS
    clear hst hr1
    have e1 := sel9d_f (str ((none : Option (List UInt8)).getD []))
    have e2 := sel9d_t (str ((none : Option (List UInt8)).getD []))
    have e3 : (str ((none : Option (List UInt8)).getD [])).toList.isEmpty = true := empty_t rfl
    have HI' : Hid (∀ u, RdL u a1 xs.length xs → Calls Try.prog 16 #[.slice a1 xs.length c1] u fun e w' => e = .returned (.tuple #[.string (str ((none : Option (List UInt8)).getD [])), .bool false]) ∧ Below u.heap.size u w') := HI.out
    have HS' : Hid (∀ u, RdL u a1 xs.length xs → Calls Try.prog 17 #[.slice a1 xs.length c1] u fun e w' => e = .returned (.tuple #[.string (str ((none : Option (List UInt8)).getD [])), .bool false]) ∧ u = w') := HS.out
    clear HI HS
    generalize str ((none : Option (List UInt8)).getD []) = B at *
    go_wp2_with fail
    refine (HI'.out _ HR1.out).mono ?_
    rintro e w2 ⟨rfl, hb2⟩
    go_wp2_with fail
    refine (HS'.out _ (HR1.out.below hb2)).mono ?_
    rintro e w3 ⟨rfl, rfl⟩
    go_wp2
    go_ret
    exact ⟨rfl, nx hb1 hb2⟩
  | some S =>
    obtain ⟨rfl, ht, hsl⟩ := stuW_some hst
    rw [hst] at HI HS
    have e1 := sel9d_f (str (stuAll xs))
    have HI' : Hid (∀ u, RdL u a1 xs.length xs → Calls Try.prog 16 #[.slice a1 xs.length c1] u fun e w' => e = .returned (.tuple #[.string (str (stuAll xs)), .bool true]) ∧ Below u.heap.size u w') := HI.out
    have HS' : Hid (∀ u, RdL u a1 xs.length xs → Calls Try.prog 17 #[.slice a1 xs.length c1] u fun e w' => e = .returned (.tuple #[.string (str (stuAll xs)), .bool true]) ∧ u = w') := HS.out
    clear HI HS
    have hz : (str (stuAll xs)).size = (stuAll xs).length := str_size _
    have hge : 3 ≤ (stuAll xs).length := by rw [stuAll_len]; omega
    have HZL : Hid ((str (stuAll xs)).data.toList = stuAll xs) := str_list _
    have HT := Lib.hid ht
    clear ht hst hr1
    have HCB := Lib.hid (fun u (h : Below w.heap.size w u) => drawStuffLines_any b n2 c2 u (hcb.below h) hnc2 hm2)
    generalize hBB : str (stuAll xs) = B at *
    have HBB := Lib.hid hBB
    clear hBB
    go_wp2_with fail
    refine (HI'.out _ HR1.out).mono ?_
    rintro e w2 ⟨rfl, hb2⟩
    go_wp2_with fail
    refine (HS'.out _ (HR1.out.below hb2)).mono ?_
    rintro e w3 ⟨rfl, rfl⟩
    have HB2 := Lib.hid (nx hb1 hb2)
    have HR2 := Lib.hid (HR1.out.below hb2)
    clear hb1 hb2
    go_wp2_with fail
    refine (HCB.out _ HB2.out).mono ?_
    rintro e w4 ⟨v4, ys, rfl, ho4, hl4, hx4, hb4⟩
    obtain ⟨a4, c4, rfl, hr4, _⟩ := ho4.read
    have HR4 := Lib.hid hr4
    have hx8 : ∀ x ∈ ys, x.length ≤ 1073741000 := fun x h => by have := hx4 x h; omega
    have HJ := Lib.hid (stuffLines_any a4 ys.length c4 ys w4 hr4 (by omega) hx8)
    have HB4 := Lib.hid (nx HB2.out hb4)
    have HR24 := Lib.hid (HR2.out.below hb4)
    clear ho4 hx4 hx8 hr4 hb4
    cases hst2 : stuW ys with
    | none =>
      rw [hst2] at HJ
      clear hst2
      go_wp2_with fail
      refine HJ.out.mono ?_
      rintro e w5 ⟨rfl, hb5⟩
      go_wp2
      go_ret
      exact ⟨rfl, nx HB4.out hb5⟩
    | some T =>
      obtain ⟨rfl, ht2, hsl2⟩ := stuW_some hst2
      rw [hst2] at HJ
      have HT2 := Lib.hid ht2
      clear hst2 ht2
      have HJ' : Hid (Calls Try.prog 16 #[.slice a4 ys.length c4] w4 fun e w' => e = .returned (.tuple #[.string (str (stuAll ys)), .bool true]) ∧ Below w4.heap.size w4 w') := HJ.out
      clear HJ
      have hzt : (str (stuAll ys)).size = (stuAll ys).length := str_size _
      by_cases hlong : 2000 < (stuAll xs).length + (stuAll ys).length
      · have d0 : decide ((2000 : Int) < (B.size : Int) + ((str (stuAll ys)).size : Int)) = true := decide_eq_true (by omega)
        have hz1 : B.size ≤ 2000 := by omega
        have hz2 : (str (stuAll ys)).size ≤ 2000 := by omega
        clear hz hzt
        generalize str (stuAll ys) = T at *
        go_wp2_with fail
        refine HJ'.out.mono ?_
        rintro e w5 ⟨rfl, hb5⟩
        go_wp2
        go_ret
        exact ⟨rfl, nx HB4.out hb5⟩
      · have d0 : decide ((2000 : Int) < (B.size : Int) + ((str (stuAll ys)).size : Int)) = false := decide_eq_false (by omega)
        have hz1 : B.size ≤ 2000 := by omega
        have hz2 : (str (stuAll ys)).size ≤ 2000 := by omega
        obtain ⟨u1, u2⟩ := uns_both HT.out HT2.out (by omega)
        have HU := Lib.hid (fun u (h : MxL u) => unstuffText_any (B ++ str (stuAll ys)) u h (by rw [ByteArray.size_append]; omega))
        rw [show (B ++ str (stuAll ys)).data.toList = stuAll xs ++ stuAll ys from by rw [Joins.data_append, ← HBB.out, str_list, str_list], u1] at HU
        have HV := Lib.hid (fun u (h : MxL u) => unstuffText_any (str (stuAll ys)) u h (by omega))
        rw [str_list, u2] at HV
        have HU' : Hid (∀ u, MxL u → Calls Try.prog 18 #[.string (B ++ str (stuAll ys))] u fun e w' => ∃ a c, e = .returned (.tuple #[.slice a xs.length c, .string (str (stuAll ys)), .bool true]) ∧ RdL w' a xs.length xs ∧ Below u.heap.size u w') := fun u h => (HU.out u h).mono fun e w' h => by
          obtain ⟨a, c, h1, _, h2, h3⟩ := h.some'
          exact ⟨a, c, h1, h2, h3⟩
        have e9 : (str ([] : List UInt8)).toList.isEmpty = true := empty_t rfl
        have HV' : Hid (∀ u, MxL u → Calls Try.prog 18 #[.string (str (stuAll ys))] u fun e w' => ∃ a c, e = .returned (.tuple #[.slice a ys.length c, .string (str []), .bool true]) ∧ RdL w' a ys.length ys ∧ Below u.heap.size u w') := fun u h => (HV.out u h).mono fun e w' h => by
          obtain ⟨a, c, h1, _, h2, h3⟩ := h.some'
          exact ⟨a, c, h1, h2, h3⟩
        have HM1 := Lib.hid (fun u (a2 : Option Addr) (c2 : Nat) (h1 : RdL u a2 xs.length xs) (h2 : RdL u a1 xs.length xs) => mwTexts_any a2 a1 xs.length c2 xs.length c1 xs xs u h1 h2 (by unfold maxLen; omega) (by unfold maxLen; omega))
        rw [decide_eq_true (rfl : xs = xs)] at HM1
        have HM2 := Lib.hid (fun u (a2 : Option Addr) (c2 : Nat) (h1 : RdL u a2 ys.length ys) (h2 : RdL u a4 ys.length ys) => mwTexts_any a2 a4 ys.length c2 ys.length c4 ys ys u h1 h2 (by unfold maxLen; omega) (by unfold maxLen; omega))
        rw [decide_eq_true (rfl : ys = ys)] at HM2
        clear hz hzt u1 u2 HU HV
        generalize str (stuAll ys) = T at *
        generalize str ([] : List UInt8) = Z at *
        go_wp2_with fail
        refine HJ'.out.mono ?_
        rintro e w5 ⟨rfl, hb5⟩
        have HB5 := Lib.hid (nx HB4.out hb5)
        go_wp2_with fail
        refine (HU'.out _ (HMX.out _ HB5.out)).mono ?_
        rintro e w6 ⟨a6, c6, rfl, hr6, hb6⟩
        have HB6 := Lib.hid (nx HB5.out hb6)
        have HR6 := Lib.hid hr6
        go_wp2_with fail
        refine (HV'.out _ (HMX.out _ HB6.out)).mono ?_
        rintro e w7 ⟨a7, c7, rfl, hr7, hb7⟩
        have HB7 := Lib.hid (nx HB6.out hb7)
        have HR7 := Lib.hid hr7
        have R67 := Lib.hid (HR6.out.below hb7)
        have R27 := Lib.hid (((HR24.out.below hb5).below hb6).below hb7)
        have R47 := Lib.hid (((HR4.out.below hb5).below hb6).below hb7)
        clear hr6 hr7 hb5 hb6 hb7
        go_wp2_with fail
        refine (HM1.out _ _ _ R67.out R27.out).mono ?_
        rintro e w8 ⟨rfl, hb8⟩
        go_wp2_with fail
        refine (HM2.out _ _ _ (HR7.out.below hb8) (R47.out.below hb8)).mono ?_
        rintro e w9 ⟨rfl, hb9⟩
        go_wp2
        go_ret
        exact ⟨rfl, nx (nx HB7.out hb8) hb9⟩
set_option maxRecDepth 100000 in
theorem fnStuffTwo_lifted (os : Os) (started : os.Started) (H : Type) (enc : TypeId × Value → H) :
    ReturnsInHanded {} Try.checked os 10 .any (Rows.fnStuffTwoSpec.pre6 enc Try.prog Try.f10 Rows.fnStuffTwoRow.domain false) (Rows.fnStuffTwoSpec.post enc Try.prog Try.f10 false true false false) := by
  refine returnsInHanded_of_change_shaped (C := Try.checked) own started (by kernel_rfl) Try.func10
    (ChangeSpec.witness6 (enc := enc) (C := Try.checked) false ⟨#[], #[.slice none 0 0, .slice none 0 0], []⟩ 8 (by kernel_rfl) (by kernel_rfl) (by kernel_rfl) (by kernel_rfl)) ?_
  intro W base args ds gs before hval0 hW hcnd _ hsh _
  have hval : ∀ (j : Nat) t v, Try.f10.params[j]? = some t → args[j]? = some v → Value.okWide Try.prog W .any base t v := hval0
  have hW' := hW
  obtain ⟨p, q, hA0, hV, rfl, hfz, hnd⟩ := hW
  have hA : DataW.TrodAll enc Try.prog W 0 (fun _ => true) true Try.f10.params.toList args.toList ds p := hA0
  rw [Try.params10] at hA hval
  obtain ⟨v0, vs0, d0, ds0, p0, q0, hargs, rfl, rfl, h0, r0⟩ := trodAll_cons hA
  obtain ⟨v1, vs1, d1, ds1, p1, q1, rfl, rfl, rfl, h1, r1⟩ := trodAll_cons r0
  obtain ⟨rfl, rfl, rfl⟩ := trodAll_nil r1
  obtain rfl : args = #[v0, v1] := by cases args; simp_all
  obtain ⟨rfl, rfl⟩ := trodVars_none hV
  obtain ⟨a0, n0, c0, rfl⟩ := okWide_slice Try.underlying22 (hval 0 22 v0 rfl rfl)
  have k0 := h0
  have lt0 : ∀ x ∈ p0, x.block < W.heap.size := by obtain ⟨m, hm⟩ := k0; exact DataW.trod_lt m _ _ _ hm
  obtain ⟨w0, x0, y0⟩ := code_of_trod Try.underlying22 Try.underlying5 (by kernel_rfl) h0
  obtain ⟨a1, n1, c1, rfl⟩ := okWide_slice Try.underlying22 (hval 1 22 v1 rfl rfl)
  have k1 := h1
  have lt1 : ∀ x ∈ p1, x.block < W.heap.size := by obtain ⟨m, hm⟩ := k1; exact DataW.trod_lt m _ _ _ hm
  obtain ⟨w1, x1, y1⟩ := code_of_trod Try.underlying22 Try.underlying5 (by kernel_rfl) h1
  clear hA0 hval0
  refine (fnStuffTwo_walk a0 n0 c0 a1 n1 c1 W (mx_of_shaped hsh) w0 x0 y0 w1 x1 y1).mono fun e W' ⟨he, bel⟩ => ?_
  subst he
  exact ⟨_, rfl, _, _, _, [], _, [], hW', trodAll_mk1 (shut_bool Try.underlying4 _), (trodAll_cons_mk (Below.trod laidOut (by kernel_rfl) (of_decide_eq_true (by kernel_rfl)) k0 bel lt0) (trodAll_cons_mk (Below.trod laidOut (by kernel_rfl) (of_decide_eq_true (by kernel_rfl)) k1 bel lt1) trodAll_mk0)), rfl, bel.frame _, fun h => by cases h⟩
/-- FnStuffTwo: THE STATEMENT. -/
theorem fnStuffTwo_holds : Rows.FnStuffTwoSaid :=
  OpenClaim.holds_of_wide 10 Try.f10 rfl rfl rfl rfl rfl rfl rfl ⟨rfl, rfl, rfl, rfl, rfl⟩ rfl rfl rfl rfl rfl (by kernel_rfl) Try.func10 (by kernel_rfl)
    (of_decide_eq_true (by kernel_rfl)) (by unfold Func.isWrapper; first | (rw [if_pos (by decide +kernel)]; kernel_rfl) | (rw [if_neg (by decide +kernel)]; exact ⟨rfl, rfl⟩))
    (fun os started H enc _ => fnStuffTwo_lifted os started H enc)
end Go.Proofs.Ytnlnkcjphioehaa
