/-
  Lines are read back: each law's walk. For every input of the law: it returns true, and the input reads as it did. Conditions: none but the statement's own.
-/
import Derived.Test.YtnlnkcjphioehaaLaw0
import Derived.Test.YtnlnkcjphioehaaDrLin
namespace Go.Proofs.Ytnlnkcjphioehaa
open Go.ChangeShapes Go.WideShapes Go.ChangeAt Go.RowKit
open Go.ChangeMaps (open_string shut_string)

theorem sel9_t (s : ByteArray) : (s.toList == s.toList) = true := by simp
theorem sel9_f (s : ByteArray) : (s.toList != s.toList) = false := by simp
theorem rest_size : (ByteArray.mk #[114, 101, 115, 116]).size = 4 := rfl
theorem rest_eq : ((str [114, 101, 115, 116]).toList == [114, 101, 115, 116]) = true := by decide +kernel
theorem unsW_none_long {s : List UInt8} (h : 2000 < s.length) : unsW s = none := by unfold unsW; rw [if_neg (by omega)]
set_option maxRecDepth 100000 in
set_option maxHeartbeats 4000000 in
theorem fnStuffLines_walk (a : Option Addr) (n c : Nat) (w : World) (hmx : ∃ m, w.cell? ⟨0, 0, none⟩ = some (.int .i64 m)) (hc : Code w a n) (hnc : n ≤ c) (hm : c ≤ maxLen) :
    Calls Try.prog 3 #[.slice a n c] w fun e w' => e = .returned (.bool true) ∧ Below w.heap.size w w' := by
  have hm' := hm
  unfold maxLen at hm'
  have HMX : Hid (∀ u, Below w.heap.size w u → MxL u) := fun u h => MxL.below hmx h
  by_cases hn : 1048576 < n
  · have hd : decide ((1048576 : Int) < n) = true := by simp; omega
    go_enter Try.func3, Try.ntmps3
    go_wp2
    go_ret
    exact ⟨rfl, Below.refl _ _⟩
  have hd : decide ((1048576 : Int) < n) = false := by simp; omega
  go_enter Try.func3, Try.ntmps3
  go_wp2_with fail
  refine (drawStuffLines_any a n c w hc hnc hm).mono ?_
  rintro e w1 ⟨v, xs, rfl, ho, hl, hx, hb1⟩
  obtain ⟨a1, c1, rfl, hr1, _⟩ := ho.read
  have HR1 := Lib.hid hr1
  have hx9 : ∀ x ∈ xs, x.length ≤ 1073741000 := fun x h => by have := hx x h; omega
  have HI := Lib.hid (fun u h => stuffLines_any a1 xs.length c1 xs u h (by omega) hx9)
  have HS := Lib.hid (fun u h => stuffLinesS_any a1 xs.length c1 xs u h (by omega) hx9)
  clear ho hx hx9
  cases hst : stuW xs with
  | none =>
    rw [hst] at HI HS
    clear hst hr1
    have e1 := sel9_f (str ((none : Option (List UInt8)).getD []))
    have e2 := sel9_t (str ((none : Option (List UInt8)).getD []))
    have e3 : (str ((none : Option (List UInt8)).getD [])).toList.isEmpty = true := empty_t rfl
    have HI' : Hid (∀ u, RdL u a1 xs.length xs → Calls Try.prog 16 #[.slice a1 xs.length c1] u fun e w' => e = .returned (.tuple #[.string (str ((none : Option (List UInt8)).getD [])), .bool false]) ∧ Below u.heap.size u w') := HI.out
    have HS' : Hid (∀ u, RdL u a1 xs.length xs → Calls Try.prog 17 #[.slice a1 xs.length c1] u fun e w' => e = .returned (.tuple #[.string (str ((none : Option (List UInt8)).getD [])), .bool false]) ∧ u = w') := HS.out
    clear HI HS
    generalize str ((none : Option (List UInt8)).getD []) = B at *
    go_wp2_with fail
    refine (HI'.out _ HR1.out).mono ?_
    rintro e w2 ⟨rfl, hb2⟩
    go_wp2_with fail
    refine (HS'.out _ (HR1.out.below hb2)).mono ?_
    rintro e w3 ⟨rfl, rfl⟩
    go_wp2
    go_ret
    exact ⟨rfl, nx hb1 hb2⟩
  | some S =>
    obtain ⟨rfl, ht, hsl⟩ := stuW_some hst
    rw [hst] at HI HS
    have e1 := sel9_f (str (stuAll xs))
    have HI' : Hid (∀ u, RdL u a1 xs.length xs → Calls Try.prog 16 #[.slice a1 xs.length c1] u fun e w' => e = .returned (.tuple #[.string (str (stuAll xs)), .bool true]) ∧ Below u.heap.size u w') := HI.out
    have HS' : Hid (∀ u, RdL u a1 xs.length xs → Calls Try.prog 17 #[.slice a1 xs.length c1] u fun e w' => e = .returned (.tuple #[.string (str (stuAll xs)), .bool true]) ∧ u = w') := HS.out
    clear HI HS
    have hz : (str (stuAll xs)).size = (stuAll xs).length := str_size _
    have hge : 3 ≤ (stuAll xs).length := by rw [stuAll_len]; omega
    have HZL : Hid ((str (stuAll xs)).data.toList = stuAll xs) := str_list _
    have HT := Lib.hid ht
    clear ht hst hr1
    have hz4 := rest_size
    have HBL : Hid ((str (stuAll xs) ++ ByteArray.mk #[114, 101, 115, 116]).data.toList = stuAll xs ++ [114, 101, 115, 116]) := by show _ = _; rw [Joins.data_append, str_list]
    have HU := Lib.hid (fun u (h : MxL u) => unstuffText_any (str (stuAll xs) ++ ByteArray.mk #[114, 101, 115, 116]) u h (by rw [ByteArray.size_append]; omega))
    rw [HBL.out] at HU
    have HMW := Lib.hid (fun u (a2 : Option Addr) (c2 : Nat) (h1 : RdL u a2 xs.length xs) (h2 : RdL u a1 xs.length xs) => mwTexts_any a2 a1 xs.length c2 xs.length c1 xs xs u h1 h2 (by unfold maxLen; omega) (by unfold maxLen; omega))
    rw [decide_eq_true (rfl : xs = xs)] at HMW
    by_cases hlong : 2000 < (stuAll xs).length + 4
    · rw [unsW_none_long (s := stuAll xs ++ [114, 101, 115, 116]) (by simp; omega)] at HU
      have d0 : decide ((2000 : Int) < ((str (stuAll xs)).size : Int) + 4) = true := decide_eq_true (by omega)
      have hz' : (str (stuAll xs)).size ≤ 2000 := by omega
      clear hz HBL HZL
      generalize str (stuAll xs) = B at *
      go_wp2_with fail
      refine (HI'.out _ HR1.out).mono ?_
      rintro e w2 ⟨rfl, hb2⟩
      go_wp2_with fail
      refine (HS'.out _ (HR1.out.below hb2)).mono ?_
      rintro e w3 ⟨rfl, rfl⟩
      have HB2 := Lib.hid (nx hb1 hb2)
      have HR2 := Lib.hid (HR1.out.below hb2)
      clear hb1 hb2
      go_wp2_with fail
      refine (HU.out _ (HMX.out _ HB2.out)).mono ?_
      intro e w4 h4
      obtain ⟨a4, c4, rfl, _, _, hb4⟩ := h4.none'
      clear h4
      go_wp2
      go_ret
      exact ⟨rfl, nx HB2.out hb4⟩
    · rw [show unsW (stuAll xs ++ [114, 101, 115, 116]) = some (xs, [114, 101, 115, 116]) from unsW_stu _ HT.out (by simp; omega)] at HU
      have d0 : decide ((2000 : Int) < ((str (stuAll xs)).size : Int) + 4) = false := decide_eq_false (by omega)
      have hz' : (str (stuAll xs)).size ≤ 2000 := by omega
      have er := rest_eq
      clear hz HBL HZL
      generalize str (stuAll xs) = B at *
      go_wp2_with fail
      refine (HI'.out _ HR1.out).mono ?_
      rintro e w2 ⟨rfl, hb2⟩
      go_wp2_with fail
      refine (HS'.out _ (HR1.out.below hb2)).mono ?_
      rintro e w3 ⟨rfl, rfl⟩
      have HB2 := Lib.hid (nx hb1 hb2)
      have HR2 := Lib.hid (HR1.out.below hb2)
      clear hb1 hb2
      have HU' : Hid (∀ u, MxL u → Calls Try.prog 18 #[.string (B ++ ByteArray.mk #[114, 101, 115, 116])] u fun e w' => ∃ a c, e = .returned (.tuple #[.slice a xs.length c, .string (str [114, 101, 115, 116]), .bool true]) ∧ RdL w' a xs.length xs ∧ Below u.heap.size u w') := fun u h => (HU.out u h).mono fun e w' h => by
        obtain ⟨a, c, h1, _, h2, h3⟩ := h.some'
        exact ⟨a, c, h1, h2, h3⟩
      clear HU
      generalize str [114, 101, 115, 116] = Q at *
      go_wp2_with fail
      refine (HU'.out _ (HMX.out _ HB2.out)).mono ?_
      rintro e w4 ⟨a4, c4, rfl, hr4, hb4⟩
      go_wp2_with fail
      refine (HMW.out _ _ _ hr4 (HR2.out.below hb4)).mono ?_
      rintro e w5 ⟨rfl, hb5⟩
      go_wp2
      go_ret
      exact ⟨rfl, nx (nx HB2.out hb4) hb5⟩
set_option maxRecDepth 100000 in
theorem fnStuffLines_lifted (os : Os) (started : os.Started) (H : Type) (enc : TypeId × Value → H) :
    ReturnsInHanded {} Try.checked os 3 .any (Rows.fnStuffLinesSpec.pre6 enc Try.prog Try.f3 Rows.fnStuffLinesRow.domain false) (Rows.fnStuffLinesSpec.post enc Try.prog Try.f3 false true false false) := by
  refine returnsInHanded_of_change_shaped (C := Try.checked) own started (by kernel_rfl) Try.func3
    (ChangeSpec.witness6 (enc := enc) (C := Try.checked) false ⟨#[], #[.slice none 0 0], []⟩ 8 (by kernel_rfl) (by kernel_rfl) (by kernel_rfl) (by kernel_rfl)) ?_
  intro W base args ds gs before hval0 hW hcnd _ hsh _
  have hval : ∀ (j : Nat) t v, Try.f3.params[j]? = some t → args[j]? = some v → Value.okWide Try.prog W .any base t v := hval0
  have hW' := hW
  obtain ⟨p, q, hA0, hV, rfl, hfz, hnd⟩ := hW
  have hA : DataW.TrodAll enc Try.prog W 0 (fun _ => true) true Try.f3.params.toList args.toList ds p := hA0
  rw [Try.params3] at hA hval
  obtain ⟨v0, vs0, d0, ds0, p0, q0, hargs, rfl, rfl, h0, r0⟩ := trodAll_cons hA
  obtain ⟨rfl, rfl, rfl⟩ := trodAll_nil r0
  obtain rfl : args = #[v0] := by cases args; simp_all
  obtain ⟨rfl, rfl⟩ := trodVars_none hV
  obtain ⟨a0, n0, c0, rfl⟩ := okWide_slice Try.underlying22 (hval 0 22 v0 rfl rfl)
  have k0 := h0
  have lt0 : ∀ x ∈ p0, x.block < W.heap.size := by obtain ⟨m, hm⟩ := k0; exact DataW.trod_lt m _ _ _ hm
  obtain ⟨w0, x0, y0⟩ := code_of_trod Try.underlying22 Try.underlying5 (by kernel_rfl) h0
  clear hA0 hval0
  refine (fnStuffLines_walk a0 n0 c0 W (mx_of_shaped hsh) w0 x0 y0).mono fun e W' ⟨he, bel⟩ => ?_
  subst he
  exact ⟨_, rfl, _, _, _, [], _, [], hW', trodAll_mk1 (shut_bool Try.underlying4 _), (trodAll_cons_mk (Below.trod laidOut (by kernel_rfl) (of_decide_eq_true (by kernel_rfl)) k0 bel lt0) trodAll_mk0), rfl, bel.frame _, fun h => by cases h⟩
/-- FnStuffLines: THE STATEMENT. -/
theorem fnStuffLines_holds : Rows.FnStuffLinesSaid :=
  OpenClaim.holds_of_wide 3 Try.f3 rfl rfl rfl rfl rfl rfl rfl ⟨rfl, rfl, rfl, rfl, rfl⟩ rfl rfl rfl rfl rfl (by kernel_rfl) Try.func3 (by kernel_rfl)
    (of_decide_eq_true (by kernel_rfl)) (by unfold Func.isWrapper; first | (rw [if_pos (by decide +kernel)]; kernel_rfl) | (rw [if_neg (by decide +kernel)]; exact ⟨rfl, rfl⟩))
    (fun os started H enc _ => fnStuffLines_lifted os started H enc)
end Go.Proofs.Ytnlnkcjphioehaa
