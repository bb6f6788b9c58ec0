/-
  Addresses, read: what the model's functions return. No statement is proved here.
-/
import Derived.Test.YtcdmjckkencgoaaGreatDoorParse2
import Derived.Test.YtcdmjckkencgoaaGreatDoorAddrS
import Derived.Deep.RegionWith
namespace Go.Proofs.YtcdmjckkencgoaaGreatDoor
open Go.RowKit

set_option maxRecDepth 100000 in
set_option maxHeartbeats 400000 in
theorem l2Name_any (s : ByteArray) (w : World) (hs : s.size ≤ 1073741824) :
    Calls Tryz.prog 152 #[.string s] w fun e w' => e = .returned (.bool (isName s.data.toList)) ∧ w = w' := by
  have HD : Hid (isName s.data.toList = (isText s.data.toList && decide (s.size ≤ 40))) := rfl
  cases h : isText s.data.toList
  · have H := Lib.hid h
    clear h
    go_enter Tryz.func152, Tryz.ntmps152
    go_wp2_with fail
    refine (textValidS_any s _ (by unfold maxLen; omega)).mono ?_
    rintro e w1 ⟨rfl, rfl⟩
    rw [H.out]
    go_wp2
    go_ret
    exact ⟨ret_bool (by rw [HD.out, H.out]; rfl), rfl⟩
  · have H := Lib.hid h
    clear h
    go_enter Tryz.func152, Tryz.ntmps152
    go_wp2_with fail
    refine (textValidS_any s _ (by unfold maxLen; omega)).mono ?_
    rintro e w1 ⟨rfl, rfl⟩
    rw [H.out]
    go_wp2
    go_ret
    exact ⟨ret_bool (by rw [HD.out, H.out, Bool.true_and, Bool.eq_iff_iff]; simp; omega), rfl⟩
theorem str_drop1 (c : UInt8) (r : List UInt8) : (str (c :: r)).extract 1 (str (c :: r)).size = str r := by
  rw [ext_drop, str_list]; rfl
theorem str_init (r : List UInt8) (c : UInt8) : (str (r ++ [c])).extract 0 ((str (r ++ [c])).size - 1) = str r := by
  rw [ext_take, str_list, str_size]; simp
theorem str_last (r : List UInt8) (c : UInt8) (h : (str (r ++ [c])).size - 1 < (str (r ++ [c])).size) : (str (r ++ [c]))[(str (r ++ [c])).size - 1] = c := by
  rw [str_at]; simp [str_size]
theorem str_first (c : UInt8) (r : List UInt8) (h : 0 < (str (c :: r)).size) : (str (c :: r))[0] = c := by
  rw [str_at]; rfl
theorem snoc_cases (l : List UInt8) : l = [] ∨ ∃ r c, l = r ++ [c] := by
  rcases List.eq_nil_or_concat l with h | ⟨r, c, h⟩
  · exact .inl h
  · exact .inr ⟨r, c, by simpa using h⟩
set_option maxRecDepth 100000 in
set_option maxHeartbeats 1000000 in
theorem l2Trim_any (s : ByteArray) (w : World) (hs : s.size ≤ 1073741824) :
    Calls Tryz.prog 117 #[.string s] w fun e w' => e = .returned (.string (str (trimS s.data.toList))) ∧ w = w' := by
  go_enter Tryz.func117, Tryz.ntmps117
  go_wp2_with fail
  go_loop [0] (fun t => ∃ l : List UInt8, t = .string (str l) ∧ l.length ≤ s.size ∧ trimF s.data.toList = trimF l) (fun t => Lib.strSize t)
  case atStart => exact ⟨s.data.toList, by rw [str_of], by rw [size_list]; exact Nat.le_refl _, rfl⟩
  case round =>
    obtain ⟨l, rfl, hl, ht⟩ := hrel
    have HT := Lib.hid ht
    clear ht
    by_cases hsp : ∃ r, l = 32 :: r
    · obtain ⟨r, rfl⟩ := hsp
      have HN : Hid (trimF s.data.toList = trimF r) := by show _ = _; rw [HT.out, trimF_space]
      have hz := str_size (32 :: r)
      have hp : 0 < (str (32 :: r)).size := by rw [hz]; simp
      have hp2 : 1 ≤ (str (32 :: r)).size := hp
      have hzz : (str (32 :: r)).size ≤ 1073741824 := by omega
      have e1 := beq_t (str_first 32 r hp) (n := 32) rfl
      have HX := Lib.hid (str_drop1 32 r)
      have hrl : r.length + 1 ≤ s.size := by simpa using hl
      have HM : Hid (Lib.strSize (.string (str r)) < Lib.strSize (.string (str (32 :: r)))) := by show _ < _; rw [Lib.strSize_string, Lib.strSize_string, str_size, str_size]; simp
      clear hz
      generalize str (32 :: r) = x at *
      go_wp2
      go_round
      case rel => exact ⟨r, by rw [HX.out], by omega, HN.out⟩
      case measure => rw [HX.out]; exact HM.out
    · have HL : Hid (trimF s.data.toList = l) := by
        show _ = _
        rw [HT.out]; refine trimF_head l ?_
        match l, hsp with
        | [], _ => simp
        | c :: r, hsp => intro e; have e : c = 32 := by simpa using e
                         exact hsp ⟨r, by rw [e]⟩
      have HTR : Hid (trimS s.data.toList = (trimF l.reverse).reverse) := by show _ = _; unfold trimS; rw [HL.out]
      have hz := str_size l
      have hzz : (str l).size ≤ 1073741824 := by omega
      have HFST : Hid ((str l).size = 0 ∨ ∃ h : 0 < (str l).size, (str l)[0] ≠ 32) := by
        show _ ∨ _
        match l, hsp with
        | [], _ => exact .inl rfl
        | c :: r, hsp =>
          have h : 0 < (str (c :: r)).size := by rw [str_size]; simp
          refine .inr ⟨h, fun e => ?_⟩
          rw [str_first c r h] at e; exact hsp ⟨r, by rw [e]⟩
      obtain ⟨x, hx⟩ : ∃ x, x = str l := ⟨_, rfl⟩
      have HXL := Lib.hid hx
      rw [← hx] at HFST hzz ⊢
      clear hsp hx hz
      rcases HFST.out with h0 | ⟨hp, hne⟩
      · have hlt0 : ¬ (0 < (x.size : Int)) := by omega
        have HRES : Hid (str (trimS s.data.toList) = x) := by
          have hl0 : l = [] := by
            have := HXL.out ▸ h0
            rw [str_size] at this; exact List.length_eq_zero_iff.1 this
          show _ = _
          rw [HTR.out, HXL.out, hl0]; rfl
        have H0 := Lib.hid h0
        clear h0
        go_wp2_with fail
        go_loop [0] (fun t => t = .string x) (fun _ => 0)
        case atStart => rfl
        case round =>
          subst hrel
          go_wp2
          go_ret
          exact ⟨ret_str HRES.out.symm, rfl⟩
      · have e1 := beq_f hne (n := 32) rfl
        clear hne
        go_wp2_with fail
        go_loop [0] (fun t => ∃ m : List UInt8, t = .string (str m) ∧ m.length ≤ s.size ∧ trimF l.reverse = trimF m.reverse) (fun t => Lib.strSize t)
        case atStart => exact ⟨l, by rw [HXL.out], hl, rfl⟩
        case round =>
          obtain ⟨m, rfl, hm, ht⟩ := hrel
          have HT2 := Lib.hid ht
          clear ht e1
          rcases snoc_cases m with rfl | ⟨r, c, rfl⟩
          · have HRES : Hid (str (trimS s.data.toList) = str []) := by show _ = _; rw [HTR.out, HT2.out]; rfl
            have hq : (str []).size = 0 := rfl
            have hq2 : (str []).size ≤ 0 := Nat.le_refl _
            have HQ := Lib.hid hq
            clear hq
            generalize str [] = y at *
            go_wp2
            go_ret
            exact ⟨ret_str HRES.out.symm, rfl⟩
          · have hyz := str_size (r ++ [c])
            have hyl : (r ++ [c]).length = r.length + 1 := by simp
            have hy1 : 0 < (str (r ++ [c])).size := by omega
            have hy2 : 1 ≤ (str (r ++ [c])).size := hy1
            have hy3 : (str (r ++ [c])).size - 1 < (str (r ++ [c])).size := by omega
            have hyz' : (str (r ++ [c])).size ≤ 1073741824 := by omega
            have HLS := Lib.hid (str_last r c hy3)
            have HIN := Lib.hid (str_init r c)
            have HM : Hid (Lib.strSize (.string (str r)) < Lib.strSize (.string (str (r ++ [c])))) := by show _ < _; rw [Lib.strSize_string, Lib.strSize_string, str_size, str_size]; simp
            by_cases hc : c = 32
            · have HN : Hid (trimF l.reverse = trimF r.reverse) := by show _ = _; rw [HT2.out, hc, List.reverse_append]; exact trimF_space _
              have e2 : (((str (r ++ [c]))[(str (r ++ [c])).size - 1].toNat : Int) == 32) = true := by rw [HLS.out, hc]; rfl
              clear hyz hyl hc
              generalize str (r ++ [c]) = y at *
              go_wp2
              go_round
              case rel => exact ⟨r, by rw [HIN.out], by simp at hm; omega, HN.out⟩
              case measure => rw [HIN.out]; exact HM.out
            · have HRES : Hid (str (trimS s.data.toList) = str (r ++ [c])) := by
                show _ = _
                rw [HTR.out, HT2.out, List.reverse_append]
                show str (trimF (c :: r.reverse)).reverse = _
                rw [trimF_ne _ hc]; simp
              have e2 : (((str (r ++ [c]))[(str (r ++ [c])).size - 1].toNat : Int) == 32) = false := by
                rw [HLS.out]; exact beq_f hc rfl
              clear hyz hyl hc
              generalize str (r ++ [c]) = y at *
              go_wp2
              go_ret
              exact ⟨ret_str HRES.out.symm, rfl⟩
end Go.Proofs.YtcdmjckkencgoaaGreatDoor
