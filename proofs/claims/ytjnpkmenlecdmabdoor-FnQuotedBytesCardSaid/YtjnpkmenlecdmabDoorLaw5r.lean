/-
  The law of chapter 5 on quoted lines and bytes: its walk. For every input of the law: it returns true, and the input reads as it did. Conditions: none but the statement's own.
-/
import Derived.Test.YtjnpkmenlecdmabDoorLaw0c
import Derived.Test.YtjnpkmenlecdmabDoorCodV
import Derived.Test.YtjnpkmenlecdmabDoorDrawC
import Derived.Test.YtjnpkmenlecdmabDoorDraw2
import Derived.Test.YtjnpkmenlecdmabDoorCodP
namespace Go.Proofs.YtjnpkmenlecdmabDoor
open Go.ChangeShapes Go.WideShapes Go.ChangeAt Go.RowKit
open Go.ChangeMaps (open_string shut_string)

set_option maxRecDepth 100000 in
set_option maxHeartbeats 4000000 in
theorem fnQuotedBytes_walk (a : Option Addr) (n c : Nat) (a0 : Option Addr) (n0 c0 : Nat) (w : World) (hmx : ∃ m, w.cell? ⟨1, 0, none⟩ = some (.int .i64 m)) (hc : Code w a n) (hnc : n ≤ c) (hm : c ≤ maxLen) (hc0 : Code w a0 n0) (hnc0 : n0 ≤ c0) (hm0 : c0 ≤ maxLen) :
    Calls Tryd.prog 5 #[.slice a n c, .slice a0 n0 c0] w fun e w' => e = .returned (.bool true) ∧ Below w.heap.size w w' := by
  have hm' := hm
  have hm0' := hm0
  unfold maxLen at hm' hm0'
  by_cases hn : 1048576 < n
  · have hd : decide ((1048576 : Int) < n) = true := by simp; omega
    go_enter Tryd.func5, Tryd.ntmps5
    go_wp2
    go_ret
    exact ⟨rfl, Below.refl _ _⟩
  have hd : decide ((1048576 : Int) < n) = false := by simp; omega
  by_cases hn0 : 1048576 < n0
  · have hd0 : decide ((1048576 : Int) < n0) = true := by simp; omega
    go_enter Tryd.func5, Tryd.ntmps5
    go_wp2
    go_ret
    exact ⟨rfl, Below.refl _ _⟩
  have hd0 : decide ((1048576 : Int) < n0) = false := by simp; omega
  have HC0 := Lib.hid hc0
  go_enter Tryd.func5, Tryd.ntmps5
  go_wp2_with fail
  refine (drawEncodeQuoted_any a n c w hc hnc hm).mono ?_
  rintro e w1 ⟨s, rfl, hs, hb1⟩
  obtain ⟨hxl, hxs⟩ := encQ_small s.data.toList
  have HXS := Lib.hid hxs
  have HM : Hid (((encQ s.data.toList).getD []).length ≤ maxLen) := by show _ ≤ _; unfold maxLen; omega
  clear hxs
  go_wp2_with fail
  refine (encodeQuoted_any s _ (mx_below hmx hb1) (by omega)).mono ?_
  rintro e w2 ⟨v2, rfl, ho2, hb2⟩
  obtain ⟨a2, c2, rfl, hr2, _⟩ := ho2.read
  have HR2 := Lib.hid hr2
  have hB2 := nx hb1 hb2
  clear hr2 ho2 hb1 hb2
  go_wp2_with fail
  refine (encodeQuotedS_any s _ (by omega)).mono ?_
  rintro e w3 ⟨v3, rfl, ho3, hb3⟩
  obtain ⟨a3, c3, rfl, hr3, _⟩ := ho3.read
  have HR23 := Lib.hid (HR2.out.below hb3)
  have HR3 := Lib.hid hr3
  have hB3 := nx hB2 hb3
  clear hr3 ho3 hb3 HR2 hB2
  generalize hX : (encQ s.data.toList).getD [] = xs at *
  have HX := Lib.hid hX
  clear hX
  go_wp2_with fail
  refine (mwTexts_any _ _ _ _ _ _ xs xs _ HR23.out HR3.out HM.out HM.out).mono ?_
  rintro e w4 ⟨rfl, hb4⟩
  rw [decide_eq_true (rfl : xs = xs)]
  have HR24 := Lib.hid (HR23.out.below hb4)
  have hB4 := nx hB3 hb4
  clear hb4 hB3 HR23 HR3
  cases ho : encQ s.data.toList with
  | none =>
    have h0 : xs.length = 0 := by rw [← HX.out, ho]; rfl
    have h0i : ((xs.length : Nat) : Int) = 0 := by omega
    have hz : ¬ ((0 : Int) < ((xs.length : Nat) : Int)) := by omega
    clear ho
    go_wp2_with fail
    go_loop [10] (fun i => i = .int .i64 0) (fun i => 0)
    case atStart => rfl
    case round =>
      subst hrel
      go_wp2_with fail
      refine (drawDecodeQuoted_any a0 n0 c0 _ (HC0.out.below hB4) hnc0 hm0).mono ?_
      rintro e w6 ⟨v6, ls, rfl, ho6, hl6, hx6, hb6⟩
      obtain ⟨a6, c6, rfl, hr6, _⟩ := ho6.read
      have HX6 : Hid (∀ x ∈ ls, x.length ≤ 1073741000) := fun x hx => Nat.le_trans (hx6 x hx) (by omega)
      have HR6 := Lib.hid hr6
      have hB6 := nx hB4 hb6
      clear ho6 hx6 hr6
      obtain ⟨dd, hdd⟩ : ∃ dd, dd = decQ ls := ⟨_, rfl⟩
      have HI1 : Hid (∀ u : World, RdL u a6 ls.length ls → Calls Tryd.prog 24 #[.slice a6 ls.length c6] u (DecRet dd u)) := fun u h => by rw [hdd]; exact decodeQuoted_any a6 _ c6 ls u h (by omega) HX6.out
      have HI2 : Hid (∀ u : World, RdL u a6 ls.length ls → Calls Tryd.prog 26 #[.slice a6 ls.length c6] u (DecRet dd u)) := fun u h => by rw [hdd]; exact decodeQuotedS_any a6 _ c6 ls u h (by omega) HX6.out
      have hee2 : ((str (dd.getD [])).toList == (str (dd.getD [])).toList) = true := by simp
      clear hdd
      go_wp2_with fail
      refine (HI1.out _ HR6.out).mono ?_
      rintro e w7 ⟨rfl, hb7⟩
      go_wp2_with fail
      refine (HI2.out _ (HR6.out.below hb7)).mono ?_
      rintro e w8 ⟨rfl, hb8⟩
      generalize str (dd.getD []) = ft at *
      generalize dd.isSome = okk at *
      go_wp2
      go_ret
      exact ⟨rfl, nx (nx hB6 hb7) hb8⟩
  | some ys =>
    have h300 : s.size ≤ 300 := by
      apply Classical.byContradiction; intro h
      rw [encQ_out (by rw [size_list]; omega)] at ho; cases ho
    have h3l : s.data.toList.length ≤ 300 := by rw [size_list]; exact h300
    have HYX : Hid (xs = qgo [] s.data.toList) := by show _ = _; rw [← HX.out, encQ_in h3l]; rfl
    have HTX : Hid (∀ x ∈ xs, isText x = true) := fun x hx => by rw [HYX.out] at hx; exact (qgo_text hx).1
    have HDD : Hid (decQ xs = some s.data.toList) := by show _ = _; rw [HYX.out]; exact decQ_qgo h3l
    have HK : Hid (∀ u : World, RdL u a2 xs.length xs → Calls Tryd.prog 24 #[.slice a2 xs.length c2] u fun e w' => e = .returned (.tuple #[.string s, .bool true]) ∧ Below u.heap.size u w') := fun u hrb => by
      have := decodeQuoted_any a2 _ c2 xs u hrb (by omega) (fun x hx => Nat.le_trans (HXS.out x hx) (by omega))
      rw [HDD.out] at this
      refine this.mono ?_
      rintro e w' ⟨rfl, hb⟩
      exact ⟨by show _ = _; rw [Option.getD_some, str_of]; rfl, hb⟩
    have hee : (s.toList == s.toList) = true := by simp
    clear ho HX h3l h300
    go_wp2_with fail
    go_loop [10] (fun i => ∃ k : Nat, k ≤ xs.length ∧ i = .int .i64 k) (fun i => xs.length - (intOf i).toNat)
    case atStart => exact ⟨0, by omega, rfl⟩
    case round =>
      obtain ⟨k, hk, rfl⟩ := hrel
      by_cases hlt : k < xs.length
      · obtain ⟨b, off, rfl, hbl, hcell⟩ := HR24.out.2.resolve_left (by omega)
        have c0 : w4.cell? ⟨b, off + k, none⟩ = some (.string (str xs[k])) := hcell k hlt
        have hkz : (str xs[k]).size ≤ 40 := by rw [str_size]; exact HXS.out _ (List.getElem_mem hlt)
        have hk40 : ¬ ((40 : Int) < (((str xs[k]).size : Nat) : Int)) := by omega
        have HTV : Hid (∀ u, Calls Tryd.prog 23 #[.string (str xs[k])] u fun e w' => e = .returned (.bool true) ∧ u = w') := fun u => by
          have := textValid_any (str xs[k]) u (by unfold maxLen; omega)
          rw [str_list, HTX.out _ (List.getElem_mem hlt)] at this; exact this
        clear hcell
        generalize str xs[k] = x at *
        go_wp2_with fail
        refine (HTV.out _).mono ?_
        rintro e w9 ⟨rfl, rfl⟩
        go_wp2
        go_round
        case rel => exact ⟨k + 1, by omega, by go_num⟩
        case measure => simp [intOf]; omega
      · go_wp2_with fail
        refine (HK.out _ HR24.out).mono ?_
        rintro e w5 ⟨rfl, hb5⟩
        have hB5 := nx hB4 hb5
        go_wp2_with fail
        refine (drawDecodeQuoted_any a0 n0 c0 _ (HC0.out.below hB5) hnc0 hm0).mono ?_
        rintro e w6 ⟨v6, ls, rfl, ho6, hl6, hx6, hb6⟩
        obtain ⟨a6, c6, rfl, hr6, _⟩ := ho6.read
        have HX6 : Hid (∀ x ∈ ls, x.length ≤ 1073741000) := fun x hx => Nat.le_trans (hx6 x hx) (by omega)
        have HR6 := Lib.hid hr6
        have hB6 := nx hB5 hb6
        clear ho6 hx6 hr6
        obtain ⟨dd, hdd⟩ : ∃ dd, dd = decQ ls := ⟨_, rfl⟩
        have HI1 : Hid (∀ u : World, RdL u a6 ls.length ls → Calls Tryd.prog 24 #[.slice a6 ls.length c6] u (DecRet dd u)) := fun u h => by rw [hdd]; exact decodeQuoted_any a6 _ c6 ls u h (by omega) HX6.out
        have HI2 : Hid (∀ u : World, RdL u a6 ls.length ls → Calls Tryd.prog 26 #[.slice a6 ls.length c6] u (DecRet dd u)) := fun u h => by rw [hdd]; exact decodeQuotedS_any a6 _ c6 ls u h (by omega) HX6.out
        have hee2 : ((str (dd.getD [])).toList == (str (dd.getD [])).toList) = true := by simp
        clear hdd
        go_wp2_with fail
        refine (HI1.out _ HR6.out).mono ?_
        rintro e w7 ⟨rfl, hb7⟩
        go_wp2_with fail
        refine (HI2.out _ (HR6.out.below hb7)).mono ?_
        rintro e w8 ⟨rfl, hb8⟩
        generalize str (dd.getD []) = ft at *
        generalize dd.isSome = okk at *
        go_wp2
        go_ret
        exact ⟨rfl, nx (nx hB6 hb7) hb8⟩
end Go.Proofs.YtjnpkmenlecdmabDoor
