/-
  The laws of chapter 5 on all ways: each law's walk. For every input of the law: it returns true, and the input reads as it did. Conditions: none but the statement's own.
-/
import Derived.Test.YtjnpkmenlecdmabDoorLaw0c
import Derived.Test.YtjnpkmenlecdmabDoorDrawC
import Derived.Test.YtjnpkmenlecdmabDoorDraw2
import Derived.Test.YtjnpkmenlecdmabDoorCodZ
namespace Go.Proofs.YtjnpkmenlecdmabDoor
open Go.ChangeShapes Go.WideShapes Go.ChangeAt Go.RowKit
open Go.ChangeMaps (open_string shut_string)

theorem ownL_cap {B : Nat} {a : Option Addr} {n c : Nat} {xs : List (List UInt8)} {w : World} (h : OwnL B (.slice a n c) xs w) : n ≤ c := by
  rcases h.2 with ⟨hv, h0⟩ | ⟨g, cap, cur, hv, _, _, hq, _⟩
  · injection hv with _ h2 _; omega
  · injection hv with _ h2 h3; omega
theorem decW_encW {b : List UInt8} {k : Int} {ls : List (List UInt8)} (h : encW b k = some ls) : decW ls k = some b ∧ ls ≠ [] ∧ b.length ≤ 300 := by
  unfold encW at h
  unfold decW
  split at h
  · rename_i h0
    rw [if_pos h0]
    obtain ⟨h1, h2⟩ := decP_encP h
    refine ⟨h1, ?_, h2⟩
    rintro rfl
    unfold decP at h1
    simp at h1
  · rename_i h0
    rw [if_neg h0]
    split at h
    · rename_i h1
      rw [if_pos h1]
      unfold encQ at h
      split at h
      · rename_i h3
        injection h with h; subst h
        exact ⟨decQ_qgo h3, by have := (qgo_count b []).2; intro e; rw [e] at this; simp at this, h3⟩
      · cases h
    · rename_i h1
      rw [if_neg h1]
      split at h
      · rename_i h2
        rw [if_pos h2]
        by_cases h3 : b.length ≤ 300
        · rw [encB_in h3] at h
          injection h with h; subst h
          refine ⟨decB_encB h3, ?_, h3⟩
          intro e
          by_cases h40 : 40 < (b64 b).length
          · rw [chop_long h40] at e; cases e
          · rw [chop_short (by omega)] at e; cases e
        · rw [encB_out (by omega)] at h; cases h
      · cases h
set_option maxRecDepth 100000 in
set_option maxHeartbeats 4000000 in
theorem fnEncodeBytes_walk (a : Option Addr) (n c : Nat) (w : World) (hmx : ∃ m, w.cell? ⟨1, 0, none⟩ = some (.int .i64 m)) (hc : Code w a n) (hnc : n ≤ c) (hm : c ≤ maxLen) :
    Calls Tryd.prog 7 #[.slice a n c] w fun e w' => e = .returned (.bool true) ∧ Below w.heap.size w w' := by
  have hm' := hm
  unfold maxLen at hm'
  by_cases hn : 1048576 < n
  · have hd : decide ((1048576 : Int) < n) = true := by simp; omega
    go_enter Tryd.func7, Tryd.ntmps7
    go_wp2
    go_ret
    exact ⟨rfl, Below.refl _ _⟩
  have hd : decide ((1048576 : Int) < n) = false := by simp; omega
  go_enter Tryd.func7, Tryd.ntmps7
  go_wp2_with fail
  refine (drawEncodeBytes_any a n c w hc hnc hm).mono ?_
  rintro e w1 ⟨s, q, rfl, hs, hq0, hq3, hb1⟩
  obtain ⟨hxl, hxs⟩ := encW_small s.data.toList q
  have HXS := Lib.hid hxs
  have HM : Hid (((encW s.data.toList q).getD []).length ≤ maxLen) := by show _ ≤ _; unfold maxLen; omega
  have HD : Hid (∀ ls, encW s.data.toList q = some ls → decW ls q = some s.data.toList ∧ ls ≠ [] ∧ s.data.toList.length ≤ 300) := fun ls h => decW_encW h
  clear hxs
  go_wp2_with fail
  refine (encodeBytes_any s q _ (mx_below hmx hb1) (by omega)).mono ?_
  rintro e w2 ⟨v2, rfl, ho2, hb2⟩
  obtain ⟨a2, c2, rfl, hr2, _⟩ := ho2.read
  have HR2 := Lib.hid hr2
  have HC2 := Lib.hid (ownL_cap ho2)
  have hB2 := nx hb1 hb2
  clear hr2 ho2 hb1 hb2
  go_wp2_with fail
  refine (encodeBytesS_any s q _ (by omega)).mono ?_
  rintro e w3 ⟨v3, rfl, ho3, hb3⟩
  obtain ⟨a3, c3, rfl, hr3, _⟩ := ho3.read
  have HR23 := Lib.hid (HR2.out.below hb3)
  have HR3 := Lib.hid hr3
  have hB3 := nx hB2 hb3
  clear hr3 ho3 hb3 HR2 hB2 hq0 hq3
  generalize hX : (encW s.data.toList q).getD [] = xs at *
  have HX := Lib.hid hX
  clear hX
  go_wp2_with fail
  refine (mwTexts_any _ _ _ _ _ _ xs xs _ HR23.out HR3.out HM.out HM.out).mono ?_
  rintro e w4 ⟨rfl, hb4⟩
  rw [decide_eq_true (rfl : xs = xs)]
  have HR24 := Lib.hid (HR23.out.below hb4)
  have HR34 := Lib.hid (HR3.out.below hb4)
  have hB4 := nx hB3 hb4
  clear hb4 hB3 HR23 HR3
  cases ho : encW s.data.toList q with
  | none =>
    clear ho
    go_wp2_with fail
    refine (mwTexts_any _ _ _ _ _ _ xs xs _ HR24.out HR34.out HM.out HM.out).mono ?_
    rintro e w5 ⟨rfl, hb5⟩
    rw [decide_eq_true (rfl : xs = xs)]
    go_wp2
    go_ret
    exact ⟨rfl, nx hB4 hb5⟩
  | some ys =>
    have HYX : Hid (xs = ys) := by show _ = _; rw [← HX.out, ho]; rfl
    obtain ⟨h1, h2, h3⟩ := HD.out ys ho
    have HDD : Hid (decW xs q = some s.data.toList) := by show _ = _; rw [HYX.out]; exact h1
    have hpos : 0 < xs.length := by rw [HYX.out]; exact List.length_pos_iff.2 h2
    clear ho HX HD h1 h2 h3
    have HIM : Hid (∀ u : World, Below w4.heap.size w4 u → Calls Tryd.prog 31 #[.slice a2 xs.length c2, .int .i64 q] u fun e w' => e = .returned (.tuple #[.string s, .bool true]) ∧ Below u.heap.size u w') := fun u hu => by
      have := decodeBytes_any a2 _ c2 xs q u (HR24.out.below hu) HC2.out (by omega) (fun x hx => Nat.le_trans (HXS.out x hx) (by omega))
      rw [HDD.out] at this
      refine this.mono ?_
      rintro e w' ⟨rfl, hb⟩
      exact ⟨by show _ = _; rw [Option.getD_some, str_of]; rfl, hb⟩
    obtain ⟨b, off, rfl, hbl, hcell⟩ := HR24.out.2.resolve_left (by omega)
    have hee : (s.toList == s.toList) = true := by simp
    have h0l : (0 : Int) < ((xs.length : Nat) : Int) := by omega
    have HCELL := Lib.hid hcell
    clear hcell
    go_wp2_with fail
    refine (HIM.out _ (Below.refl _ _)).mono ?_
    rintro e w5 ⟨rfl, hb5⟩
    have HC5 : Hid (∀ k, (h : k < xs.length) → w5.cell? ⟨b, off + k, none⟩ = some (.string (str xs[k]))) := fun k h => by
      have := (HR24.out.below hb5).2.resolve_left (by omega)
      obtain ⟨b', off', hv, _, hcell⟩ := this
      injection hv with hv
      injection hv with e1 e2 _
      subst e1 e2
      exact hcell k h
    have hB5 := nx hB4 hb5
    clear hb5 hB4
    go_wp2_with fail
    go_loop [11] (fun i => ∃ k : Nat, k ≤ xs.length ∧ i = .int .i64 k) (fun i => xs.length - (intOf i).toNat)
    case atStart => exact ⟨0, by omega, rfl⟩
    case round =>
      obtain ⟨k, hk, rfl⟩ := hrel
      by_cases hlt : k < xs.length
      · have c0 : w5.cell? ⟨b, off + k, none⟩ = some (.string (str xs[k])) := HC5.out k hlt
        have hkz : (str xs[k]).size ≤ 40 := by rw [str_size]; exact HXS.out _ (List.getElem_mem hlt)
        have hk40 : ¬ ((40 : Int) < (((str xs[k]).size : Nat) : Int)) := by omega
        generalize str xs[k] = x at *
        go_wp2
        go_round
        case rel => exact ⟨k + 1, by omega, by go_num⟩
        case measure => simp [intOf]; omega
      · go_wp2
        go_ret
        exact ⟨rfl, hB5⟩
end Go.Proofs.YtjnpkmenlecdmabDoor
