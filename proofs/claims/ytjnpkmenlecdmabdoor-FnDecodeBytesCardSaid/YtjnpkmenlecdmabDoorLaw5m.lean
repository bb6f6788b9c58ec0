/-
  The law of chapter 5 on lines read in a way: its walk. For every input of the law: it returns true, and the input reads as it did. Conditions: none but the statement's own.
-/
import Derived.Test.YtjnpkmenlecdmabDoorLaw0c
import Derived.Test.YtjnpkmenlecdmabDoorDrawC
import Derived.Test.YtjnpkmenlecdmabDoorCodY
import Derived.Test.YtjnpkmenlecdmabDoorLaw5n
namespace Go.Proofs.YtjnpkmenlecdmabDoor
open Go.ChangeShapes Go.WideShapes Go.ChangeAt Go.RowKit
open Go.ChangeMaps (open_string shut_string)

theorem encW_decW {b : List UInt8} {k : Int} {ls : List (List UInt8)} (h : decW ls k = some b) : ∃ ys, encW b k = some ys := by
  unfold decW at h
  unfold encW
  split at h
  · rename_i h0
    rw [if_pos h0]
    exact ⟨_, (encP_decP h).1⟩
  · rename_i h0
    rw [if_neg h0]
    split at h
    · rename_i h1
      rw [if_pos h1]
      exact ⟨_, encQ_in (lim_some h).2⟩
    · rename_i h1
      rw [if_neg h1]
      split at h
      · rename_i h2
        rw [if_pos h2]
        exact ⟨_, (decB_back h).1⟩
      · cases h
/-- Lines and a way are drawn. -/
def DrawnLW (w : World) (e : Ending) (w' : World) : Prop := ∃ (v : Value) (xs : List (List UInt8)) (k : Int), e = .returned (.tuple #[v, .int .i64 k]) ∧ OwnL w.heap.size v xs w' ∧ xs.length ≤ 500 ∧ (∀ x ∈ xs, x.length ≤ 40) ∧ Below w.heap.size w w'
set_option maxRecDepth 100000 in
set_option maxHeartbeats 1000000 in
theorem drawDecodeBytes_any (a : Option Addr) (n c : Nat) (w : World) (hc : Code w a n) (hnc : n ≤ c) (hm : c ≤ maxLen) :
    Calls Tryd.prog 36 #[.slice a n c] w (DrawnLW w) := by
  go_enter Tryd.func36, Tryd.ntmps36
  go_wp2_with fail
  refine (open_any a n c w hc hnc hm).mono ?_
  rintro e w1 ⟨R, rfl, hR, hr1, hb1⟩
  have hs1 := hb1.size
  go_wp2_with fail
  refine (numC_lit R 0 5 [0, 1, 2, 0, 3] _ _ hr1 (by omega) rfl (by omega) (by omega)).mono ?_
  rintro e w3 ⟨k, hk, rfl, hr3, ht3⟩
  clear hk
  go_wp2_with fail
  refine (l5Draw_any R 1 _ hr3 (by omega)).mono ?_
  rintro e w2 ⟨s2, p2, rfl, g2, f2, k2, hr2, ht2⟩
  have hs2 := (ht3.trans ht2).size
  have hB2 := after_open hb1 hR (ht3.trans ht2)
  go_wp2_with fail
  refine (encodeBytesS_any s2 k _ (by omega)).mono ?_
  rintro e w4 ⟨v, rfl, ho, hb4⟩
  have HO : Hid (OwnL w.heap.size v ((encW s2.data.toList k).getD []) w4) := ho.base (by omega)
  have HB := Lib.hid (nx hB2 hb4)
  obtain ⟨hxl, hxs⟩ := encW_small s2.data.toList k
  generalize (encW s2.data.toList k).getD [] = xs at *
  have HXS := Lib.hid hxs
  clear hxs ho
  go_wp2
  go_ret2
  exact ⟨v, xs, k, rfl, HO.out, hxl, HXS.out, HB.out⟩
set_option maxRecDepth 100000 in
set_option maxHeartbeats 4000000 in
theorem fnDecodeBytes_walk (a : Option Addr) (n c : Nat) (w : World) (hmx : ∃ m, w.cell? ⟨1, 0, none⟩ = some (.int .i64 m)) (hc : Code w a n) (hnc : n ≤ c) (hm : c ≤ maxLen) :
    Calls Tryd.prog 8 #[.slice a n c] w fun e w' => e = .returned (.bool true) ∧ Below w.heap.size w w' := by
  have hm' := hm
  unfold maxLen at hm'
  by_cases hn : 1048576 < n
  · have hd : decide ((1048576 : Int) < n) = true := by simp; omega
    go_enter Tryd.func8, Tryd.ntmps8
    go_wp2
    go_ret
    exact ⟨rfl, Below.refl _ _⟩
  have hd : decide ((1048576 : Int) < n) = false := by simp; omega
  go_enter Tryd.func8, Tryd.ntmps8
  go_wp2_with fail
  refine (drawDecodeBytes_any a n c w hc hnc hm).mono ?_
  rintro e w1 ⟨v1, xs, q, rfl, ho1, hxl, hxs, hb1⟩
  obtain ⟨a1, c1, rfl, hr1, _⟩ := ho1.read
  have HC1 := Lib.hid (ownL_cap ho1)
  have HR1 := Lib.hid hr1
  have HXS : Hid (∀ x ∈ xs, x.length ≤ 1073741000) := fun x hx => Nat.le_trans (hxs x hx) (by omega)
  clear hr1 ho1 hxs
  cases hdd : decW xs q with
  | none =>
    obtain ⟨z, hz, hzl⟩ : ∃ z : ByteArray, z = str [] ∧ z.toList = [] := ⟨_, rfl, by decide +kernel⟩
    have HI : Hid (∀ u : World, Below w1.heap.size w1 u → Calls Tryd.prog 31 #[.slice a1 xs.length c1, .int .i64 q] u fun e w' => e = .returned (.tuple #[.string z, .bool false]) ∧ Below u.heap.size u w') := fun u hu => by
      have := decodeBytes_any a1 _ c1 xs q u (HR1.out.below hu) HC1.out (by omega) HXS.out
      rw [hdd] at this; rw [hz]; exact this
    have HJ : Hid (∀ u : World, Below w1.heap.size w1 u → Calls Tryd.prog 37 #[.slice a1 xs.length c1, .int .i64 q] u fun e w' => e = .returned (.tuple #[.string z, .bool false]) ∧ Below u.heap.size u w') := fun u hu => by
      have := decodeBytesS_any a1 _ c1 xs q u (HR1.out.below hu) (by omega) HXS.out
      rw [hdd] at this; rw [hz]; exact this
    clear hdd hz
    go_wp2_with fail
    refine (HI.out _ (Below.refl _ _)).mono ?_
    rintro e w2 ⟨rfl, hb2⟩
    go_wp2_with fail
    refine (HJ.out _ hb2).mono ?_
    rintro e w3 ⟨rfl, hb3⟩
    go_wp2
    go_ret
    exact ⟨rfl, nx (nx hb1 hb2) hb3⟩
  | some t =>
    obtain ⟨ys, hys⟩ := encW_decW hdd
    obtain ⟨hback, _, h300⟩ := decW_encW hys
    obtain ⟨hyl, hyx⟩ := encW_small t q
    rw [hys] at hyl hyx
    change ys.length ≤ 500 at hyl
    change ∀ x ∈ ys, x.length ≤ 40 at hyx
    have HYX : Hid (∀ x ∈ ys, x.length ≤ 1073741000) := fun x hx => Nat.le_trans (hyx x hx) (by omega)
    obtain ⟨z, hz⟩ : ∃ z : ByteArray, z = str t := ⟨_, rfl⟩
    have hz3 : z.size ≤ 300 := by rw [hz, str_size]; exact h300
    have hzl : z.data.toList = t := by rw [hz]; rfl
    have HI : Hid (∀ u : World, Below w1.heap.size w1 u → Calls Tryd.prog 31 #[.slice a1 xs.length c1, .int .i64 q] u fun e w' => e = .returned (.tuple #[.string z, .bool true]) ∧ Below u.heap.size u w') := fun u hu => by
      have := decodeBytes_any a1 _ c1 xs q u (HR1.out.below hu) HC1.out (by omega) HXS.out
      rw [hdd] at this; rw [hz]; exact this
    have HJ : Hid (∀ u : World, Below w1.heap.size w1 u → Calls Tryd.prog 37 #[.slice a1 xs.length c1, .int .i64 q] u fun e w' => e = .returned (.tuple #[.string z, .bool true]) ∧ Below u.heap.size u w') := fun u hu => by
      have := decodeBytesS_any a1 _ c1 xs q u (HR1.out.below hu) (by omega) HXS.out
      rw [hdd] at this; rw [hz]; exact this
    have HE : Hid (∀ u : World, Below w.heap.size w u → Calls Tryd.prog 30 #[.string z, .int .i64 q] u fun e w' => ∃ v, e = .returned (.tuple #[v, .bool true]) ∧ OwnL u.heap.size v ys w' ∧ Below u.heap.size u w') := fun u hu => by
      have := encodeBytes_any z q u (mx_below hmx hu) (by omega)
      rw [hzl, hys] at this; exact this
    have HK : Hid (∀ (b : Option Addr) (cb : Nat) (u : World), ys.length ≤ cb → RdL u b ys.length ys → Calls Tryd.prog 31 #[.slice b ys.length cb, .int .i64 q] u fun e w' => e = .returned (.tuple #[.string z, .bool true]) ∧ Below u.heap.size u w') := fun b cb u hcb hrb => by
      have := decodeBytes_any b _ cb ys q u hrb hcb (by omega) HYX.out
      rw [hback] at this; rw [hz]; exact this
    have hee : (z.toList == z.toList) = true := by simp
    have hz3i : (z.size : Int) ≤ 300 := by omega
    clear hdd hys hback h300 hyx hz hzl
    go_wp2_with fail
    refine (HI.out _ (Below.refl _ _)).mono ?_
    rintro e w2 ⟨rfl, hb2⟩
    have hB2 := nx hb1 hb2
    go_wp2_with fail
    refine (HJ.out _ hb2).mono ?_
    rintro e w3 ⟨rfl, hb3⟩
    have hB3 := nx hB2 hb3
    go_wp2_with fail
    refine (HE.out _ hB3).mono ?_
    rintro e w4 ⟨v4, rfl, ho4, hb4⟩
    obtain ⟨a4, c4, rfl, hr4, _⟩ := ho4.read
    have hc4 := ownL_cap ho4
    have hB4 := nx hB3 hb4
    go_wp2_with fail
    refine (HK.out a4 c4 _ hc4 hr4).mono ?_
    rintro e w5 ⟨rfl, hb5⟩
    have hB5 := nx hB4 hb5
    clear hr4 ho4 hc4
    go_wp2
    go_ret
    exact ⟨rfl, hB5⟩
end Go.Proofs.YtjnpkmenlecdmabDoor
