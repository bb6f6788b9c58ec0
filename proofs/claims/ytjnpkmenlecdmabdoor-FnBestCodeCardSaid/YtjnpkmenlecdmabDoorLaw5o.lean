/-
  The law of chapter 5 on the best way: its walk. For every input of the law: it returns true, and the input reads as it did. Conditions: none but the statement's own.
-/
import Derived.Test.YtjnpkmenlecdmabDoorLaw0c
import Derived.Test.YtjnpkmenlecdmabDoorDrawC
import Derived.Test.YtjnpkmenlecdmabDoorLaw5n
namespace Go.Proofs.YtjnpkmenlecdmabDoor
open Go.ChangeShapes Go.WideShapes Go.ChangeAt Go.RowKit
open Go.ChangeMaps (open_string shut_string)

theorem lenL_flat : ∀ (ls : List (List UInt8)), lenL ls = ls.flatten.length + ls.length
  | [] => rfl
  | l :: ls => by
    have := lenL_flat ls
    unfold lenL at this ⊢
    rw [List.map_cons, List.sum_cons, this, List.flatten_cons, List.length_append, List.length_cons]; omega
theorem flatten_le5 : ∀ (ls : List (List UInt8)), (∀ x ∈ ls, x.length ≤ 41) → ls.flatten.length ≤ 41 * ls.length
  | [], _ => by simp
  | l :: ls, h => by
    have h1 := flatten_le5 ls (fun x hx => h x (by simp [hx]))
    have h2 := h l (by simp)
    rw [List.flatten_cons, List.length_append, List.length_cons]; omega
theorem best_some {b : List UInt8} {m : Nat} (h : best b = some m) : b.length ≤ 300 ∧ ((m = 0 ∧ (encP b).isSome = true) ∨ (m = 2 ∧ (encP b).isSome = false ∧ lenL (chop (b64 b)) < lenL (qgo [] b)) ∨ (m = 1 ∧ (encP b).isSome = false ∧ ¬ lenL (chop (b64 b)) < lenL (qgo [] b))) := by
  unfold best at h
  split at h
  · cases h
  · rename_i h3
    refine ⟨by omega, ?_⟩
    split at h
    · rename_i h4; injection h with h; exact .inl ⟨h.symm, h4⟩
    · rename_i h4
      have h4' : (encP b).isSome = false := by cases hh : (encP b).isSome; rfl; exact absurd hh h4
      split at h
      · rename_i h5; injection h with h; exact .inr (.inl ⟨h.symm, h4', h5⟩)
      · rename_i h5; injection h with h; exact .inr (.inr ⟨h.symm, h4', h5⟩)
set_option maxRecDepth 100000 in
set_option maxHeartbeats 4000000 in
theorem fnBestCode_walk (a : Option Addr) (n c : Nat) (w : World) (hmx : ∃ m, w.cell? ⟨1, 0, none⟩ = some (.int .i64 m)) (hc : Code w a n) (hnc : n ≤ c) (hm : c ≤ maxLen) :
    Calls Tryd.prog 6 #[.slice a n c] w fun e w' => e = .returned (.bool true) ∧ Below w.heap.size w w' := by
  have hm' := hm
  unfold maxLen at hm'
  by_cases hn : 1048576 < n
  · have hd : decide ((1048576 : Int) < n) = true := by simp; omega
    go_enter Tryd.func6, Tryd.ntmps6
    go_wp2
    go_ret
    exact ⟨rfl, Below.refl _ _⟩
  have hd : decide ((1048576 : Int) < n) = false := by simp; omega
  go_enter Tryd.func6, Tryd.ntmps6
  go_wp2_with fail
  refine (drawBestCode_any a n c w hc hnc hm).mono ?_
  rintro e w1 ⟨s, rfl, hs, hb1⟩
  have HB := bestCode_any s w1 (mx_below hmx hb1) (by omega)
  have HBS := Lib.hid (fun u => bestCodeS_any s u (by omega))
  cases hbest : best s.data.toList with
  | none =>
    rw [hbest] at HB
    rw [hbest] at HBS
    have HB := Lib.hid HB
    clear hbest
    go_wp2_with fail
    refine HB.out.mono ?_
    rintro e w2 ⟨rfl, hb2⟩
    go_wp2_with fail
    refine (HBS.out _).mono ?_
    rintro e w3 ⟨rfl, hb3⟩
    go_wp2
    go_ret
    exact ⟨rfl, nx (nx hb1 hb2) hb3⟩
  | some m =>
    rw [hbest] at HB
    rw [hbest] at HBS
    have HB := Lib.hid HB
    obtain ⟨h300, hcase⟩ := best_some hbest
    have HQ : Hid (encQ s.data.toList = some (qgo [] s.data.toList)) := encQ_in h300
    have HBB : Hid (encB s.data.toList = some (chop (b64 s.data.toList))) := encB_in h300
    have hW : ∀ q : Int, ∃ o, encW s.data.toList q = o := fun q => ⟨_, rfl⟩
    have hsz : s.size ≤ 1073741000 := by omega
    clear hbest h300
    rcases hcase with ⟨rfl, hp⟩ | ⟨rfl, hp, hlt⟩ | ⟨rfl, hp, hlt⟩
    · obtain ⟨ys, hys⟩ : ∃ ys, encW s.data.toList 0 = some ys := by
        show ∃ ys, encP s.data.toList = some ys
        cases he : encP s.data.toList with
        | none => rw [he] at hp; cases hp
        | some ys => exact ⟨ys, rfl⟩
      obtain ⟨hback, _, _⟩ := decW_encW hys
      have hsm := encW_small s.data.toList 0
      rw [hys] at hsm
      obtain ⟨hyl, hyx⟩ := hsm
      change ys.length ≤ 500 at hyl
      change ∀ x ∈ ys, x.length ≤ 40 at hyx
      have HE : Hid (∀ u : World, Below w.heap.size w u → Calls Tryd.prog 30 #[.string s, .int .i64 0] u fun e w' => ∃ v, e = .returned (.tuple #[v, .bool true]) ∧ OwnL u.heap.size v ys w' ∧ Below u.heap.size u w') := fun u hu => by
        have := encodeBytes_any s 0 u (mx_below hmx hu) hsz
        rw [hys] at this; exact this
      have HK : Hid (∀ (b : Option Addr) (cb : Nat) (u : World), ys.length ≤ cb → RdL u b ys.length ys → Calls Tryd.prog 31 #[.slice b ys.length cb, .int .i64 0] u fun e w' => e = .returned (.tuple #[.string s, .bool true]) ∧ Below u.heap.size u w') := fun b cb u hcb hrb => by
        have := decodeBytes_any b _ cb ys 0 u hrb hcb (by omega) (fun x hx => Nat.le_trans (hyx x hx) (by omega))
        rw [hback] at this
        refine this.mono ?_
        rintro e w' ⟨rfl, hb⟩
        exact ⟨by show _ = _; rw [Option.getD_some, str_of]; rfl, hb⟩
      have HP : Hid (∀ u : World, Below w.heap.size w u → Calls Tryd.prog 30 #[.string s, .int .i64 0] u fun e w' => ∃ v k, e = .returned (.tuple #[v, .bool true]) ∧ (∃ a c, v = .slice a k c) ∧ Below u.heap.size u w') := fun u hu => by
        have := encodeBytes_any s 0 u (mx_below hmx hu) hsz
        refine this.mono ?_
        rintro e w' ⟨v, rfl, ho, hb⟩
        obtain ⟨a', c', hv, _, _⟩ := ho.read
        exact ⟨v, _, (by show _ = Ending.returned (.tuple #[v, .bool true]); rw [← hp]; rfl), ⟨a', c', hv⟩, hb⟩
      have HX : Hid (∀ u : World, Below w.heap.size w u → Calls Tryd.prog 20 #[.string s] u (EncRet (some (qgo [] s.data.toList)) u)) := fun u hu => by
        have := encodeQuoted_any s u (mx_below hmx hu) hsz
        rw [HQ.out] at this; exact this
      have HY : Hid (∀ u : World, Calls Tryd.prog 32 #[.string s] u (EncRet (some (chop (b64 s.data.toList))) u)) := fun u => by
        have := encodeBase_any s u hsz
        rw [HBB.out] at this; exact this
      have hxsm := encQ_small s.data.toList
      have hysm := encB_small s.data.toList
      rw [HQ.out] at hxsm
      rw [HBB.out] at hysm
      obtain ⟨hxl, hxx⟩ := hxsm
      obtain ⟨hcl, hcx⟩ := hysm
      generalize qgo [] s.data.toList = qs at *
      generalize chop (b64 s.data.toList) = cs at *
      change qs.length ≤ 500 at hxl
      change cs.length ≤ 500 at hcl
      have HXX : Hid (∀ x ∈ qs, x.length ≤ 1000) := fun x hx => Nat.le_trans (hxx x hx) (by omega)
      have HCX : Hid (∀ x ∈ cs, x.length ≤ 1000) := fun x hx => Nat.le_trans (hcx x hx) (by omega)
      have hee : (s.toList == s.toList) = true := by simp
      clear hp hys hback hyx hxx hcx hW HQ HBB
      go_wp2_with fail
      refine HB.out.mono ?_
      rintro e w2 ⟨rfl, hb2⟩
      go_wp2_with fail
      refine (HBS.out _).mono ?_
      rintro e w3 ⟨rfl, hb3⟩
      have hB3 := nx (nx hb1 hb2) hb3
      go_wp2_with fail
      refine (HE.out _ hB3).mono ?_
      rintro e w4 ⟨v4, rfl, ho4, hb4⟩
      obtain ⟨a4, c4, rfl, hr4, _⟩ := ho4.read
      have hc4 := ownL_cap ho4
      have hB4 := nx hB3 hb4
      go_wp2_with fail
      refine (HK.out a4 c4 _ hc4 hr4).mono ?_
      rintro e w5 ⟨rfl, hb5⟩
      have hB5 := nx hB4 hb5
      clear hr4 ho4 hc4
      go_wp2_with fail
      refine (HP.out _ hB5).mono ?_
      rintro e w6 ⟨v6, k6, rfl, ⟨a6, c6, rfl⟩, hb6⟩
      have hB6 := nx hB5 hb6
      go_wp2_with fail
      refine (HX.out _ hB6).mono ?_
      rintro e w7 ⟨v7, rfl, ho7, hb7⟩
      obtain ⟨a7, c7, hv7, hr7, _⟩ := ho7.read
      change v7 = .slice a7 qs.length c7 at hv7
      change RdL w7 a7 qs.length qs at hr7
      subst hv7
      have hB7 := nx hB6 hb7
      clear ho7
      go_wp2_with fail
      refine (HY.out _).mono ?_
      rintro e w8 ⟨v8, rfl, ho8, hb8⟩
      obtain ⟨a8, c8, hv8, hr8, _⟩ := ho8.read
      change v8 = .slice a8 cs.length c8 at hv8
      change RdL w8 a8 cs.length cs at hr8
      subst hv8
      have hB8 := nx hB7 hb8
      have hr78 := hr7.below hb8
      have HR8 := Lib.hid hr8
      have HR78 := Lib.hid hr78
      clear ho8 hr8 hr78 hr7
      go_wp2
      go_ret
      exact ⟨rfl, hB8⟩
    · obtain ⟨ys, hys⟩ : ∃ ys, encW s.data.toList 2 = some ys := by
        exact ⟨_, HBB.out⟩
      obtain ⟨hback, _, _⟩ := decW_encW hys
      have hsm := encW_small s.data.toList 2
      rw [hys] at hsm
      obtain ⟨hyl, hyx⟩ := hsm
      change ys.length ≤ 500 at hyl
      change ∀ x ∈ ys, x.length ≤ 40 at hyx
      have HE : Hid (∀ u : World, Below w.heap.size w u → Calls Tryd.prog 30 #[.string s, .int .i64 2] u fun e w' => ∃ v, e = .returned (.tuple #[v, .bool true]) ∧ OwnL u.heap.size v ys w' ∧ Below u.heap.size u w') := fun u hu => by
        have := encodeBytes_any s 2 u (mx_below hmx hu) hsz
        rw [hys] at this; exact this
      have HK : Hid (∀ (b : Option Addr) (cb : Nat) (u : World), ys.length ≤ cb → RdL u b ys.length ys → Calls Tryd.prog 31 #[.slice b ys.length cb, .int .i64 2] u fun e w' => e = .returned (.tuple #[.string s, .bool true]) ∧ Below u.heap.size u w') := fun b cb u hcb hrb => by
        have := decodeBytes_any b _ cb ys 2 u hrb hcb (by omega) (fun x hx => Nat.le_trans (hyx x hx) (by omega))
        rw [hback] at this
        refine this.mono ?_
        rintro e w' ⟨rfl, hb⟩
        exact ⟨by show _ = _; rw [Option.getD_some, str_of]; rfl, hb⟩
      have HP : Hid (∀ u : World, Below w.heap.size w u → Calls Tryd.prog 30 #[.string s, .int .i64 0] u fun e w' => ∃ v k, e = .returned (.tuple #[v, .bool false]) ∧ (∃ a c, v = .slice a k c) ∧ Below u.heap.size u w') := fun u hu => by
        have := encodeBytes_any s 0 u (mx_below hmx hu) hsz
        refine this.mono ?_
        rintro e w' ⟨v, rfl, ho, hb⟩
        obtain ⟨a', c', hv, _, _⟩ := ho.read
        exact ⟨v, _, (by show _ = Ending.returned (.tuple #[v, .bool false]); rw [← hp]; rfl), ⟨a', c', hv⟩, hb⟩
      have HX : Hid (∀ u : World, Below w.heap.size w u → Calls Tryd.prog 20 #[.string s] u (EncRet (some (qgo [] s.data.toList)) u)) := fun u hu => by
        have := encodeQuoted_any s u (mx_below hmx hu) hsz
        rw [HQ.out] at this; exact this
      have HY : Hid (∀ u : World, Calls Tryd.prog 32 #[.string s] u (EncRet (some (chop (b64 s.data.toList))) u)) := fun u => by
        have := encodeBase_any s u hsz
        rw [HBB.out] at this; exact this
      have hxsm := encQ_small s.data.toList
      have hysm := encB_small s.data.toList
      rw [HQ.out] at hxsm
      rw [HBB.out] at hysm
      obtain ⟨hxl, hxx⟩ := hxsm
      obtain ⟨hcl, hcx⟩ := hysm
      generalize qgo [] s.data.toList = qs at *
      generalize chop (b64 s.data.toList) = cs at *
      change qs.length ≤ 500 at hxl
      change cs.length ≤ 500 at hcl
      have HXX : Hid (∀ x ∈ qs, x.length ≤ 1000) := fun x hx => Nat.le_trans (hxx x hx) (by omega)
      have HCX : Hid (∀ x ∈ cs, x.length ≤ 1000) := fun x hx => Nat.le_trans (hcx x hx) (by omega)
      rw [lenL_flat, lenL_flat] at hlt
      have hqf := str_size qs.flatten
      have hcf := str_size cs.flatten
      have hlt2 : (((str cs.flatten).size : Nat) : Int) + ((cs.length : Nat) : Int) < (((str qs.flatten).size : Nat) : Int) + ((qs.length : Nat) : Int) := by omega
      have hqm : qs.flatten.length ≤ 41 * qs.length := flatten_le5 qs (fun x hx => Nat.le_trans (hxx x hx) (by omega))
      have hcm : cs.flatten.length ≤ 41 * cs.length := flatten_le5 cs (fun x hx => Nat.le_trans (hcx x hx) (by omega))
      have hqi : (str qs.flatten).size ≤ 20500 := by omega
      have hci : (str cs.flatten).size ≤ 20500 := by omega
      have HLT := Lib.hid hlt2
      clear hlt hlt2 hqm hcm hqf hcf
      have hee : (s.toList == s.toList) = true := by simp
      clear hp hys hback hyx hxx hcx hW HQ HBB
      go_wp2_with fail
      refine HB.out.mono ?_
      rintro e w2 ⟨rfl, hb2⟩
      go_wp2_with fail
      refine (HBS.out _).mono ?_
      rintro e w3 ⟨rfl, hb3⟩
      have hB3 := nx (nx hb1 hb2) hb3
      go_wp2_with fail
      refine (HE.out _ hB3).mono ?_
      rintro e w4 ⟨v4, rfl, ho4, hb4⟩
      obtain ⟨a4, c4, rfl, hr4, _⟩ := ho4.read
      have hc4 := ownL_cap ho4
      have hB4 := nx hB3 hb4
      go_wp2_with fail
      refine (HK.out a4 c4 _ hc4 hr4).mono ?_
      rintro e w5 ⟨rfl, hb5⟩
      have hB5 := nx hB4 hb5
      clear hr4 ho4 hc4
      go_wp2_with fail
      refine (HP.out _ hB5).mono ?_
      rintro e w6 ⟨v6, k6, rfl, ⟨a6, c6, rfl⟩, hb6⟩
      have hB6 := nx hB5 hb6
      go_wp2_with fail
      refine (HX.out _ hB6).mono ?_
      rintro e w7 ⟨v7, rfl, ho7, hb7⟩
      obtain ⟨a7, c7, hv7, hr7, _⟩ := ho7.read
      change v7 = .slice a7 qs.length c7 at hv7
      change RdL w7 a7 qs.length qs at hr7
      subst hv7
      have hB7 := nx hB6 hb7
      clear ho7
      go_wp2_with fail
      refine (HY.out _).mono ?_
      rintro e w8 ⟨v8, rfl, ho8, hb8⟩
      obtain ⟨a8, c8, hv8, hr8, _⟩ := ho8.read
      change v8 = .slice a8 cs.length c8 at hv8
      change RdL w8 a8 cs.length cs at hr8
      subst hv8
      have hB8 := nx hB7 hb8
      have hr78 := hr7.below hb8
      have HR8 := Lib.hid hr8
      have HR78 := Lib.hid hr78
      clear ho8 hr8 hr78 hr7
      go_wp2_with fail
      refine (mwJoin_any a8 _ c8 cs _ HR8.out (by omega) HCX.out).mono ?_
      rintro e w9 ⟨rfl, rfl⟩
      go_wp2_with fail
      refine (mwJoin_any a7 _ c7 qs _ HR78.out (by omega) HXX.out).mono ?_
      rintro e w9 ⟨rfl, rfl⟩
      have hlt2 := HLT.out
      generalize str cs.flatten = cf at *
      generalize str qs.flatten = qf at *
      go_wp2
      go_ret
      exact ⟨rfl, hB8⟩
    · obtain ⟨ys, hys⟩ : ∃ ys, encW s.data.toList 1 = some ys := by
        exact ⟨_, HQ.out⟩
      obtain ⟨hback, _, _⟩ := decW_encW hys
      have hsm := encW_small s.data.toList 1
      rw [hys] at hsm
      obtain ⟨hyl, hyx⟩ := hsm
      change ys.length ≤ 500 at hyl
      change ∀ x ∈ ys, x.length ≤ 40 at hyx
      have HE : Hid (∀ u : World, Below w.heap.size w u → Calls Tryd.prog 30 #[.string s, .int .i64 1] u fun e w' => ∃ v, e = .returned (.tuple #[v, .bool true]) ∧ OwnL u.heap.size v ys w' ∧ Below u.heap.size u w') := fun u hu => by
        have := encodeBytes_any s 1 u (mx_below hmx hu) hsz
        rw [hys] at this; exact this
      have HK : Hid (∀ (b : Option Addr) (cb : Nat) (u : World), ys.length ≤ cb → RdL u b ys.length ys → Calls Tryd.prog 31 #[.slice b ys.length cb, .int .i64 1] u fun e w' => e = .returned (.tuple #[.string s, .bool true]) ∧ Below u.heap.size u w') := fun b cb u hcb hrb => by
        have := decodeBytes_any b _ cb ys 1 u hrb hcb (by omega) (fun x hx => Nat.le_trans (hyx x hx) (by omega))
        rw [hback] at this
        refine this.mono ?_
        rintro e w' ⟨rfl, hb⟩
        exact ⟨by show _ = _; rw [Option.getD_some, str_of]; rfl, hb⟩
      have HP : Hid (∀ u : World, Below w.heap.size w u → Calls Tryd.prog 30 #[.string s, .int .i64 0] u fun e w' => ∃ v k, e = .returned (.tuple #[v, .bool false]) ∧ (∃ a c, v = .slice a k c) ∧ Below u.heap.size u w') := fun u hu => by
        have := encodeBytes_any s 0 u (mx_below hmx hu) hsz
        refine this.mono ?_
        rintro e w' ⟨v, rfl, ho, hb⟩
        obtain ⟨a', c', hv, _, _⟩ := ho.read
        exact ⟨v, _, (by show _ = Ending.returned (.tuple #[v, .bool false]); rw [← hp]; rfl), ⟨a', c', hv⟩, hb⟩
      have HX : Hid (∀ u : World, Below w.heap.size w u → Calls Tryd.prog 20 #[.string s] u (EncRet (some (qgo [] s.data.toList)) u)) := fun u hu => by
        have := encodeQuoted_any s u (mx_below hmx hu) hsz
        rw [HQ.out] at this; exact this
      have HY : Hid (∀ u : World, Calls Tryd.prog 32 #[.string s] u (EncRet (some (chop (b64 s.data.toList))) u)) := fun u => by
        have := encodeBase_any s u hsz
        rw [HBB.out] at this; exact this
      have hxsm := encQ_small s.data.toList
      have hysm := encB_small s.data.toList
      rw [HQ.out] at hxsm
      rw [HBB.out] at hysm
      obtain ⟨hxl, hxx⟩ := hxsm
      obtain ⟨hcl, hcx⟩ := hysm
      generalize qgo [] s.data.toList = qs at *
      generalize chop (b64 s.data.toList) = cs at *
      change qs.length ≤ 500 at hxl
      change cs.length ≤ 500 at hcl
      have HXX : Hid (∀ x ∈ qs, x.length ≤ 1000) := fun x hx => Nat.le_trans (hxx x hx) (by omega)
      have HCX : Hid (∀ x ∈ cs, x.length ≤ 1000) := fun x hx => Nat.le_trans (hcx x hx) (by omega)
      rw [lenL_flat, lenL_flat] at hlt
      have hqf := str_size qs.flatten
      have hcf := str_size cs.flatten
      have hlt2 : decide ((((str cs.flatten).size : Nat) : Int) + ((cs.length : Nat) : Int) < (((str qs.flatten).size : Nat) : Int) + ((qs.length : Nat) : Int)) = false := by rw [decide_eq_false_iff_not]; omega
      have hqm : qs.flatten.length ≤ 41 * qs.length := flatten_le5 qs (fun x hx => Nat.le_trans (hxx x hx) (by omega))
      have hcm : cs.flatten.length ≤ 41 * cs.length := flatten_le5 cs (fun x hx => Nat.le_trans (hcx x hx) (by omega))
      have hqi : (str qs.flatten).size ≤ 20500 := by omega
      have hci : (str cs.flatten).size ≤ 20500 := by omega
      have HLT := Lib.hid hlt2
      clear hlt hlt2 hqm hcm hqf hcf
      have hee : (s.toList == s.toList) = true := by simp
      clear hp hys hback hyx hxx hcx hW HQ HBB
      go_wp2_with fail
      refine HB.out.mono ?_
      rintro e w2 ⟨rfl, hb2⟩
      go_wp2_with fail
      refine (HBS.out _).mono ?_
      rintro e w3 ⟨rfl, hb3⟩
      have hB3 := nx (nx hb1 hb2) hb3
      go_wp2_with fail
      refine (HE.out _ hB3).mono ?_
      rintro e w4 ⟨v4, rfl, ho4, hb4⟩
      obtain ⟨a4, c4, rfl, hr4, _⟩ := ho4.read
      have hc4 := ownL_cap ho4
      have hB4 := nx hB3 hb4
      go_wp2_with fail
      refine (HK.out a4 c4 _ hc4 hr4).mono ?_
      rintro e w5 ⟨rfl, hb5⟩
      have hB5 := nx hB4 hb5
      clear hr4 ho4 hc4
      go_wp2_with fail
      refine (HP.out _ hB5).mono ?_
      rintro e w6 ⟨v6, k6, rfl, ⟨a6, c6, rfl⟩, hb6⟩
      have hB6 := nx hB5 hb6
      go_wp2_with fail
      refine (HX.out _ hB6).mono ?_
      rintro e w7 ⟨v7, rfl, ho7, hb7⟩
      obtain ⟨a7, c7, hv7, hr7, _⟩ := ho7.read
      change v7 = .slice a7 qs.length c7 at hv7
      change RdL w7 a7 qs.length qs at hr7
      subst hv7
      have hB7 := nx hB6 hb7
      clear ho7
      go_wp2_with fail
      refine (HY.out _).mono ?_
      rintro e w8 ⟨v8, rfl, ho8, hb8⟩
      obtain ⟨a8, c8, hv8, hr8, _⟩ := ho8.read
      change v8 = .slice a8 cs.length c8 at hv8
      change RdL w8 a8 cs.length cs at hr8
      subst hv8
      have hB8 := nx hB7 hb8
      have hr78 := hr7.below hb8
      have HR8 := Lib.hid hr8
      have HR78 := Lib.hid hr78
      clear ho8 hr8 hr78 hr7
      go_wp2_with fail
      refine (mwJoin_any a8 _ c8 cs _ HR8.out (by omega) HCX.out).mono ?_
      rintro e w9 ⟨rfl, rfl⟩
      go_wp2_with fail
      refine (mwJoin_any a7 _ c7 qs _ HR78.out (by omega) HXX.out).mono ?_
      rintro e w9 ⟨rfl, rfl⟩
      have hlt2 := HLT.out
      generalize str cs.flatten = cf at *
      generalize str qs.flatten = qf at *
      go_wp2
      go_ret
      exact ⟨rfl, hB8⟩
end Go.Proofs.YtjnpkmenlecdmabDoor
