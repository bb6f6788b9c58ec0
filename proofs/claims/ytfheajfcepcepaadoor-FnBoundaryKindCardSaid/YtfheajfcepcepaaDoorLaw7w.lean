/-
  The law of chapter 7 that boundaries of kinds are read back: its walk. For every input of the law: it returns true, and the input reads as it did. Conditions: none but the statement's own.
-/
import Derived.Test.YtfheajfcepcepaaDoorLaw0
import Derived.Test.YtfheajfcepcepaaDoorZip
namespace Go.Proofs.YtfheajfcepcepaaDoor
open Go.ChangeShapes Go.WideShapes Go.ChangeAt Go.RowKit
open Go.ChangeMaps (open_string shut_string)

theorem bndOf_partsK {k : Knd} {b : List UInt8} (h : bndOf k = some b) : isKnd k = true ∧ k.main = multiL ∧ isBnd b = true ∧ getR k.params bndL = b ∧ (getF k.params bndL).isSome = true := by
  unfold bndOf at h
  split at h
  · rename_i hc
    injection h with h
    subst h
    refine ⟨hc.1, hc.2.1, hc.2.2, rfl, ?_⟩
    cases hg : getF k.params bndL with
    | some x => rfl
    | none =>
      have := hc.2.2
      unfold getR at this
      rw [hg] at this
      exact absurd this (by decide)
  · cases h
set_option maxRecDepth 100000 in
set_option maxHeartbeats 2000000 in
theorem fnBoundaryKind_walk (a : Option Addr) (n c : Nat) (w : World) (tab : Tab w) (hc : Code w a n) (hnc : n ≤ c) (hm : c ≤ maxLen) :
    Calls Tryd.prog 8 #[.slice a n c] w fun e w' => e = .returned (.bool true) ∧ Below w.heap.size w w' := by
  have hm' := hm
  unfold maxLen at hm'
  by_cases hn : 1048576 < n
  · have hd : decide ((1048576 : Int) < n) = true := by simp; omega
    go_enter Tryd.func8, Tryd.ntmps8
    go_wp2
    go_ret
    exact ⟨rfl, Below.refl _ _⟩
  have hd : decide ((1048576 : Int) < n) = false := by simp; omega
  go_enter Tryd.func8, Tryd.ntmps8
  go_wp2_with fail
  refine (drawBoundaryOf_any a n c w hc hnc hm).mono ?_
  rintro e w1 ⟨k, ak, dk, rfl, hok, hnk, hsk, hb1⟩
  rw [kndV_agg]
  have HK := Lib.hid (RdK.own hok (smallK2_of hsk (by omega) (by omega)))
  have tab1 := tab.below hb1
  have HB1 : Hid (∀ u, Below w1.heap.size w1 u → Calls Tryd.prog 19 #[.agg #[.string (str k.main), .string (str k.sub), .slice ak k.params.length dk]] u fun e w' => e = .returned (.tuple #[.string (str ((bndOf k).getD [])), .bool (bndOf k).isSome]) ∧ Below u.heap.size u w') := fun u h => boundaryOf_k u (tab1.below h) (HK.out.below h)
  have HB2 : Hid (∀ u, Below w1.heap.size w1 u → Calls Tryd.prog 20 #[.agg #[.string (str k.main), .string (str k.sub), .slice ak k.params.length dk]] u fun e w' => e = .returned (.tuple #[.string (str ((bndOf k).getD [])), .bool (bndOf k).isSome]) ∧ Below u.heap.size u w') := fun u h => boundaryOfS_k u (HK.out.below h)
  have hA1 : Below w1.heap.size w1 (w1.alloc (.cells #[.string (str k.main), .string (str k.sub), .slice ak k.params.length dk] 25)) := (Below.refl _ _).alloc (Nat.le_refl _) _
  have HC1 := Lib.hid (KK3.new w1 (.string (str k.main)) (.string (str k.sub)) (.slice ak k.params.length dk) 25)
  have HBB := Lib.hid hb1
  have HY : Hid (∀ u, Below w1.heap.size w1 u → Calls Tryd.prog 19 #[.agg #[.string ⟨#[116, 101, 120, 116]⟩, .string (str k.sub), .slice ak k.params.length dk]] u fun e w' => e = .returned (.tuple #[.string ⟨#[]⟩, .bool false]) ∧ Below u.heap.size u w') := fun u h => by
    have hr : RdK u ⟨[116, 101, 120, 116], k.sub, k.params⟩ ak dk := ⟨(HK.out.below h).1, HK.out.2.1, ⟨by simp, HK.out.2.2.2.1, HK.out.2.2.2.2⟩⟩
    have := boundaryOf_k u (tab1.below h) hr
    rw [bndOf_no2 (k := ⟨[116, 101, 120, 116], k.sub, k.params⟩) (by show [116, 101, 120, 116] ≠ multiL; decide)] at this
    exact this
  have HF : Hid (∀ u, Below w1.heap.size w1 u → Calls Tryd.prog 10 #[.agg #[.string (str k.main), .string (str k.sub), .slice ak k.params.length dk]] u fun e w' => e = .returned (.string (str (fmtK k))) ∧ Below u.heap.size u w') := fun u h => formatKind_k u (tab1.below h) (HK.out.below h)
  have hkz : (str (fmtK k)).size ≤ 150 := by rw [str_size]; exact fmtK_len k
  have HPP : Hid (isKnd k = true → ∀ u, Below w1.heap.size w1 u → Calls Tryd.prog 14 #[.string (str (fmtK k))] u fun e w' => ∃ b f, e = .returned (.tuple #[.agg #[.string (str k.main), .string (str k.sub), .slice b k.params.length f], .bool true]) ∧ RdK w' k b f ∧ Below u.heap.size u w') := fun hv u h => by
    have := parseKind_k (str (fmtK k)) u (tab1.below h) (by omega)
    rw [str_list, parse_fmtK hv] at this; exact this
  have HB3 : Hid (∀ u b f, Below w1.heap.size w1 u → RdK u k b f → Calls Tryd.prog 19 #[.agg #[.string (str k.main), .string (str k.sub), .slice b k.params.length f]] u fun e w' => e = .returned (.tuple #[.string (str ((bndOf k).getD [])), .bool (bndOf k).isSome]) ∧ Below u.heap.size u w') := fun u b f h hr => boundaryOf_k u (tab1.below h) hr
  clear tab tab1 hok
  cases hbk : bndOf k with
  | none =>
    rw [hbk] at HB1 HB2
    clear HY HF HPP HB3 hbk hsk hkz
    generalize k.params.length = nk at *
    generalize str k.main = M1 at *
    generalize str k.sub = S1 at *
    have HB1 : Hid (∀ u, Below w1.heap.size w1 u → Calls Tryd.prog 19 #[.agg #[.string M1, .string S1, .slice ak nk dk]] u fun e w' => e = .returned (.tuple #[.string ⟨#[]⟩, .bool false]) ∧ Below u.heap.size u w') := HB1.out
    have HB2 : Hid (∀ u, Below w1.heap.size w1 u → Calls Tryd.prog 20 #[.agg #[.string M1, .string S1, .slice ak nk dk]] u fun e w' => e = .returned (.tuple #[.string ⟨#[]⟩, .bool false]) ∧ Below u.heap.size u w') := HB2.out
    go_wp2_with fail
    generalize hW1 : w1.alloc (.cells #[.string M1, .string S1, .slice ak nk dk] 25) = W1 at *
    clear hW1
    refine (HB1.out _ hA1).mono ?_
    rintro e w2 ⟨rfl, hb2⟩
    obtain ⟨y0, y1, y2⟩ := HC1.out.below hb2
    go_wp2_with fail
    refine (HB2.out _ (nx hA1 hb2)).mono ?_
    rintro e w3 ⟨rfl, hb3⟩
    clear y0 y1 y2
    go_wp2
    go_ret
    exact ⟨rfl, nx HBB.out (nx (nx hA1 hb2) hb3)⟩
  | some b =>
    obtain ⟨hv, _, _, _, _⟩ := bndOf_partsK hbk
    rw [hbk] at HB1 HB2 HB3
    have HP := Lib.hid (HPP.out hv)
    have HB1 : Hid (∀ u, Below w1.heap.size w1 u → Calls Tryd.prog 19 #[.agg #[.string (str k.main), .string (str k.sub), .slice ak k.params.length dk]] u fun e w' => e = .returned (.tuple #[.string (str b), .bool true]) ∧ Below u.heap.size u w') := HB1.out
    have HB2 : Hid (∀ u, Below w1.heap.size w1 u → Calls Tryd.prog 20 #[.agg #[.string (str k.main), .string (str k.sub), .slice ak k.params.length dk]] u fun e w' => e = .returned (.tuple #[.string (str b), .bool true]) ∧ Below u.heap.size u w') := HB2.out
    have HB3 : Hid (∀ u c f, Below w1.heap.size w1 u → RdK u k c f → Calls Tryd.prog 19 #[.agg #[.string (str k.main), .string (str k.sub), .slice c k.params.length f]] u fun e w' => e = .returned (.tuple #[.string (str b), .bool true]) ∧ Below u.heap.size u w') := HB3.out
    clear hbk hv hsk HPP
    generalize str (fmtK k) = FK at *
    generalize k.params.length = nk at *
    generalize str k.main = M1 at *
    generalize str k.sub = S1 at *
    generalize str b = X at *
    have e0 : (X.toList != X.toList) = false := by simp
    have e1 : (X.toList == X.toList) = true := by simp
    have hz1 : w1.heap.size < (w1.alloc (.cells #[.string M1, .string S1, .slice ak nk dk] 25)).heap.size := by simp
    go_wp2_with fail
    generalize hW1 : w1.alloc (.cells #[.string M1, .string S1, .slice ak nk dk] 25) = W1 at *
    clear hW1
    refine (HB1.out _ hA1).mono ?_
    rintro e w2 ⟨rfl, hb2⟩
    obtain ⟨y0, y1, y2⟩ := HC1.out.below hb2
    go_wp2_with fail
    refine (HB2.out _ (nx hA1 hb2)).mono ?_
    rintro e w3 ⟨rfl, hb3⟩
    have hb13 := nx (nx hA1 hb2) hb3
    have HC3 := Lib.hid (HC1.out.below (nx hb2 hb3))
    clear y0 y1 y2 hb2 hb3
    obtain ⟨y0, y1, y2⟩ := HC3.out
    go_wp2_with fail
    refine (HF.out _ hb13).mono ?_
    rintro e w4 ⟨rfl, hb4⟩
    have hb14 := nx hb13 hb4
    have HC4 := Lib.hid (HC3.out.below hb4)
    clear y0 y1 y2 hb4 hb13 HC3
    go_wp2_with fail
    refine (HP.out _ hb14).mono ?_
    rintro e w5 ⟨b5, f5, rfl, hr5, hb5⟩
    have hA5 : Below w5.heap.size w5 (w5.alloc (.cells #[.string M1, .string S1, .slice b5 nk f5] 25)) := (Below.refl _ _).alloc (Nat.le_refl _) _
    have hb15 := nx hb14 (nx hb5 hA5)
    have HC5 := Lib.hid (HC4.out.below (nx hb5 hA5))
    have HR5 := Lib.hid (hr5.below hA5)
    clear hA5 hr5 hb5 hb14
    go_wp2_with fail
    generalize hW5 : w5.alloc (.cells #[.string M1, .string S1, .slice b5 nk f5] 25) = W5 at *
    clear hW5
    refine (HB3.out _ _ _ hb15 HR5.out).mono ?_
    rintro e w6 ⟨rfl, hb6⟩
    have hb16 := nx hb15 hb6
    have HC6 := Lib.hid (HC5.out.below hb6)
    obtain ⟨y0, y1, y2⟩ := HC6.out
    clear hb6
    go_wp2_with fail
    refine (HY.out _ ?_).mono ?_
    · first
        | exact nx hb16 ((Below.refl _ _).alloc (Nat.le_refl _) _)
        | exact nx hb16 (((Below.refl _ _).alloc (Nat.le_refl _) _).setCell (by simp) _)
    rintro e w7 ⟨rfl, hb7⟩
    go_wp2
    go_ret
    first
      | exact ⟨rfl, nx HBB.out (nx (nx hb16 ((Below.refl _ _).alloc (Nat.le_refl _) _)) hb7)⟩
      | exact ⟨rfl, nx HBB.out (nx (nx hb16 (((Below.refl _ _).alloc (Nat.le_refl _) _).setCell (by simp) _)) hb7)⟩
end Go.Proofs.YtfheajfcepcepaaDoor
