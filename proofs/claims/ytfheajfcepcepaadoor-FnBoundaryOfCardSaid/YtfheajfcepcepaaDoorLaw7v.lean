/-
  The laws of chapter 7 on boundaries of kinds: each law's walk. For every input of the law: it returns true, and the input reads as it did. Conditions: none but the statement's own.
-/
import Derived.Test.YtfheajfcepcepaaDoorLaw0
import Derived.Test.YtfheajfcepcepaaDoorZip
namespace Go.Proofs.YtfheajfcepcepaaDoor
open Go.ChangeShapes Go.WideShapes Go.ChangeAt Go.RowKit
open Go.ChangeMaps (open_string shut_string)

theorem bndOf_parts {k : Knd} {b : List UInt8} (h : bndOf k = some b) : isKnd k = true ∧ k.main = multiL ∧ isBnd b = true ∧ getR k.params bndL = b ∧ (getF k.params bndL).isSome = true := by
  unfold bndOf at h
  split at h
  · rename_i hc
    injection h with h
    subst h
    refine ⟨hc.1, hc.2.1, hc.2.2, rfl, ?_⟩
    cases hg : getF k.params bndL with
    | some x => rfl
    | none =>
      have := hc.2.2
      unfold getR at this
      rw [hg] at this
      exact absurd this (by decide)
  · cases h
theorem join_one {b : List UInt8} (h : isBnd b = true) : ∃ ls, joinP [[]] b = some ls := ⟨_, joinP_yes h (by simp) (by simp [okParts])⟩
set_option maxRecDepth 100000 in
set_option maxHeartbeats 2000000 in
theorem fnBoundaryOf_walk (a : Option Addr) (n c : Nat) (w : World) (tab : Tab w) (hc : Code w a n) (hnc : n ≤ c) (hm : c ≤ maxLen) :
    Calls Tryd.prog 4 #[.slice a n c] w fun e w' => e = .returned (.bool true) ∧ Below w.heap.size w w' := by
  have hm' := hm
  unfold maxLen at hm'
  by_cases hn : 1048576 < n
  · have hd : decide ((1048576 : Int) < n) = true := by simp; omega
    go_enter Tryd.func4, Tryd.ntmps4
    go_wp2
    go_ret
    exact ⟨rfl, Below.refl _ _⟩
  have hd : decide ((1048576 : Int) < n) = false := by simp; omega
  go_enter Tryd.func4, Tryd.ntmps4
  go_wp2_with fail
  refine (drawBoundaryOf_any a n c w hc hnc hm).mono ?_
  rintro e w1 ⟨k, ak, dk, rfl, hok, hnk, hsk, hb1⟩
  rw [kndV_agg]
  have HK := Lib.hid (RdK.own hok (smallK2_of hsk (by omega) (by omega)))
  have tab1 := tab.below hb1
  have HB1 : Hid (∀ u, Below w1.heap.size w1 u → Calls Tryd.prog 19 #[.agg #[.string (str k.main), .string (str k.sub), .slice ak k.params.length dk]] u fun e w' => e = .returned (.tuple #[.string (str ((bndOf k).getD [])), .bool (bndOf k).isSome]) ∧ Below u.heap.size u w') := fun u h => boundaryOf_k u (tab1.below h) (HK.out.below h)
  have HB2 : Hid (∀ u, Below w1.heap.size w1 u → Calls Tryd.prog 20 #[.agg #[.string (str k.main), .string (str k.sub), .slice ak k.params.length dk]] u fun e w' => e = .returned (.tuple #[.string (str ((bndOf k).getD [])), .bool (bndOf k).isSome]) ∧ Below u.heap.size u w') := fun u h => boundaryOfS_k u (HK.out.below h)
  have HV : Hid (∀ u, Below w1.heap.size w1 u → Calls Tryd.prog 12 #[.agg #[.string (str k.main), .string (str k.sub), .slice ak k.params.length dk]] u fun e w' => e = .returned (.bool (isKnd k)) ∧ Below u.heap.size u w') := fun u h => kindValid_k u (tab1.below h) (HK.out.below h)
  have HG : Hid (∀ u, Below w1.heap.size w1 u → Calls Tryd.prog 21 #[.slice ak k.params.length dk, .string ⟨#[98, 111, 117, 110, 100, 97, 114, 121]⟩] u fun e w' => e = .returned (.tuple #[.string (str (getR k.params bndL)), .bool (getF k.params bndL).isSome]) ∧ Below u.heap.size u w') := fun u h => getField_any ak _ dk k.params ⟨#[98, 111, 117, 110, 100, 97, 114, 121]⟩ u (HK.out.below h).1 (by omega) (fun x hx' => (hsk.2.2 x hx').up (by omega)) (by decide)
  have hA1 : Below w1.heap.size w1 (w1.alloc (.cells #[.string (str k.main), .string (str k.sub), .slice ak k.params.length dk] 25)) := (Below.refl _ _).alloc (Nat.le_refl _) _
  have HC1 := Lib.hid (KK3.new w1 (.string (str k.main)) (.string (str k.sub)) (.slice ak k.params.length dk) 25)
  have HBB := Lib.hid hb1
  clear tab tab1 hok
  cases hbk : bndOf k with
  | none =>
    rw [hbk] at HB1 HB2
    clear HG HV hbk hsk
    generalize k.params.length = nk at *
    generalize str k.main = M1 at *
    generalize str k.sub = S1 at *
    have HB1 : Hid (∀ u, Below w1.heap.size w1 u → Calls Tryd.prog 19 #[.agg #[.string M1, .string S1, .slice ak nk dk]] u fun e w' => e = .returned (.tuple #[.string ⟨#[]⟩, .bool false]) ∧ Below u.heap.size u w') := HB1.out
    have HB2 : Hid (∀ u, Below w1.heap.size w1 u → Calls Tryd.prog 20 #[.agg #[.string M1, .string S1, .slice ak nk dk]] u fun e w' => e = .returned (.tuple #[.string ⟨#[]⟩, .bool false]) ∧ Below u.heap.size u w') := HB2.out
    go_wp2_with fail
    generalize hW1 : w1.alloc (.cells #[.string M1, .string S1, .slice ak nk dk] 25) = W1 at *
    clear hW1
    refine (HB1.out _ hA1).mono ?_
    rintro e w2 ⟨rfl, hb2⟩
    obtain ⟨y0, y1, y2⟩ := HC1.out.below hb2
    go_wp2_with fail
    refine (HB2.out _ (nx hA1 hb2)).mono ?_
    rintro e w3 ⟨rfl, hb3⟩
    clear y0 y1 y2
    go_wp2
    go_ret
    exact ⟨rfl, nx HBB.out (nx (nx hA1 hb2) hb3)⟩
  | some b =>
    obtain ⟨hv, hmn, hbd, hgr, hgs⟩ := bndOf_parts hbk
    rw [hbk] at HB1 HB2
    rw [hv] at HV
    rw [hgr, hgs] at HG
    obtain ⟨ls, hls⟩ := join_one hbd
    have hb20 : (str b).size ≤ 20 := by rw [str_size]; unfold isBnd at hbd; simp at hbd; omega
    have HJ : Hid (∀ u b0, RdSS u (some ⟨b0, 0, none⟩) 1 [[]] → Calls Tryd.prog 22 #[.slice (some ⟨b0, 0, none⟩) 1 1, .string (str b)] u fun e w' => ∃ a2 c2, e = .returned (.tuple #[.slice a2 ls.length c2, .bool true]) ∧ Below u.heap.size u w') := fun u b0 h => by
      have := joinParts_any (some ⟨b0, 0, none⟩) 1 1 [[]] (str b) u h (by omega) (by simp [sumP]) (by omega)
      rw [str_list, hls] at this
      exact this.mono fun e w' hh => by
        obtain ⟨a2, c2, h1, _, _, h4⟩ := hh.some'
        exact ⟨a2, c2, h1, h4⟩
    have hM : str k.main = ⟨#[109, 117, 108, 116, 105, 112, 97, 114, 116]⟩ := by rw [hmn]; rfl
    have HB1 : Hid (∀ u, Below w1.heap.size w1 u → Calls Tryd.prog 19 #[.agg #[.string (str k.main), .string (str k.sub), .slice ak k.params.length dk]] u fun e w' => e = .returned (.tuple #[.string (str b), .bool true]) ∧ Below u.heap.size u w') := HB1.out
    have HB2 : Hid (∀ u, Below w1.heap.size w1 u → Calls Tryd.prog 20 #[.agg #[.string (str k.main), .string (str k.sub), .slice ak k.params.length dk]] u fun e w' => e = .returned (.tuple #[.string (str b), .bool true]) ∧ Below u.heap.size u w') := HB2.out
    clear hbk hv hmn hbd hgr hgs hls hsk
    generalize k.params.length = nk at *
    generalize hM1 : str k.main = M1 at *
    have HMM := Lib.hid hM
    clear hM1 hM
    generalize str k.sub = S1 at *
    generalize str b = X at *
    have e0 : (X.toList != X.toList) = false := by simp
    have e1 : (X.toList == X.toList) = true := by simp
    go_wp2_with fail
    generalize hW1 : w1.alloc (.cells #[.string M1, .string S1, .slice ak nk dk] 25) = W1 at *
    clear hW1
    refine (HB1.out _ hA1).mono ?_
    rintro e w2 ⟨rfl, hb2⟩
    obtain ⟨y0, y1, y2⟩ := HC1.out.below hb2
    go_wp2_with fail
    refine (HB2.out _ (nx hA1 hb2)).mono ?_
    rintro e w3 ⟨rfl, hb3⟩
    have hb13 := nx (nx hA1 hb2) hb3
    have HC3 := Lib.hid (HC1.out.below (nx hb2 hb3))
    clear y0 y1 y2 hb2 hb3
    obtain ⟨y0, y1, y2⟩ := HC3.out
    go_wp2_with fail
    refine (HG.out _ hb13).mono ?_
    rintro e w4 ⟨rfl, hb4⟩
    have hb14 := nx hb13 hb4
    have HC4 := Lib.hid (HC3.out.below hb4)
    have HL4 : Hid (RdSS ((w4.alloc (.cells #[] 9)).alloc (.cells #[.slice (some ⟨w4.heap.size, 0, none⟩) 0 0] 37)) (some ⟨w4.heap.size + 1, 0, none⟩) 1 [[]]) := by
      refine ⟨rfl, .inr ⟨w4.heap.size + 1, 0, rfl, by simp, fun i hi => ?_⟩⟩
      obtain rfl : i = 0 := by simpa using hi
      refine ⟨some ⟨w4.heap.size, 0, none⟩, 0, ?_, ⟨rfl, .inl rfl⟩, (fun h => by cases h), Nat.le_refl _⟩
      rw [World.cell?_alloc_at _ _ _ _ (by simp)]; rfl
    have hA4 : Below w4.heap.size w4 ((w4.alloc (.cells #[] 9)).alloc (.cells #[.slice (some ⟨w4.heap.size, 0, none⟩) 0 0] 37)) := ((Below.refl _ _).alloc (Nat.le_refl _) _).alloc (by simp) _
    clear y0 y1 y2 hb4
    go_wp2_with fail
    refine (HJ.out _ _ HL4.out).mono ?_
    rintro e w5 ⟨a5, c5, rfl, hb5⟩
    have hb15 := nx hb14 (nx hA4 hb5)
    have HC5 := Lib.hid (HC4.out.below (nx hA4 hb5))
    obtain ⟨y0, y1, y2⟩ := HC5.out
    clear hA4 hb5
    go_wp2_with fail
    refine (HV.out _ hb15).mono ?_
    rintro e w6 ⟨rfl, hb6⟩
    clear y0 y1 y2
    obtain ⟨y0, y1, y2⟩ := HC5.out.below hb6
    have hMM := HMM.out
    subst hMM
    go_wp2
    go_ret
    exact ⟨rfl, nx HBB.out (nx hb15 hb6)⟩
end Go.Proofs.YtfheajfcepcepaaDoor
