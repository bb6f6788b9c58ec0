/-
  The exact laws of chapter 1 on lists: how a list of strings that came in reads; each law's walk. For every input of the law: it returns true, and the input reads as it did. Conditions: none but the statement's own.
-/
import Derived.Test.YtjnpkmenlecdmabDoorLaw0
import Derived.Test.YtjnpkmenlecdmabDoorLists
import Derived.SliceStrings
import Derived.Test.YtjnpkmenlecdmabDoorSplit2
namespace Go.Proofs.YtjnpkmenlecdmabDoor
open Go.ChangeShapes Go.WideShapes Go.ChangeAt Go.RowKit
open Go.ChangeMaps (open_string shut_string)

theorem strs_of_trod {H : Type} {enc : TypeId × Value → H} {W : World} {T E : TypeId} {a : Option Addr} {n c : Nat} {d : DataW H} {p : List MemPlace} (hT : Tryd.prog.underlying T = some (.slice E)) (hE : Tryd.prog.underlying E = some .string) (hcE : Tryd.prog.cellsOf E = 1)
    (h : DataW.Trod enc Tryd.prog W 0 (fun _ => true) true T (Value.slice a n c) d p) : ∃ xs, RdL W a n xs ∧ n ≤ maxLen ∧ ∀ j, (hj : j < xs.length) → xs[j].length ≤ maxLen := by
  obtain ⟨fuel, hf⟩ := h
  rcases open_strings hT hE hcE hf with ⟨hcs, _⟩ | ⟨x, l, k, ss, hcs, _, hl, hm, hz, _, hcell, hws⟩
  · simp [Value.cells] at hcs
    obtain ⟨rfl, rfl, rfl⟩ := hcs
    exact ⟨[], ⟨rfl, .inl rfl⟩, Nat.zero_le _, fun j hj => by simp at hj⟩
  · simp [Value.cells] at hcs
    obtain ⟨rfl, rfl, rfl⟩ := hcs
    have hz' : ss.length = c := by simpa using hz
    have hxs : ((ss.take n).map fun s => s.data.toList).length = n := by simp; omega
    refine ⟨(ss.take n).map fun s => s.data.toList, ⟨hxs, ?_⟩, by omega, fun j hj => ?_⟩
    · by_cases h0 : n = 0
      · exact .inl h0
      · obtain ⟨b, off, spot⟩ := x
        have hc0 := hcell 0 (by omega)
        have hspot : spot = none := by simpa [Addr.add] using World.cell?_spot hc0
        subst hspot
        have hsh : ∀ i, i < c → W.cell? ⟨b, off + i, none⟩ = some (.string (ss.getD i ByteArray.empty)) := fun i hi => by
          have := hcell i (by omega)
          rw [show (⟨b, off, none⟩ : Addr).add i = ⟨b, off + i, none⟩ by unfold Addr.add; split <;> simp_all] at this
          exact this
        refine .inr ⟨b, off, rfl, lt_of_cell (hsh 0 (by omega)), fun i hi => ?_⟩
        have hi' : i < n := by omega
        rw [hsh i (by omega)]
        have : ss.getD i ByteArray.empty = ss[i]'(by omega) := by rw [List.getD_eq_getElem?_getD, List.getElem?_eq_getElem (by omega)]; rfl
        rw [this, List.getElem_map, List.getElem_take, str_of]
    · have hj' : j < n := by omega
      rw [List.getElem_map, List.getElem_take, size_list]
      exact hws _ (List.getElem_mem _)
set_option maxRecDepth 100000 in
set_option maxHeartbeats 2000000 in
theorem fnExactJoinWords_walk (a : Option Addr) (n c : Nat) (xs : List (List UInt8)) (w : World) (tab : Tab w) (hr : RdL w a n xs) (hn : n ≤ maxLen) (hx : ∀ j, (hj : j < xs.length) → xs[j].length ≤ maxLen) :
    Calls Tryd.prog 4 #[.slice a n c] w fun e w' => e = .returned (.bool true) ∧ Below w.heap.size w w' := by
  go_enter Tryd.func4, Tryd.ntmps4
  go_wp2_with fail
  refine (szStringS_any a n c xs 1048576 _ hr hn (by omega) (by omega) hx).mono ?_
  rintro e w1 ⟨r, rfl, hr1, hr2, hsz, rfl⟩
  by_cases hneg : r < 0
  · go_wp2
    go_ret
    exact ⟨rfl, Below.refl _ _⟩
  · obtain ⟨hnl, hxl⟩ := hsz (by omega)
    have hlen := hr.1
    have HN : Hid (n ≤ 1073741824) := by show n ≤ _; omega
    have HX : Hid (∀ j, (h : j < xs.length) → xs[j].length ≤ 1073741824) := fun j hj => by have := hxl _ (List.getElem_mem hj); omega
    have HL := Lib.hid hlen
    have HL2 : Hid (xs.length ≤ 1073741824) := by show _ ≤ _; omega
    clear hsz hnl hxl hlen hx
    go_wp2_with fail
    refine (toStringS_any a n c xs _ hr HN.out).mono ?_
    rintro e w1 ⟨a1, c1, rfl, ho1, hd1, hb1⟩
    go_wp2_with fail
    refine (joinWordsS_any a1 xs.length c1 xs _ hd1 HL2.out HX.out).mono ?_
    rintro e w2 ⟨rfl, hb2⟩
    have hb12 := nx hb1 hb2
    go_wp2_with fail
    refine (toStringS_any a n c xs _ (hr.below hb12) HN.out).mono ?_
    rintro e w3 ⟨a3, c3, rfl, ho3, hd3, hb3⟩
    have hb13 := nx hb12 hb3
    go_wp2_with fail
    refine (joinWords_any a3 xs.length c3 xs _ (tab.below hb13) hd3 HL2.out HX.out).mono ?_
    rintro e w4 ⟨rfl, hb4⟩
    have hb14 := nx hb13 hb4
    go_wp2_with fail
    refine (toStringS_any a n c xs _ (hr.below hb14) HN.out).mono ?_
    rintro e w5 ⟨a5, c5, rfl, ho5, hd5, hb5⟩
    have hb15 := nx hb14 hb5
    have hd35 := (hd3.below hb4).below hb5
    go_wp2_with fail
    refine (eqStringS_any _ _ _ _ _ _ xs xs _ hd35 hd5 (by have := HL2.out; unfold maxLen; omega) (by have := HL2.out; unfold maxLen; omega)).mono ?_
    rintro e w6 ⟨rfl, hb6⟩
    rw [decide_eq_true (rfl : xs = xs)]
    go_wp2
    go_ret
    exact ⟨rfl, nx hb15 hb6⟩
theorem spL_bound (s : ByteArray) : (spL s.data.toList).length ≤ s.size := by
  unfold spL fullW
  split
  · cases h : splitW s.data.toList
    · simp
    · have := (splitW_bound _ _ _ (Nat.le_refl _) h).1
      rw [size_list] at this; simpa using this
  · simp
theorem OwnL.lowB {B C : Nat} {v : Value} {xs : List (List UInt8)} {w w' : World} (h : OwnL B v xs w) (k : Below C w w') (hC : w.heap.size ≤ C) : OwnL B v xs w' := h.keep (k.mono hC)
theorem RdL.lowB {a : Option Addr} {n : Nat} {xs : List (List UInt8)} {w0 w w' : World} (h : RdL w0 a n xs) (k0 : Below w0.heap.size w0 w) (k : Below w0.heap.size w w') : RdL w' a n xs := h.below (k0.trans k)
set_option maxRecDepth 100000 in
set_option maxHeartbeats 4000000 in
theorem fnExactSplitWords_walk (s : ByteArray) (w : World) (tab : Tab w) (hs : s.size ≤ maxLen) :
    Calls Tryd.prog 3 #[.string s] w fun e w' => e = .returned (.bool true) ∧ Below w.heap.size w w' := by
  have hm' := hs
  unfold maxLen at hm'
  by_cases hn : 1048576 < s.size
  · have hd : decide ((1048576 : Int) < s.size) = true := by simp; omega
    go_enter Tryd.func3, Tryd.ntmps3
    go_wp2
    go_ret
    exact ⟨rfl, Below.refl _ _⟩
  · have hd : decide ((1048576 : Int) < s.size) = false := by simp; omega
    have hlen := spL_bound s
    go_enter Tryd.func3, Tryd.ntmps3
    go_wp2_with fail
    refine (splitWordsS_any s _ (by omega)).mono ?_
    rintro e w1 ⟨v1, rfl, ho1, hb1⟩
    obtain ⟨a1, c1, rfl, hr1, hm1⟩ := ho1.read
    go_wp2_with fail
    refine (splitWords_any s _ (tab.below hb1) (by omega)).mono ?_
    rintro e w2 ⟨v2, rfl, ho2, hb2⟩
    obtain ⟨a2, c2, rfl, hr2, hm2⟩ := ho2.read
    generalize hX : spL s.data.toList = xs at *
    generalize hO : spO s.data.toList = ok at *
    have HX := Lib.hid hX
    have HO := Lib.hid hO
    clear hX hO
    have hb12 := nx hb1 hb2
    go_wp2_with fail
    refine (eqStringS_any _ _ _ _ _ _ xs xs _ hr2 (hr1.below hb2) hm2 hm1).mono ?_
    rintro e w3 ⟨rfl, hb3⟩
    rw [decide_eq_true (rfl : xs = xs)]
    have hb13 := nx hb12 hb3
    have hz1 := hb1.size
    have hz2 := hb2.size
    have hz3 := hb3.size
    go_wp2_with fail
    refine (markStringS_any w1.heap.size a2 xs.length c2 xs 1 _ (ho2.keep hb3) rfl (by omega) (by omega) (by omega)).mono ?_
    rintro e w4 ⟨rfl, ho4, hb4⟩
    have hr1' : RdL w4 a1 xs.length xs := hr1.below ((hb2.trans (hb3.mono hz2)).trans hb4)
    have hb14 : Below w.heap.size w w4 := hb13.trans (hb4.mono hz1)
    have hz4 := hb4.size
    have hm4 : RdL w4 a2 xs.length (marksFrom 1 xs.length) := by
      obtain ⟨a', c', hv, hr, _⟩ := ho4.read
      rw [marksFrom_len] at hv hr
      injection hv with e1 _ _
      rw [e1]; exact hr
    go_wp2_with fail
    refine (heldStringS_any a2 xs.length c2 1 _ hm4 (by omega) (by omega)).mono ?_
    rintro e w5 ⟨rfl, hb5⟩
    have hb15 := nx hb14 hb5
    go_wp2_with fail
    refine (splitWords_any s _ (tab.below hb15) (by omega)).mono ?_
    rintro e w6 ⟨v6, rfl, ho6, hb6⟩
    rw [HX.out] at ho6
    rw [HO.out]
    obtain ⟨a6, c6, rfl, hr6, hm6⟩ := ho6.read
    have hb16 := nx hb15 hb6
    go_wp2_with fail
    refine (eqStringS_any _ _ _ _ _ _ xs xs _ hr6 ((hr1'.below hb5).below hb6) hm6 hm1).mono ?_
    rintro e w7 ⟨rfl, hb7⟩
    rw [decide_eq_true (rfl : xs = xs)]
    have hb17 := nx hb16 hb7
    go_wp2_with fail
    refine (heldStringS_any a2 xs.length c2 1 _ (((hm4.below hb5).below hb6).below hb7) (by omega) (by omega)).mono ?_
    rintro e w8 ⟨rfl, hb8⟩
    go_wp2
    go_ret
    exact ⟨rfl, nx hb17 hb8⟩
end Go.Proofs.YtjnpkmenlecdmabDoor
