/-
  The exact laws of chapter 1 on lists: how a list of strings that came in reads; each law's walk. For every input of the law: it returns true, and the input reads as it did. Conditions: none but the statement's own.
-/
import Derived.Test.YtmkcjaceglkloabDoorLaw0
import Derived.Test.YtmkcjaceglkloabDoorLists
import Derived.SliceStrings
namespace Go.Proofs.YtmkcjaceglkloabDoor
open Go.ChangeShapes Go.WideShapes Go.ChangeAt Go.RowKit
open Go.ChangeMaps (open_string shut_string)

theorem strs_of_trod {H : Type} {enc : TypeId × Value → H} {W : World} {T E : TypeId} {a : Option Addr} {n c : Nat} {d : DataW H} {p : List MemPlace} (hT : Tryd.prog.underlying T = some (.slice E)) (hE : Tryd.prog.underlying E = some .string) (hcE : Tryd.prog.cellsOf E = 1)
    (h : DataW.Trod enc Tryd.prog W 0 (fun _ => true) true T (Value.slice a n c) d p) : ∃ xs, RdL W a n xs ∧ n ≤ maxLen ∧ ∀ j, (hj : j < xs.length) → xs[j].length ≤ maxLen := by
  obtain ⟨fuel, hf⟩ := h
  rcases open_strings hT hE hcE hf with ⟨hcs, _⟩ | ⟨x, l, k, ss, hcs, _, hl, hm, hz, _, hcell, hws⟩
  · simp [Value.cells] at hcs
    obtain ⟨rfl, rfl, rfl⟩ := hcs
    exact ⟨[], ⟨rfl, .inl rfl⟩, Nat.zero_le _, fun j hj => by simp at hj⟩
  · simp [Value.cells] at hcs
    obtain ⟨rfl, rfl, rfl⟩ := hcs
    have hz' : ss.length = c := by simpa using hz
    have hxs : ((ss.take n).map fun s => s.data.toList).length = n := by simp; omega
    refine ⟨(ss.take n).map fun s => s.data.toList, ⟨hxs, ?_⟩, by omega, fun j hj => ?_⟩
    · by_cases h0 : n = 0
      · exact .inl h0
      · obtain ⟨b, off, spot⟩ := x
        have hc0 := hcell 0 (by omega)
        have hspot : spot = none := by simpa [Addr.add] using World.cell?_spot hc0
        subst hspot
        have hsh : ∀ i, i < c → W.cell? ⟨b, off + i, none⟩ = some (.string (ss.getD i ByteArray.empty)) := fun i hi => by
          have := hcell i (by omega)
          rw [show (⟨b, off, none⟩ : Addr).add i = ⟨b, off + i, none⟩ by unfold Addr.add; split <;> simp_all] at this
          exact this
        refine .inr ⟨b, off, rfl, lt_of_cell (hsh 0 (by omega)), fun i hi => ?_⟩
        have hi' : i < n := by omega
        rw [hsh i (by omega)]
        have : ss.getD i ByteArray.empty = ss[i]'(by omega) := by rw [List.getD_eq_getElem?_getD, List.getElem?_eq_getElem (by omega)]; rfl
        rw [this, List.getElem_map, List.getElem_take, str_of]
    · have hj' : j < n := by omega
      rw [List.getElem_map, List.getElem_take, size_list]
      exact hws _ (List.getElem_mem _)
set_option maxHeartbeats 2000000 in
theorem fnExactJoinWords_walk (a : Option Addr) (n c : Nat) (xs : List (List UInt8)) (w : World) (tab : Tab w) (hr : RdL w a n xs) (hn : n ≤ maxLen) (hx : ∀ j, (hj : j < xs.length) → xs[j].length ≤ maxLen) :
    Calls Tryd.prog 8 #[.slice a n c] w fun e w' => e = .returned (.bool true) ∧ Below w.heap.size w w' := by
  go_enter Tryd.func8, Tryd.ntmps8
  go_wp2_with fail
  refine (szStringS_any a n c xs 1048576 _ hr hn (by omega) (by omega) hx).mono ?_
  rintro e w1 ⟨r, rfl, hr1, hr2, hsz, rfl⟩
  by_cases hneg : r < 0
  · go_wp2
    go_ret
    exact ⟨rfl, Below.refl _ _⟩
  · obtain ⟨hnl, hxl⟩ := hsz (by omega)
    have hlen := hr.1
    have HN : Hid (n ≤ 1073741824) := by show n ≤ _; omega
    have HX : Hid (∀ j, (h : j < xs.length) → xs[j].length ≤ 1073741824) := fun j hj => by have := hxl _ (List.getElem_mem hj); omega
    have HL := Lib.hid hlen
    have HL2 : Hid (xs.length ≤ 1073741824) := by show _ ≤ _; omega
    clear hsz hnl hxl hlen hx
    go_wp2_with fail
    refine (toStringS_any a n c xs _ hr HN.out).mono ?_
    rintro e w1 ⟨a1, c1, rfl, ho1, hd1, hb1⟩
    go_wp2_with fail
    refine (joinWordsS_any a1 xs.length c1 xs _ hd1 HL2.out HX.out).mono ?_
    rintro e w2 ⟨rfl, hb2⟩
    have hb12 := nx hb1 hb2
    go_wp2_with fail
    refine (toStringS_any a n c xs _ (hr.below hb12) HN.out).mono ?_
    rintro e w3 ⟨a3, c3, rfl, ho3, hd3, hb3⟩
    have hb13 := nx hb12 hb3
    go_wp2_with fail
    refine (joinWords_any a3 xs.length c3 xs _ (tab.below hb13) hd3 HL2.out HX.out).mono ?_
    rintro e w4 ⟨rfl, hb4⟩
    have hb14 := nx hb13 hb4
    go_wp2_with fail
    refine (toStringS_any a n c xs _ (hr.below hb14) HN.out).mono ?_
    rintro e w5 ⟨a5, c5, rfl, ho5, hd5, hb5⟩
    have hb15 := nx hb14 hb5
    have hd35 := (hd3.below hb4).below hb5
    go_wp2_with fail
    refine (eqStringS_any _ _ _ _ _ _ xs xs _ hd35 hd5 (by have := HL2.out; unfold maxLen; omega) (by have := HL2.out; unfold maxLen; omega)).mono ?_
    rintro e w6 ⟨rfl, hb6⟩
    rw [decide_eq_true (rfl : xs = xs)]
    go_wp2
    go_ret
    exact ⟨rfl, nx hb15 hb6⟩
end Go.Proofs.YtmkcjaceglkloabDoor
