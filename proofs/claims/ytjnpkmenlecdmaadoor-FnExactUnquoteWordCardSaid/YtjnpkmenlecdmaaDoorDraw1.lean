/-
  Draws of chapter 1: the texts and lists of texts that the laws of chapter 1 are tried at. No statement is proved here.
-/
import Derived.Test.YtjnpkmenlecdmaaDoorBend
import Derived.Test.YtjnpkmenlecdmaaDoorRead
namespace Go.Proofs.YtjnpkmenlecdmaaDoor
open Go.RowKit

/-- A string of at most M bytes is drawn; nothing that was there turns. -/
def DrawnStr (M : Nat) (w : World) (e : Ending) (w' : World) : Prop := ∃ s : ByteArray, e = .returned (.string s) ∧ s.size ≤ M ∧ Below w.heap.size w w'
def DrawnTwo (M : Nat) (w : World) (e : Ending) (w' : World) : Prop := ∃ s t : ByteArray, e = .returned (.tuple #[.string s, .string t]) ∧ s.size ≤ M ∧ t.size ≤ M ∧ Below w.heap.size w w'
theorem after_open {w w1 w2 : World} {R : Nat} (hb : Below w.heap.size w w1) (hR : w.heap.size ≤ R) (ht : Touch R w1 w2) : Below w.heap.size w w2 := hb.trans (ht.below hR hb.size)
set_option maxRecDepth 100000 in
set_option maxHeartbeats 400000 in
theorem drawTextValid_any (a : Option Addr) (n c : Nat) (w : World) (hc : Code w a n) (hnc : n ≤ c) (hm : c ≤ maxLen) :
    Calls Tryd.prog 33 #[.slice a n c] w (DrawnStr 40 w) := by
  go_enter Tryd.func33, Tryd.ntmps33
  go_wp2_with fail
  refine (open_any a n c w hc hnc hm).mono ?_
  rintro e w1 ⟨R, rfl, hR, hr1, hb1⟩
  go_wp2_with fail
  refine (l1Draw_any R 0 w1 hr1 (by omega)).mono ?_
  rintro e w2 ⟨s2, p2, rfl, g2, f2, k2, hr2, ht2⟩
  go_wp2_with fail
  refine (l1Draw_any R p2 w2 hr2 (by omega)).mono ?_
  rintro e w3 ⟨s3, p3, rfl, g3, f3, k3, hr3, ht3⟩
  go_wp2_with fail
  refine (bend_lit R p3 4 1 _ _ _ w3 hr3 (by omega) (by omega) (by omega) (by simp [ByteArray.size_append]; omega) (by omega) (by decide)).mono ?_
  rintro e w4 ⟨s4, p4, rfl, g4, f4, k4, hr4, ht4⟩
  go_wp2
  go_ret
  exact ⟨s4, rfl, by simp [ByteArray.size_append] at g4; omega, after_open hb1 hR (ht2.trans (ht3.trans ht4))⟩
theorem drawQuoteWord_any (a : Option Addr) (n c : Nat) (w : World) (hc : Code w a n) (hnc : n ≤ c) (hm : c ≤ maxLen) :
    Calls Tryd.prog 15 #[.slice a n c] w (DrawnStr 40 w) := by
  go_enter Tryd.func15, Tryd.ntmps15
  go_wp2_with fail
  refine (drawTextValid_any a n c w hc hnc hm).mono ?_
  rintro e w1 ⟨s, rfl, h1, h2⟩
  go_wp2
  go_ret
  exact ⟨s, rfl, h1, h2⟩
set_option maxRecDepth 100000 in
set_option maxHeartbeats 400000 in
theorem drawAtomValid_any (a : Option Addr) (n c : Nat) (w : World) (hc : Code w a n) (hnc : n ≤ c) (hm : c ≤ maxLen) :
    Calls Tryd.prog 30 #[.slice a n c] w (DrawnStr 40 w) := by
  go_enter Tryd.func30, Tryd.ntmps30
  go_wp2_with fail
  refine (open_any a n c w hc hnc hm).mono ?_
  rintro e w1 ⟨R, rfl, hR, hr1, hb1⟩
  go_wp2_with fail
  refine (l1Draw_any R 0 w1 hr1 (by omega)).mono ?_
  rintro e w2 ⟨s2, p2, rfl, g2, f2, k2, hr2, ht2⟩
  go_wp2_with fail
  refine (bend_lit R p2 5 1 _ _ _ w2 hr2 (by omega) (by omega) (by omega) (by omega) (by omega) (by decide)).mono ?_
  rintro e w4 ⟨s4, p4, rfl, g4, f4, k4, hr4, ht4⟩
  go_wp2
  go_ret
  exact ⟨s4, rfl, by omega, after_open hb1 hR (ht2.trans ht4)⟩
set_option maxRecDepth 100000 in
set_option maxHeartbeats 400000 in
theorem drawUnquoteWord_any (a : Option Addr) (n c : Nat) (w : World) (hc : Code w a n) (hnc : n ≤ c) (hm : c ≤ maxLen) :
    Calls Tryd.prog 21 #[.slice a n c] w (DrawnStr 500 w) := by
  go_enter Tryd.func21, Tryd.ntmps21
  go_wp2_with fail
  refine (open_any a n c w hc hnc hm).mono ?_
  rintro e w1 ⟨R, rfl, hR, hr1, hb1⟩
  go_wp2_with fail
  refine (l1Draw_any R 0 w1 hr1 (by omega)).mono ?_
  rintro e w2 ⟨s2, p2, rfl, g2, f2, k2, hr2, ht2⟩
  go_wp2_with fail
  refine (quoteWordS_any s2 w2 (by omega)).mono ?_
  rintro e w3 ⟨rfl, hb3⟩
  have hqs : (str (quoteW s2.data.toList)).size ≤ 402 := by rw [str_size]; exact quoteW_len _
  go_wp2_with fail
  refine (bend_lit R p2 5 1 _ _ _ w3 (hr2.below hb3) (by omega) (by omega) (by omega) (by omega) (by omega) (by decide)).mono ?_
  rintro e w4 ⟨s4, p4, rfl, g4, f4, k4, hr4, ht4⟩
  go_wp2
  go_ret
  exact ⟨s4, rfl, by omega, after_open hb1 hR (ht2.trans ((Touch.of_below hb3).trans ht4))⟩
end Go.Proofs.YtjnpkmenlecdmaaDoor
