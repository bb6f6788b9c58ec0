/-
  Draws: a text that is bent in one place. No statement is proved here.
-/
import Derived.Test.YtjnpkmenlecdmabDoorDraw
import Derived.Deep.RegionWith
import Derived.IntWalk
namespace Go.Proofs.YtjnpkmenlecdmabDoor
open Go.RowKit

set_option maxRecDepth 100000 in
set_option maxHeartbeats 1000000 in
theorem l1Bend_any (R p b off n c M : Nat) (s : ByteArray) (w : World) (hr : Rd w R p) (hp : p ≤ 999999000) (hb : b ≠ R) (hn : 0 < n) (hn2 : n ≤ 1000000) (hss : s.size ≤ 1000000) (hs : Strs w b off n M) (hM : M ≤ 1000000) :
    Calls Tryd.prog 57 #[.pointer (some ⟨R, 0, none⟩), .string s, .slice (some ⟨b, off, none⟩) n c] w (Drawn R p 4 (s.size + M) w) := by
  by_cases h0 : s.size = 0
  · have e0 : ((s.size : Int) == 0) = true := by simpa using h0
    have H0 := Lib.hid h0
    clear h0
    go_enter Tryd.func57, Tryd.ntmps57
    go_wp2
    go_ret
    exact ⟨s, p, rfl, by omega, by omega, by omega, hr, Touch.refl _ _⟩
  · have e0 : ((s.size : Int) == 0) = false := by simpa using h0
    go_enter Tryd.func57, Tryd.ntmps57
    go_wp2_with fail
    refine (pick_any R p 2 w hr (by omega) (by omega)).mono ?_
    rintro e w1 ⟨k, rfl, hk, hr1, ht1⟩
    by_cases hk0 : k = 0
    · subst hk0
      go_wp2
      go_ret
      exact ⟨s, p + 1, rfl, by omega, by omega, by omega, hr1, ht1⟩
    · have ek : ((k : Int) == 0) = false := by simpa using hk0
      go_wp2_with fail
      refine (pick_any R (p + 1) s.size w1 hr1 (by omega) (by omega)).mono ?_
      rintro e w2 ⟨j, rfl, hj, hr2, ht2⟩
      have hj' : j < s.size := by omega
      clear hj hk
      go_wp2_with fail
      have hs2 := (hs.touch ht1 hb).touch ht2 hb
      go_region_with (first | (go_at_call 77; refine (of_any R (p + 1 + 1) b off n c M _ ?_ ?_ hb hn hn2 ?_).mono ?_; exact hr2; omega; exact hs2; rintro e w3 ⟨t, p3, rfl, g2, g3, g4, g5, g6⟩) | (go_at_call 56; refine (pick_any R p3 2 _ ?_ ?_ ?_).mono ?_; exact g5; omega; omega; rintro e w4 ⟨k4, rfl, q1, q2, q3⟩; have q4 : (0 : Int) ≤ (j : Int) + k4 ∧ (j : Int) + k4 ≤ s.size := (by omega); have q5 : (0 : Int) ≤ (j : Int) + k4 := q4.1; have q6 : (j : Int) + k4 ≤ s.size := q4.2; clear q1 q4; have q7 : IntKind.i64.wrap ((j : Int) + k4) = (j : Int) + k4 := IntWalk.i64_in _ (by omega)))
      all_goals go_wp2
      all_goals go_ret
      all_goals exact ⟨_, p3 + 1, rfl, by simp [ByteArray.size_append, ByteArray.size_extract]; omega, by omega, by omega, q2, ht1.trans (ht2.trans ((Touch.refl R w2).drew.trans (g6.trans q3)))⟩
theorem bend_lit (R p n M : Nat) (C : Array Value) (t : TypeId) (s : ByteArray) (w : World) (hr : Rd w R p) (hp : p ≤ 999999000) (hn : 0 < n) (hn2 : n ≤ 1000000) (hss : s.size ≤ 1000000) (hM : M ≤ 1000000) (h : litOk C n M = true) :
    Calls Tryd.prog 57 #[.pointer (some ⟨R, 0, none⟩), .string s, .slice (some ⟨w.heap.size, 0, none⟩) n n] (w.alloc (.cells C t)) (Drawn R p 4 (s.size + M) w) := by
  have hb : Below w.heap.size w (w.alloc (.cells C t)) := (Below.refl _ _).alloc (Nat.le_refl _) _
  refine (l1Bend_any R p w.heap.size 0 n n M s _ (hr.below hb) hp (by have := hr.lt; omega) hn hn2 hss (strs_new w C t n M h) hM).mono ?_
  rintro e w' ⟨s', p', h1, h2, h3, h4, h5, h6⟩
  exact ⟨s', p', h1, h2, h3, h4, h5, (Touch.of_below hb).trans h6⟩
end Go.Proofs.YtjnpkmenlecdmabDoor
