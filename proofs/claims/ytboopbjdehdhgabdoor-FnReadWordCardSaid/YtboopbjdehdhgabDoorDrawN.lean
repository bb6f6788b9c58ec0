/-
  Draws of chapter 6: names, coded words, texts of names. No statement is proved here.
-/
import Derived.Test.YtboopbjdehdhgabDoorDraw1
import Derived.Test.YtboopbjdehdhgabDoorNamC
import Derived.Test.YtboopbjdehdhgabDoorNamN
namespace Go.Proofs.YtboopbjdehdhgabDoor
open Go.RowKit

theorem numN_lit (R p n : Nat) (xs : List Int) (t : TypeId) (w : World) (hr : Rd w R p) (hp : p ≤ 1000000000) (hn : xs.length = n) (h0 : 0 < n) (h1 : n ≤ 1000000) :
    Calls Tryd.prog 41 #[.pointer (some ⟨R, 0, none⟩), .slice (some ⟨w.heap.size, 0, none⟩) n n] (w.alloc (.cells (xs.map (Value.int .i64)).toArray t)) fun e w' => ∃ x, x ∈ xs ∧ e = .returned (.int .i64 x) ∧ Rd w' R (p + 1) ∧ Touch R w w' := by
  have hb : Below w.heap.size w (w.alloc (.cells (xs.map (Value.int .i64)).toArray t)) := (Below.refl _ _).alloc (Nat.le_refl _) _
  refine (num_any R p w.heap.size 0 n n xs _ (hr.below hb) hp (by have := hr.lt; omega) (by simp) h0 h1 hn (fun i hi => ?_)).mono ?_
  · rw [World.cell?_alloc_at _ _ _ _ rfl]; simp [hi]
  · rintro e w' ⟨x, h1, h2, h3, h4⟩
    exact ⟨x, h1, h2, h3, (Touch.of_below hb).trans h4⟩
set_option maxRecDepth 100000 in
set_option maxHeartbeats 2000000 in
theorem l6Draw_any (R p : Nat) (w : World) (hr : Rd w R p) (hp : p ≤ 999999000) : Calls Tryd.prog 16 #[.pointer (some ⟨R, 0, none⟩)] w (Drawn R p 10 200 w) := by
  have hs0 : (ByteArray.mk #[]).size = 0 := rfl
  go_enter Tryd.func16, Tryd.ntmps16
  go_wp2_with fail
  refine (numN_lit R p 5 [2, 1, 3, 0, 6] _ _ hr (by omega) rfl (by omega) (by omega)).mono ?_
  rintro e w1 ⟨m0, hm0, rfl, hr1, ht1⟩
  have hm : 0 ≤ m0 ∧ m0 ≤ 6 := by
    simp only [List.mem_cons, List.not_mem_nil, or_false] at hm0; omega
  clear hm0
  go_wp2_with fail
  go_loopw [3, 4] (fun o i wr => ∃ (m : Int) (s : ByteArray) (p' : Nat), 0 ≤ m ∧ m ≤ 6 ∧ s.size + 30 * m ≤ 180 ∧ i = .int .i64 m ∧ o = .string s ∧ p ≤ p' ∧ p' + m ≤ p + 7 ∧ Rd wr R p' ∧ Touch R w wr) (fun _ i _ => (intOf i).toNat)
  case atStart => exact ⟨m0, _, p + 1, hm.1, hm.2, by rw [hs0]; omega, rfl, rfl, by omega, by omega, hr1, ht1⟩
  case round =>
    obtain ⟨m, s, p', hm0, hm8, hsz, rfl, rfl, hp1, hp2, hrd, ht⟩ := hrel
    by_cases hmp : 0 < m
    · go_wp2_with fail
      refine (of_lit R p' 10 30 _ _ _ hrd (by omega) (by omega) (by omega) (by decide)).mono ?_
      rintro e w2 ⟨s2, p2, rfl, g2, f2, k2, hr2, ht2⟩
      have hap : (s ++ s2).size = s.size + s2.size := ByteArray.size_append
      go_wp2
      go_roundw
      case rel => exact ⟨m - 1, _, p2, by omega, by omega, by rw [hap]; omega, rfl, rfl, by omega, by omega, hr2, ht.trans ht2⟩
      case measure => simp [intOf]; omega
    · have hm0' : m = 0 := by omega
      subst hm0'
      clear hmp
      go_wp2
      go_ret
      exact ⟨s, p', rfl, by omega, by omega, by omega, hrd, ht⟩
set_option maxRecDepth 100000 in
set_option maxHeartbeats 1000000 in
theorem drawEncodeName_any (a : Option Addr) (n c : Nat) (w : World) (hc : Code w a n) (hnc : n ≤ c) (hm : c ≤ maxLen) :
    Calls Tryd.prog 6 #[.slice a n c] w (DrawnStr 200 w) := by
  go_enter Tryd.func6, Tryd.ntmps6
  go_wp2_with fail
  refine (open_any a n c w hc hnc hm).mono ?_
  rintro e w1 ⟨R, rfl, hR, hr1, hb1⟩
  go_wp2_with fail
  refine (l6Draw_any R 0 w1 hr1 (by omega)).mono ?_
  rintro e w2 ⟨s2, p2, rfl, g2, f2, k2, hr2, ht2⟩
  go_wp2
  go_ret
  exact ⟨s2, rfl, g2, after_open hb1 hR ht2⟩
theorem codeW_small (l : List UInt8) : ((codeW l).getD []).length ≤ 40 := by
  cases h : codeW l with
  | none => simp
  | some s => exact (codeW_size h).2.1
set_option maxRecDepth 100000 in
set_option maxHeartbeats 1000000 in
theorem drawReadCodeWord_any (a : Option Addr) (n c : Nat) (w : World) (hc : Code w a n) (hnc : n ≤ c) (hm : c ≤ maxLen) :
    Calls Tryd.prog 14 #[.slice a n c] w (DrawnStr 50 w) := by
  go_enter Tryd.func14, Tryd.ntmps14
  go_wp2_with fail
  refine (open_any a n c w hc hnc hm).mono ?_
  rintro e w1 ⟨R, rfl, hR, hr1, hb1⟩
  go_wp2_with fail
  refine (of_lit R 0 5 10 _ _ w1 hr1 (by omega) (by omega) (by omega) (by decide)).mono ?_
  rintro e w2 ⟨s2, p2, rfl, g2, f2, k2, hr2, ht2⟩
  have hsm := codeW_small s2.data.toList
  go_wp2_with fail
  refine (codeWordS_any s2 w2 (by omega)).mono ?_
  rintro e w3 ⟨rfl, hb3⟩
  have hqs := str_size ((codeW s2.data.toList).getD [])
  generalize str ((codeW s2.data.toList).getD []) = q at *
  go_wp2_with fail
  refine (bend_lit R p2 6 3 _ _ q w3 (hr2.below hb3) (by omega) (by omega) (by omega) (by omega) (by omega) (by decide)).mono ?_
  rintro e w4 ⟨s4, p4, rfl, g4, f4, k4, hr4, ht4⟩
  go_wp2
  go_ret
  exact ⟨s4, rfl, by omega, after_open hb1 hR (ht2.trans ((Touch.of_below hb3).trans ht4))⟩
theorem encN_small (l : List UInt8) : ((encN l).getD []).length ≤ 560 := by
  cases h : encN l with
  | none => simp
  | some s => exact encN_size h
set_option maxRecDepth 100000 in
set_option maxHeartbeats 1000000 in
theorem drawDecodeName_any (a : Option Addr) (n c : Nat) (w : World) (hc : Code w a n) (hnc : n ≤ c) (hm : c ≤ maxLen) :
    Calls Tryd.prog 11 #[.slice a n c] w (DrawnStr 570 w) := by
  go_enter Tryd.func11, Tryd.ntmps11
  go_wp2_with fail
  refine (open_any a n c w hc hnc hm).mono ?_
  rintro e w1 ⟨R, rfl, hR, hr1, hb1⟩
  go_wp2_with fail
  refine (l6Draw_any R 0 w1 hr1 (by omega)).mono ?_
  rintro e w2 ⟨s2, p2, rfl, g2, f2, k2, hr2, ht2⟩
  have hsm := encN_small s2.data.toList
  go_wp2_with fail
  refine (encodeNameS_any s2 w2 (by omega)).mono ?_
  rintro e w3 ⟨rfl, hb3⟩
  have hqs := str_size ((encN s2.data.toList).getD [])
  generalize str ((encN s2.data.toList).getD []) = q at *
  go_wp2_with fail
  refine (bend_lit R p2 5 1 _ _ q w3 (hr2.below hb3) (by omega) (by omega) (by omega) (by omega) (by omega) (by decide)).mono ?_
  rintro e w4 ⟨s4, p4, rfl, g4, f4, k4, hr4, ht4⟩
  go_wp2
  go_ret
  exact ⟨s4, rfl, by omega, after_open hb1 hR (ht2.trans ((Touch.of_below hb3).trans ht4))⟩
end Go.Proofs.YtboopbjdehdhgabDoor
