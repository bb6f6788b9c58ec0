/-
  Draws of arguments of chapter 11 that are mails. No statement is proved here.
-/
import Derived.Test.YtccendchnndaiaaDoorDrMaw
namespace Go.Proofs.YtccendchnndaiaaDoor
open Go.RowKit

set_option maxRecDepth 100000 in
set_option maxHeartbeats 1000000 in
theorem drawCountHops_any (a : Option Addr) (n c : Nat) (w : World) (hc : Code w a n) (hnc : n ≤ c) (hm : c ≤ maxLen) :
    Calls Tryd.prog 31 #[.slice a n c] w (DrawnN 50 w) := by
  have hb0 : Below w.heap.size w (w.alloc (.cells #[.string ⟨#[]⟩, .slice none 0 0, .slice none 0 0] 25)) := (Below.refl _ _).alloc (Nat.le_refl _) _
  have HZ0 := Lib.hid (MF3.new w (.string ⟨#[]⟩) (.slice none 0 0) (.slice none 0 0) 25)
  have hl0 : w.heap.size < (w.alloc (.cells #[.string ⟨#[]⟩, .slice none 0 0, .slice none 0 0] 25)).heap.size := by simp
  go_enter Tryd.func31, Tryd.ntmps31
  go_wp2_with fail
  refine (drawSpeakMail_own a n c _ (hc.below hb0) hnc hm).mono ?_
  rintro e w1 ⟨s1, a1, n1, c1, b1, k1, d1, m, rfl, hr, hst, hb1⟩
  have hbw := nx hb0 hb1
  have HZ1 := Lib.hid (HZ0.out.below hb1)
  have hL1 : ∀ q, (Value.slice a1 n1 c1).ownBlock = some q → q ≠ w.heap.size := fun q hq => by have := (hst.a.lt q hq).1; omega
  have hL2 : ∀ q, (Value.slice b1 k1 d1).ownBlock = some q → q ≠ w.heap.size := fun q hq => by have := (hst.b.lt q hq).1; omega
  have HS := Lib.hid (((hst.off (g := w.heap.size) (i := 0) hL1 hL2 (.string s1)).off (g := w.heap.size) (i := 1) hL1 hL2 (.slice a1 n1 c1)).off (g := w.heap.size) (i := 2) hL1 hL2 (.slice b1 k1 d1))
  have HR := Lib.hid hr
  obtain ⟨⟨q0, q1, q2⟩, qf⟩ := HZ1.out
  clear hr hst hL1 hL2 HZ0 HZ1 hb1
  go_wp2
  refine bodyPost_ret (v := .agg #[.string s1, .slice a1 n1 c1, .slice b1 k1 d1]) (by simp [results, Tryd.results31, go_sem, q0, q1, q2]) rfl ⟨s1, a1, n1, c1, b1, k1, d1, m, rfl, ?_, ((hbw.setCell (p := ⟨w.heap.size, 0, none⟩) (Nat.le_refl _) _).setCell (p := ⟨w.heap.size, 1, none⟩) (Nat.le_refl _) _).setCell (p := ⟨w.heap.size, 2, none⟩) (Nat.le_refl _) _⟩
  obtain ⟨h1, rfl, rfl, _, _, h6⟩ := HR.out
  exact ⟨h1, rfl, rfl, HS.out.a.rdc, HS.out.b.rdc, h6⟩
set_option maxRecDepth 100000 in
set_option maxHeartbeats 1000000 in
theorem drawNormalMail_any (a : Option Addr) (n c : Nat) (w : World) (hc : Code w a n) (hnc : n ≤ c) (hm : c ≤ maxLen) :
    Calls Tryd.prog 12 #[.slice a n c] w (DrawnN 50 w) := by
  have hb0 : Below w.heap.size w (w.alloc (.cells #[.string ⟨#[]⟩, .slice none 0 0, .slice none 0 0] 25)) := (Below.refl _ _).alloc (Nat.le_refl _) _
  have HZ0 := Lib.hid (MF3.new w (.string ⟨#[]⟩) (.slice none 0 0) (.slice none 0 0) 25)
  have hl0 : w.heap.size < (w.alloc (.cells #[.string ⟨#[]⟩, .slice none 0 0, .slice none 0 0] 25)).heap.size := by simp
  go_enter Tryd.func12, Tryd.ntmps12
  go_wp2_with fail
  refine (drawSpeakMail_own a n c _ (hc.below hb0) hnc hm).mono ?_
  rintro e w1 ⟨s1, a1, n1, c1, b1, k1, d1, m, rfl, hr, hst, hb1⟩
  have hbw := nx hb0 hb1
  have HZ1 := Lib.hid (HZ0.out.below hb1)
  have hL1 : ∀ q, (Value.slice a1 n1 c1).ownBlock = some q → q ≠ w.heap.size := fun q hq => by have := (hst.a.lt q hq).1; omega
  have hL2 : ∀ q, (Value.slice b1 k1 d1).ownBlock = some q → q ≠ w.heap.size := fun q hq => by have := (hst.b.lt q hq).1; omega
  have HS := Lib.hid (((hst.off (g := w.heap.size) (i := 0) hL1 hL2 (.string s1)).off (g := w.heap.size) (i := 1) hL1 hL2 (.slice a1 n1 c1)).off (g := w.heap.size) (i := 2) hL1 hL2 (.slice b1 k1 d1))
  have HR := Lib.hid hr
  obtain ⟨⟨q0, q1, q2⟩, qf⟩ := HZ1.out
  clear hr hst hL1 hL2 HZ0 HZ1 hb1
  go_wp2
  refine bodyPost_ret (v := .agg #[.string s1, .slice a1 n1 c1, .slice b1 k1 d1]) (by simp [results, Tryd.results12, go_sem, q0, q1, q2]) rfl ⟨s1, a1, n1, c1, b1, k1, d1, m, rfl, ?_, ((hbw.setCell (p := ⟨w.heap.size, 0, none⟩) (Nat.le_refl _) _).setCell (p := ⟨w.heap.size, 1, none⟩) (Nat.le_refl _) _).setCell (p := ⟨w.heap.size, 2, none⟩) (Nat.le_refl _) _⟩
  obtain ⟨h1, rfl, rfl, _, _, h6⟩ := HR.out
  exact ⟨h1, rfl, rfl, HS.out.a.rdc, HS.out.b.rdc, h6⟩
set_option maxRecDepth 100000 in
set_option maxHeartbeats 1000000 in
theorem drawSplitMail_any (a : Option Addr) (n c : Nat) (w : World) (hc : Code w a n) (hnc : n ≤ c) (hm : c ≤ maxLen) :
    Calls Tryd.prog 18 #[.slice a n c] w (DrawnN 50 w) := by
  have hb0 : Below w.heap.size w (w.alloc (.cells #[.string ⟨#[]⟩, .slice none 0 0, .slice none 0 0] 25)) := (Below.refl _ _).alloc (Nat.le_refl _) _
  have HZ0 := Lib.hid (MF3.new w (.string ⟨#[]⟩) (.slice none 0 0) (.slice none 0 0) 25)
  have hl0 : w.heap.size < (w.alloc (.cells #[.string ⟨#[]⟩, .slice none 0 0, .slice none 0 0] 25)).heap.size := by simp
  go_enter Tryd.func18, Tryd.ntmps18
  go_wp2_with fail
  refine (drawSpeakMail_own a n c _ (hc.below hb0) hnc hm).mono ?_
  rintro e w1 ⟨s1, a1, n1, c1, b1, k1, d1, m, rfl, hr, hst, hb1⟩
  have hbw := nx hb0 hb1
  have HZ1 := Lib.hid (HZ0.out.below hb1)
  have hL1 : ∀ q, (Value.slice a1 n1 c1).ownBlock = some q → q ≠ w.heap.size := fun q hq => by have := (hst.a.lt q hq).1; omega
  have hL2 : ∀ q, (Value.slice b1 k1 d1).ownBlock = some q → q ≠ w.heap.size := fun q hq => by have := (hst.b.lt q hq).1; omega
  have HS := Lib.hid (((hst.off (g := w.heap.size) (i := 0) hL1 hL2 (.string s1)).off (g := w.heap.size) (i := 1) hL1 hL2 (.slice a1 n1 c1)).off (g := w.heap.size) (i := 2) hL1 hL2 (.slice b1 k1 d1))
  have HR := Lib.hid hr
  obtain ⟨⟨q0, q1, q2⟩, qf⟩ := HZ1.out
  clear hr hst hL1 hL2 HZ0 HZ1 hb1
  go_wp2
  refine bodyPost_ret (v := .agg #[.string s1, .slice a1 n1 c1, .slice b1 k1 d1]) (by simp [results, Tryd.results18, go_sem, q0, q1, q2]) rfl ⟨s1, a1, n1, c1, b1, k1, d1, m, rfl, ?_, ((hbw.setCell (p := ⟨w.heap.size, 0, none⟩) (Nat.le_refl _) _).setCell (p := ⟨w.heap.size, 1, none⟩) (Nat.le_refl _) _).setCell (p := ⟨w.heap.size, 2, none⟩) (Nat.le_refl _) _⟩
  obtain ⟨h1, rfl, rfl, _, _, h6⟩ := HR.out
  exact ⟨h1, rfl, rfl, HS.out.a.rdc, HS.out.b.rdc, h6⟩
end Go.Proofs.YtccendchnndaiaaDoor
