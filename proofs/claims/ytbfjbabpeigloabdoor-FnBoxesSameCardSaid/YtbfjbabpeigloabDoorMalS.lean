/-
  Mails and sessions compared. No statement is proved here.
-/
import Derived.Test.YtbfjbabpeigloabDoorMal
import Derived.Test.YtbfjbabpeigloabDoorTxt
namespace Go.Proofs.YtbfjbabpeigloabDoor
open Go.RowKit

set_option maxRecDepth 100000 in
set_option maxHeartbeats 2000000 in
theorem mailSame_any (M : Nat) (x y : MlA) (w : World) (h1 : RdM M w x) (h2 : RdM M w y) (hM : M ≤ maxLen) :
    Calls Tryd.prog 13 #[mlV x, mlV y] w fun e w' => e = .returned (.bool (decide (x.m = y.m))) ∧ Below w.heap.size w w' := by
  obtain ⟨⟨f1, t1, l1⟩, a1, c1, b1, d1⟩ := x
  obtain ⟨⟨f2, t2, l2⟩, a2, c2, b2, d2⟩ := y
  obtain ⟨⟨p1, _, _⟩, ⟨p2, _, _⟩, _, p3, _, p4, _⟩ := h1
  obtain ⟨⟨q1, _, _⟩, ⟨q2, _, _⟩, _, q3, _, q4, _⟩ := h2
  unfold mlV
  rw [ml_beq]
  dsimp only at *
  have HT : Hid (∀ u, Below w.heap.size w u → Calls Tryd.prog 41 #[.slice a1 t1.length c1, .slice a2 t2.length c2] u fun e w' => e = .returned (.bool (decide (t1 = t2))) ∧ Below u.heap.size u w') := fun u hb => slicesEqS_any _ _ _ _ _ _ _ _ u (p1.below hb) (q1.below hb) (by omega) (by omega)
  have HL : Hid (∀ u, Below w.heap.size w u → Calls Tryd.prog 41 #[.slice b1 l1.length d1, .slice b2 l2.length d2] u fun e w' => e = .returned (.bool (decide (l1 = l2))) ∧ Below u.heap.size u w') := fun u hb => slicesEqS_any _ _ _ _ _ _ _ _ u (p2.below hb) (q2.below hb) (by omega) (by omega)
  clear p1 p2 p3 p4 q1 q2 q3 q4 hM
  have d0 := beq_dec (str f1) (str f2)
  have d0' : ((str f1).toList != (str f2).toList) = !decide (str f1 = str f2) := by rw [bne, beq_dec]
  generalize decide (str f1 = str f2) = g0 at *
  generalize decide (t1 = t2) = g1 at *
  generalize decide (l1 = l2) = g2 at *
  generalize t1.length = n1 at *
  generalize t2.length = n2 at *
  generalize l1.length = n3 at *
  generalize l2.length = n4 at *
  generalize str f1 = s1 at *
  generalize str f2 = s2 at *
  have hA1 : Below w.heap.size w (w.alloc (.cells #[.string s1, .slice a1 n1 c1, .slice b1 n3 d1] 28)) := (Below.refl _ _).alloc (Nat.le_refl _) _
  have hA2 : Below (w.alloc (.cells #[.string s1, .slice a1 n1 c1, .slice b1 n3 d1] 28)).heap.size (w.alloc (.cells #[.string s1, .slice a1 n1 c1, .slice b1 n3 d1] 28)) ((w.alloc (.cells #[.string s1, .slice a1 n1 c1, .slice b1 n3 d1] 28)).alloc (.cells #[.string s2, .slice a2 n2 c2, .slice b2 n4 d2] 28)) := (Below.refl _ _).alloc (Nat.le_refl _) _
  have HX : Hid (MK3 ((w.alloc (.cells #[.string s1, .slice a1 n1 c1, .slice b1 n3 d1] 28)).alloc (.cells #[.string s2, .slice a2 n2 c2, .slice b2 n4 d2] 28)) w.heap.size (.string s1) (.slice a1 n1 c1) (.slice b1 n3 d1)) := (MK3.new w _ _ _ _).below hA2
  have HY : Hid (MK3 ((w.alloc (.cells #[.string s1, .slice a1 n1 c1, .slice b1 n3 d1] 28)).alloc (.cells #[.string s2, .slice a2 n2 c2, .slice b2 n4 d2] 28)) (w.heap.size + 1) (.string s2) (.slice a2 n2 c2) (.slice b2 n4 d2)) := by
    have := MK3.new (w.alloc (.cells #[.string s1, .slice a1 n1 c1, .slice b1 n3 d1] 28)) (.string s2) (.slice a2 n2 c2) (.slice b2 n4 d2) 28
    have e : (w.alloc (.cells #[.string s1, .slice a1 n1 c1, .slice b1 n3 d1] 28)).heap.size = w.heap.size + 1 := by simp
    rw [e] at this; exact this
  have hA := nx hA1 hA2
  cases g0
  · go_enter Tryd.func13, Tryd.ntmps13
    go_wp2
    go_ret
    exact ⟨rfl, hA⟩
  · go_enter Tryd.func13, Tryd.ntmps13
    go_wp2_with fail
    refine (HT.out _ hA).mono ?_
    rintro e w1 ⟨rfl, hb1⟩
    have hb01 := nx hA hb1
    obtain ⟨y0, y1, y2⟩ := HX.out.below hb1
    obtain ⟨x0, x1, x2⟩ := HY.out.below hb1
    cases g1
    · go_wp2
      go_ret
      exact ⟨rfl, hb01⟩
    · go_wp2_with fail
      refine (HL.out _ hb01).mono ?_
      rintro e w2 ⟨rfl, hb2⟩
      cases g2
      · go_wp2
        go_ret
        exact ⟨rfl, nx hb01 hb2⟩
      · go_wp2
        go_ret
        exact ⟨rfl, nx hb01 hb2⟩
set_option maxRecDepth 100000 in
set_option maxHeartbeats 2000000 in
theorem mailSameS_any (M : Nat) (x y : MlA) (w : World) (h1 : RdM M w x) (h2 : RdM M w y) (hM : M ≤ maxLen) :
    Calls Tryd.prog 55 #[mlV x, mlV y] w fun e w' => e = .returned (.bool (decide (x.m = y.m))) ∧ Below w.heap.size w w' := by
  obtain ⟨⟨f1, t1, l1⟩, a1, c1, b1, d1⟩ := x
  obtain ⟨⟨f2, t2, l2⟩, a2, c2, b2, d2⟩ := y
  obtain ⟨⟨p1, _, _⟩, ⟨p2, _, _⟩, _, p3, _, p4, _⟩ := h1
  obtain ⟨⟨q1, _, _⟩, ⟨q2, _, _⟩, _, q3, _, q4, _⟩ := h2
  unfold mlV
  rw [ml_beq]
  dsimp only at *
  have HT : Hid (∀ u, Below w.heap.size w u → Calls Tryd.prog 76 #[.slice a1 t1.length c1, .slice a2 t2.length c2] u fun e w' => e = .returned (.bool (decide (t1 = t2))) ∧ Below u.heap.size u w') := fun u hb => l10Texts_any _ _ _ _ _ _ _ _ u (p1.below hb) (q1.below hb) (by omega) (by omega)
  have HL : Hid (∀ u, Below w.heap.size w u → Calls Tryd.prog 76 #[.slice b1 l1.length d1, .slice b2 l2.length d2] u fun e w' => e = .returned (.bool (decide (l1 = l2))) ∧ Below u.heap.size u w') := fun u hb => l10Texts_any _ _ _ _ _ _ _ _ u (p2.below hb) (q2.below hb) (by omega) (by omega)
  clear p1 p2 p3 p4 q1 q2 q3 q4 hM
  have d0 := beq_dec (str f1) (str f2)
  have d0' : ((str f1).toList != (str f2).toList) = !decide (str f1 = str f2) := by rw [bne, beq_dec]
  generalize decide (str f1 = str f2) = g0 at *
  generalize decide (t1 = t2) = g1 at *
  generalize decide (l1 = l2) = g2 at *
  generalize t1.length = n1 at *
  generalize t2.length = n2 at *
  generalize l1.length = n3 at *
  generalize l2.length = n4 at *
  generalize str f1 = s1 at *
  generalize str f2 = s2 at *
  have hA1 : Below w.heap.size w (w.alloc (.cells #[.string s1, .slice a1 n1 c1, .slice b1 n3 d1] 28)) := (Below.refl _ _).alloc (Nat.le_refl _) _
  have hA2 : Below (w.alloc (.cells #[.string s1, .slice a1 n1 c1, .slice b1 n3 d1] 28)).heap.size (w.alloc (.cells #[.string s1, .slice a1 n1 c1, .slice b1 n3 d1] 28)) ((w.alloc (.cells #[.string s1, .slice a1 n1 c1, .slice b1 n3 d1] 28)).alloc (.cells #[.string s2, .slice a2 n2 c2, .slice b2 n4 d2] 28)) := (Below.refl _ _).alloc (Nat.le_refl _) _
  have HX : Hid (MK3 ((w.alloc (.cells #[.string s1, .slice a1 n1 c1, .slice b1 n3 d1] 28)).alloc (.cells #[.string s2, .slice a2 n2 c2, .slice b2 n4 d2] 28)) w.heap.size (.string s1) (.slice a1 n1 c1) (.slice b1 n3 d1)) := (MK3.new w _ _ _ _).below hA2
  have HY : Hid (MK3 ((w.alloc (.cells #[.string s1, .slice a1 n1 c1, .slice b1 n3 d1] 28)).alloc (.cells #[.string s2, .slice a2 n2 c2, .slice b2 n4 d2] 28)) (w.heap.size + 1) (.string s2) (.slice a2 n2 c2) (.slice b2 n4 d2)) := by
    have := MK3.new (w.alloc (.cells #[.string s1, .slice a1 n1 c1, .slice b1 n3 d1] 28)) (.string s2) (.slice a2 n2 c2) (.slice b2 n4 d2) 28
    have e : (w.alloc (.cells #[.string s1, .slice a1 n1 c1, .slice b1 n3 d1] 28)).heap.size = w.heap.size + 1 := by simp
    rw [e] at this; exact this
  have hA := nx hA1 hA2
  cases g0
  · go_enter Tryd.func55, Tryd.ntmps55
    go_wp2
    go_ret
    exact ⟨rfl, hA⟩
  · go_enter Tryd.func55, Tryd.ntmps55
    go_wp2_with fail
    refine (HT.out _ hA).mono ?_
    rintro e w1 ⟨rfl, hb1⟩
    have hb01 := nx hA hb1
    obtain ⟨y0, y1, y2⟩ := HX.out.below hb1
    obtain ⟨x0, x1, x2⟩ := HY.out.below hb1
    cases g1
    · go_wp2
      go_ret
      exact ⟨rfl, hb01⟩
    · go_wp2_with fail
      refine (HL.out _ hb01).mono ?_
      rintro e w2 ⟨rfl, hb2⟩
      cases g2
      · go_wp2
        go_ret
        exact ⟨rfl, nx hb01 hb2⟩
      · go_wp2
        go_ret
        exact ⟨rfl, nx hb01 hb2⟩
end Go.Proofs.YtbfjbabpeigloabDoor
