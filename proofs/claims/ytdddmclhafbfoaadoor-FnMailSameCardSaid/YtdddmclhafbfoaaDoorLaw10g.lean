/-
  The law of chapter 10 on equal mails: its walk. For every input of the law: it returns true, and the input reads as it did. Conditions: none but the statement's own.
-/
import Derived.Test.YtdddmclhafbfoaaDoorDrMaw
import Derived.Test.YtdddmclhafbfoaaDoorLaw0
import Derived.Test.YtdddmclhafbfoaaDoorMalU
import Derived.Test.YtdddmclhafbfoaaDoorMalI
import Derived.Deep.QuietTactic
import Derived.BigQuiet
import Derived.Test.YtdddmclhafbfoaaDoorQuietB
namespace Go.Proofs.YtdddmclhafbfoaaDoor
open Go.ChangeShapes Go.WideShapes Go.ChangeAt Go.RowKit
open Go.ChangeMaps (open_string shut_string)

set_option maxRecDepth 100000 in
set_option maxHeartbeats 4000000 in
theorem fnMailSame_walk (a : Option Addr) (n c : Nat) (w : World) (en : Env w) (hc : Code w a n) (hnc : n ≤ c) (hm : c ≤ maxLen) :
    Calls Tryd.prog 4 #[.slice a n c] w fun e w' => e = .returned (.bool true) ∧ Below w.heap.size w w' := by
  have hm' := hm
  unfold maxLen at hm'
  by_cases hn : 1048576 < n
  · have hd : decide ((1048576 : Int) < n) = true := by simp; omega
    go_enter Tryd.func4, Tryd.ntmps4
    go_wp2
    go_ret
    exact ⟨rfl, Below.refl _ _⟩
  · have hd : decide ((1048576 : Int) < n) = false := by simp; omega
    go_enter Tryd.func4, Tryd.ntmps4
    go_wp2_with fail
    refine (drawMailSame_any a n c w hc hnc hm).mono ?_
    rintro e w1 ⟨s1, a1, n1, c1, b1, k1, d1, m1, s2, a2, n2, c2, b2, k2, d2, m2, rfl, hv1, hv2, hb1⟩
    have hA1 : Below w1.heap.size w1 (w1.alloc (.cells #[.string s1, .slice a1 n1 c1, .slice b1 k1 d1] 25)) := (Below.refl _ _).alloc (Nat.le_refl _) _
    have hA2 : Below (w1.alloc (.cells #[.string s1, .slice a1 n1 c1, .slice b1 k1 d1] 25)).heap.size (w1.alloc (.cells #[.string s1, .slice a1 n1 c1, .slice b1 k1 d1] 25)) ((w1.alloc (.cells #[.string s1, .slice a1 n1 c1, .slice b1 k1 d1] 25)).alloc (.cells #[.string s2, .slice a2 n2 c2, .slice b2 k2 d2] 25)) := (Below.refl _ _).alloc (Nat.le_refl _) _
    have HK1 := Lib.hid ((MK3.new w1 (.string s1) (.slice a1 n1 c1) (.slice b1 k1 d1) 25).below hA2)
    have HK2 : Hid (MK3 ((w1.alloc (.cells #[.string s1, .slice a1 n1 c1, .slice b1 k1 d1] 25)).alloc (.cells #[.string s2, .slice a2 n2 c2, .slice b2 k2 d2] 25)) (w1.heap.size + 1) (.string s2) (.slice a2 n2 c2) (.slice b2 k2 d2)) := by
      have := MK3.new (w1.alloc (.cells #[.string s1, .slice a1 n1 c1, .slice b1 k1 d1] 25)) (.string s2) (.slice a2 n2 c2) (.slice b2 k2 d2) 25
      have e : (w1.alloc (.cells #[.string s1, .slice a1 n1 c1, .slice b1 k1 d1] 25)).heap.size = w1.heap.size + 1 := by simp
      rw [e] at this; exact this
    have hA := nx hA1 hA2
    have HV1 := Lib.hid (hv1.below hA)
    have HV2 := Lib.hid (hv2.below hA)
    have hbA := nx hb1 hA
    have HEN := Lib.hid (en.below hbA)
    clear hv1 hv2 hb1 hA1 hA2 hA hc en
    obtain ⟨y0, y1, y2⟩ := HK1.out
    obtain ⟨x0, x1, x2⟩ := HK2.out
    go_wp2_with fail
    generalize (w1.alloc (.cells #[.string s1, .slice a1 n1 c1, .slice b1 k1 d1] 25)).alloc (.cells #[.string s2, .slice a2 n2 c2, .slice b2 k2 d2] 25) = W1 at *
    have U1 : ∀ {u}, Below W1.heap.size W1 u → RdV 1048576 u s1 a1 n1 c1 b1 k1 d1 m1 := fun hu => (HV1.out.below hu).up ((HV1.out.2.2.2.2.2).up (by omega))
    have U2 : ∀ {u}, Below W1.heap.size W1 u → RdV 1048576 u s2 a2 n2 c2 b2 k2 d2 m2 := fun hu => (HV2.out.below hu).up ((HV2.out.2.2.2.2.2).up (by omega))
    refine (mailSame_v (U1 (Below.refl _ _)) (U2 (Below.refl _ _))).mono ?_
    rintro e w2 ⟨rfl, hb2⟩
    have HS12 : Hid (∀ y : BelowT w2, Calls Tryd.prog 13 #[.agg #[.string s1, .slice a1 n1 c1, .slice b1 k1 d1], .agg #[.string s2, .slice a2 n2 c2, .slice b2 k2 d2]] y.val fun e w' => e = .returned (.bool (decide (m1 = m2))) ∧ Below y.val.heap.size y.val w') := fun y => mailSameS_v (U1 (nx hb2 y.below)) (U2 (nx hb2 y.below))
    have HS21 : Hid (∀ y : BelowT w2, Calls Tryd.prog 12 #[.agg #[.string s2, .slice a2 n2 c2, .slice b2 k2 d2], .agg #[.string s1, .slice a1 n1 c1, .slice b1 k1 d1]] y.val fun e w' => e = .returned (.bool (decide (m1 = m2))) ∧ Below y.val.heap.size y.val w') := fun y => by
      have := mailSame_v (U2 (nx hb2 y.below)) (U1 (nx hb2 y.below))
      rw [show decide (m2 = m1) = decide (m1 = m2) from decide_eq_decide.2 ⟨Eq.symm, Eq.symm⟩] at this; exact this
    have HS11 : Hid (∀ y : BelowT w2, Calls Tryd.prog 12 #[.agg #[.string s1, .slice a1 n1 c1, .slice b1 k1 d1], .agg #[.string s1, .slice a1 n1 c1, .slice b1 k1 d1]] y.val fun e w' => e = .returned (.bool true) ∧ Below y.val.heap.size y.val w') := fun y => by
      have := mailSame_v (U1 (nx hb2 y.below)) (U1 (nx hb2 y.below))
      rw [decide_eq_true (rfl : m1 = m1)] at this; exact this
    have HMV1 : Hid (∀ y : BelowT w2, Calls Tryd.prog 8 #[.agg #[.string s1, .slice a1 n1 c1, .slice b1 k1 d1]] y.val fun e w' => e = .returned (.bool (isMail m1)) ∧ Below y.val.heap.size y.val w') := fun y => (HV1.out.below (nx hb2 y.below)).calls [] (fun x hx hr => hx ▸ mailValid_any 50 x _ (HEN.out.below (nx hb2 y.below)) hr (by omega))
    have HMV2 : Hid (∀ y : BelowT w2, Calls Tryd.prog 8 #[.agg #[.string s2, .slice a2 n2 c2, .slice b2 k2 d2]] y.val fun e w' => e = .returned (.bool (isMail m2)) ∧ Below y.val.heap.size y.val w') := fun y => (HV2.out.below (nx hb2 y.below)).calls [] (fun x hx hr => hx ▸ mailValid_any 50 x _ (HEN.out.below (nx hb2 y.below)) hr (by omega))
    have q0 : ∀ y : BelowT w2, y.val.cell? ⟨w1.heap.size, 0, none⟩ = _ := fun y => (HK1.out.below (nx hb2 y.below)).1
    have q1 : ∀ y : BelowT w2, y.val.cell? ⟨w1.heap.size, 1, none⟩ = _ := fun y => (HK1.out.below (nx hb2 y.below)).2.1
    have q2 : ∀ y : BelowT w2, y.val.cell? ⟨w1.heap.size, 2, none⟩ = _ := fun y => (HK1.out.below (nx hb2 y.below)).2.2
    have r0 : ∀ y : BelowT w2, y.val.cell? ⟨w1.heap.size + 1, 0, none⟩ = _ := fun y => (HK2.out.below (nx hb2 y.below)).1
    have r1 : ∀ y : BelowT w2, y.val.cell? ⟨w1.heap.size + 1, 1, none⟩ = _ := fun y => (HK2.out.below (nx hb2 y.below)).2.1
    have r2 : ∀ y : BelowT w2, y.val.cell? ⟨w1.heap.size + 1, 2, none⟩ = _ := fun y => (HK2.out.below (nx hb2 y.below)).2.2
    have HBB := Lib.hid (nx hbA hb2)
    clear y0 y1 y2 x0 x1 x2 U1 U2
    by_cases hq : m1 = m2
    · have HVE : Hid (isMail m2 = isMail m1) := by show _ = _; rw [hq]
      rw [HVE.out] at HMV2
      rw [decide_eq_true hq] at *
      clear hq HVE
      generalize isMail m1 = v at *
      have hvv : (v == v) = true := by simp
      go_wp2_with fail
      refine wp_region_quietB (W := w2) (by kernel_rfl) (by kernel_rfl) (Below.refl _ _) ?_
      repeat (go_big_quiet_step (fail))
      (go_big_quiet_step ((go_at_call 13; exact calls_belowT (HS12.out _))))
      repeat (go_big_quiet_step (fail))
      (go_big_quiet_step ((go_at_call 12; exact calls_belowT (HS21.out _))))
      repeat (go_big_quiet_step (fail))
      (go_big_quiet_step ((go_at_call 12; exact calls_belowT (HS11.out _))))
      repeat (go_big_quiet_step (fail))
      (go_big_quiet_step ((go_at_call 8; exact calls_belowT (HMV1.out _))))
      repeat (go_big_quiet_step (fail))
      (go_big_quiet_step ((go_at_call 8; exact calls_belowT (HMV2.out _))))
      repeat (go_big_quiet_step (fail))
      refine wpQuiet_nil ?_
      intro wz hwz
      obtain ⟨x9, rfl⟩ := hwz
      have hbx := nx HBB.out x9.below
      clear q0 q1 q2 r0 r1 r2
      generalize x9.val = w9 at *
      go_wp2
      go_ret
      exact ⟨rfl, hbx⟩
    · rw [decide_eq_false hq] at *
      clear hq
      go_wp2_with fail
      refine wp_region_quietB (W := w2) (by kernel_rfl) (by kernel_rfl) (Below.refl _ _) ?_
      repeat (go_big_quiet_step (fail))
      (go_big_quiet_step ((go_at_call 13; exact calls_belowT (HS12.out _))))
      repeat (go_big_quiet_step (fail))
      (go_big_quiet_step ((go_at_call 12; exact calls_belowT (HS21.out _))))
      repeat (go_big_quiet_step (fail))
      (go_big_quiet_step ((go_at_call 12; exact calls_belowT (HS11.out _))))
      repeat (go_big_quiet_step (fail))
      refine wpQuiet_nil ?_
      intro wz hwz
      obtain ⟨x9, rfl⟩ := hwz
      have hbx := nx HBB.out x9.below
      clear q0 q1 q2 r0 r1 r2
      generalize x9.val = w9 at *
      go_wp2
      go_ret
      exact ⟨rfl, hbx⟩
end Go.Proofs.YtdddmclhafbfoaaDoor
