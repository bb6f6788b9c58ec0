/-
  The law of chapter 7 that equality of kinds is structural: its walk. For every input of the law: it returns true, and the input reads as it did. Conditions: none but the statement's own.
-/
import Derived.Test.YtfheajfcepcepaaDoorLaw0
import Derived.Test.YtfheajfcepcepaaDoorZip
namespace Go.Proofs.YtfheajfcepcepaaDoor
open Go.ChangeShapes Go.WideShapes Go.ChangeAt Go.RowKit
open Go.ChangeMaps (open_string shut_string)

set_option maxRecDepth 100000 in
set_option maxHeartbeats 2000000 in
theorem fnKindSame_walk (a : Option Addr) (n c : Nat) (w : World) (tab : Tab w) (hc : Code w a n) (hnc : n ≤ c) (hm : c ≤ maxLen) :
    Calls Tryd.prog 5 #[.slice a n c] w fun e w' => e = .returned (.bool true) ∧ Below w.heap.size w w' := by
  have hm' := hm
  unfold maxLen at hm'
  by_cases hn : 1048576 < n
  · have hd : decide ((1048576 : Int) < n) = true := by simp; omega
    go_enter Tryd.func5, Tryd.ntmps5
    go_wp2
    go_ret
    exact ⟨rfl, Below.refl _ _⟩
  have hd : decide ((1048576 : Int) < n) = false := by simp; omega
  go_enter Tryd.func5, Tryd.ntmps5
  go_wp2_with fail
  refine (drawKindSame_any a n c w hc hnc hm).mono ?_
  rintro e w1 ⟨k, ak, dk, q, aq, dq, rfl, hok, hoq, hnk, hnq, hsk, hsq, hb1⟩
  rw [kndV_agg, kndV_agg]
  have HK := Lib.hid (RdK.own hok (smallK2_of hsk (by omega) (by omega)))
  have HQ := Lib.hid (RdK.own hoq (smallK2_of hsq (by omega) (by omega)))
  have tab1 := tab.below hb1
  have hnk2 : k.params.length ≤ 4 := hnk
  have hnq2 : q.params.length ≤ 4 := hnq
  have HS1 : Hid (∀ u, Below w1.heap.size w1 u → Calls Tryd.prog 15 #[.agg #[.string (str k.main), .string (str k.sub), .slice ak k.params.length dk], .agg #[.string (str q.main), .string (str q.sub), .slice aq q.params.length dq]] u fun e w' => e = .returned (.bool (decide (k = q))) ∧ Below u.heap.size u w') := fun u h => kindSame_k u (HK.out.below h) (HQ.out.below h)
  have HS2 : Hid (∀ u, Below w1.heap.size w1 u → Calls Tryd.prog 24 #[.agg #[.string (str k.main), .string (str k.sub), .slice ak k.params.length dk], .agg #[.string (str q.main), .string (str q.sub), .slice aq q.params.length dq]] u fun e w' => e = .returned (.bool (decide (k = q))) ∧ Below u.heap.size u w') := fun u h => kindSameS_k u (HK.out.below h) (HQ.out.below h)
  have HS3 : Hid (∀ u, Below w1.heap.size w1 u → Calls Tryd.prog 15 #[.agg #[.string (str q.main), .string (str q.sub), .slice aq q.params.length dq], .agg #[.string (str k.main), .string (str k.sub), .slice ak k.params.length dk]] u fun e w' => e = .returned (.bool (decide (k = q))) ∧ Below u.heap.size u w') := fun u h => by
    have := kindSame_k u (HQ.out.below h) (HK.out.below h)
    rw [show decide (q = k) = decide (k = q) from decide_eq_decide.2 eq_comm] at this; exact this
  have HS4 : Hid (∀ u, Below w1.heap.size w1 u → Calls Tryd.prog 15 #[.agg #[.string (str k.main), .string (str k.sub), .slice ak k.params.length dk], .agg #[.string (str k.main), .string (str k.sub), .slice ak k.params.length dk]] u fun e w' => e = .returned (.bool true) ∧ Below u.heap.size u w') := fun u h => by
    have := kindSame_k u (HK.out.below h) (HK.out.below h)
    rw [decide_eq_true (rfl : k = k)] at this; exact this
  have HF1 : Hid (∀ u, Below w1.heap.size w1 u → Calls Tryd.prog 10 #[.agg #[.string (str k.main), .string (str k.sub), .slice ak k.params.length dk]] u fun e w' => e = .returned (.string (str (fmtK k))) ∧ Below u.heap.size u w') := fun u h => formatKind_k u (tab1.below h) (HK.out.below h)
  have HF2 : Hid (∀ u, Below w1.heap.size w1 u → Calls Tryd.prog 10 #[.agg #[.string (str q.main), .string (str q.sub), .slice aq q.params.length dq]] u fun e w' => e = .returned (.string (str (fmtK q))) ∧ Below u.heap.size u w') := fun u h => formatKind_k u (tab1.below h) (HQ.out.below h)
  have HE : Hid (decide (k = q) = true → str (fmtK q) = str (fmtK k)) := fun h => by rw [of_decide_eq_true h]
  clear hok hoq hsk hsq tab tab1 hnk hnq
  generalize decide (k = q) = b at *
  generalize str (fmtK k) = FK at *
  generalize str (fmtK q) = FQ at *
  generalize k.params.length = nk at *
  generalize q.params.length = nq at *
  generalize str k.main = M1 at *
  generalize str k.sub = S1 at *
  generalize str q.main = M2 at *
  generalize str q.sub = S2 at *
  have hb2 : Below w1.heap.size w1 ((w1.alloc (.cells #[.string M1, .string S1, .slice ak nk dk] 25)).alloc (.cells #[.string M2, .string S2, .slice aq nq dq] 25)) := ((Below.refl _ _).alloc (Nat.le_refl _) _).alloc (by simp) _
  have HP1 : Hid (KK3 ((w1.alloc (.cells #[.string M1, .string S1, .slice ak nk dk] 25)).alloc (.cells #[.string M2, .string S2, .slice aq nq dq] 25)) w1.heap.size (.string M1) (.string S1) (.slice ak nk dk)) := (KK3.new w1 _ _ _ _).below ((Below.refl _ _).alloc (Nat.le_refl _) _)
  have HP2 : Hid (KK3 ((w1.alloc (.cells #[.string M1, .string S1, .slice ak nk dk] 25)).alloc (.cells #[.string M2, .string S2, .slice aq nq dq] 25)) (w1.heap.size + 1) (.string M2) (.string S2) (.slice aq nq dq)) := by
    show KK3 _ _ _ _ _
    have := KK3.new (w1.alloc (.cells #[.string M1, .string S1, .slice ak nk dk] 25)) (.string M2) (.string S2) (.slice aq nq dq) 25
    simpa using this
  obtain ⟨y0, y1, y2⟩ := HP1.out
  obtain ⟨z0, z1, z2⟩ := HP2.out
  go_wp2_with fail
  generalize hW2 : (w1.alloc (.cells #[.string M1, .string S1, .slice ak nk dk] 25)).alloc (.cells #[.string M2, .string S2, .slice aq nq dq] 25) = W2 at *
  clear hW2 y0 y1 y2 z0 z1 z2
  refine (HS1.out _ hb2).mono ?_
  rintro e w3 ⟨rfl, hb3⟩
  have hb13 := nx hb2 hb3
  have HP13 := Lib.hid (HP1.out.below hb3)
  have HP23 := Lib.hid (HP2.out.below hb3)
  have y0 := fun (y : BelowT w3) => (HP13.out.below y.below).1
  have y1 := fun (y : BelowT w3) => (HP13.out.below y.below).2.1
  have y2 := fun (y : BelowT w3) => (HP13.out.below y.below).2.2
  have z0 := fun (y : BelowT w3) => (HP23.out.below y.below).1
  have z1 := fun (y : BelowT w3) => (HP23.out.below y.below).2.1
  have z2 := fun (y : BelowT w3) => (HP23.out.below y.below).2.2
  cases b
  · clear HE
    go_wp2_with fail
    refine wp_region_quietB (W := w3) (by kernel_rfl) (by kernel_rfl) (Below.refl _ _) ?_
    repeat (go_big_quiet_step ((go_at_call 24; exact calls_belowT (HS2.out _ (nx hb13 (BelowT.below _))))))
    go_big_quiet_step ((go_at_call 15; exact calls_belowT (HS3.out _ (nx hb13 (BelowT.below _)))))
    repeat (go_big_quiet_step (fail))
    go_big_quiet_step ((go_at_call 15; exact calls_belowT (HS4.out _ (nx hb13 (BelowT.below _)))))
    repeat (go_big_quiet_step (fail))
    refine wpQuiet_nil ?_
    intro wz hwz
    obtain ⟨x9, rfl⟩ := hwz
    have hbx := nx hb1 (nx hb13 x9.below)
    clear y0 y1 y2 z0 z1 z2
    generalize x9.val = w9 at *
    go_wp2
    go_ret
    exact ⟨rfl, hbx⟩
  · have hFQ := HE.out rfl
    subst hFQ
    have e0 : (FQ.toList == FQ.toList) = true := by simp
    go_wp2_with fail
    refine wp_region_quietB (W := w3) (by kernel_rfl) (by kernel_rfl) (Below.refl _ _) ?_
    repeat (go_big_quiet_step ((go_at_call 24; exact calls_belowT (HS2.out _ (nx hb13 (BelowT.below _))))))
    go_big_quiet_step ((go_at_call 15; exact calls_belowT (HS3.out _ (nx hb13 (BelowT.below _)))))
    repeat (go_big_quiet_step (fail))
    go_big_quiet_step ((go_at_call 15; exact calls_belowT (HS4.out _ (nx hb13 (BelowT.below _)))))
    repeat (go_big_quiet_step (fail))
    go_big_quiet_step ((go_at_call 10; exact calls_belowT (HF1.out _ (nx hb13 (BelowT.below _)))))
    repeat (go_big_quiet_step (fail))
    go_big_quiet_step ((go_at_call 10; exact calls_belowT (HF2.out _ (nx hb13 (BelowT.below _)))))
    repeat (go_big_quiet_step (fail))
    refine wpQuiet_nil ?_
    intro wz hwz
    obtain ⟨x9, rfl⟩ := hwz
    have hbx := nx hb1 (nx hb13 x9.below)
    clear y0 y1 y2 z0 z1 z2
    generalize x9.val = w9 at *
    go_wp2
    go_ret
    exact ⟨rfl, hbx⟩
end Go.Proofs.YtfheajfcepcepaaDoor
