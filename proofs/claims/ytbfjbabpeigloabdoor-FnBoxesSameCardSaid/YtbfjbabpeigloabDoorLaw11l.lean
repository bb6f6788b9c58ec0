/-
  The law of chapter 11 on equal mailboxes: its walk. For every input of the law: it returns true, and the input reads as it did. Conditions: none but the statement's own.
-/
import Derived.Test.YtbfjbabpeigloabDoorZip3
import Derived.Test.YtbfjbabpeigloabDoorZip2
namespace Go.Proofs.YtbfjbabpeigloabDoor
open Go.ChangeShapes Go.WideShapes Go.ChangeAt Go.RowKit

set_option maxRecDepth 100000 in
set_option maxHeartbeats 4000000 in
theorem fnBoxesSame_walk (a : Option Addr) (n c : Nat) (w : World) (en : Env w) (hc : Code w a n) (hnc : n ≤ c) (hm : c ≤ maxLen) :
    Calls Tryd.prog 7 #[.slice a n c] w fun e w' => e = .returned (.bool true) ∧ Below w.heap.size w w' := by
  have hm' := hm
  unfold maxLen at hm'
  by_cases hn : 1048576 < n
  · have hd : decide ((1048576 : Int) < n) = true := by simp; omega
    go_enter Tryd.func7, Tryd.ntmps7
    go_wp2
    go_ret
    exact ⟨rfl, Below.refl _ _⟩
  · have hd : decide ((1048576 : Int) < n) = false := by simp; omega
    go_enter Tryd.func7, Tryd.ntmps7
    go_wp2_with fail
    refine (drawBoxesSame_any a n c w hc hnc hm).mono ?_
    rintro e w1 ⟨v1, ys, v2, zs, rfl, ho1, ho2, hk1, hk2, hb1⟩
    obtain ⟨a1, c1, rfl, hr1⟩ := ho1.rdB hk1
    obtain ⟨a2, c2, rfl, hr2⟩ := ho2.rdB hk2
    have hl1 : ys.length ≤ 10 := by have := hk1.1; rw [List.length_map] at this; exact this
    have hl2 : zs.length ≤ 10 := by have := hk2.1; rw [List.length_map] at this; exact this
    have hmx : (200 : Nat) ≤ maxLen := by unfold maxLen; omega
    have hm1 : ys.length ≤ maxLen := by unfold maxLen; omega
    have hm2 : zs.length ≤ maxLen := by unfold maxLen; omega
    obtain ⟨q, hq⟩ : ∃ q, q = decide (ys.map BxA.b = zs.map BxA.b) := ⟨_, rfl⟩
    obtain ⟨p1, hp1⟩ : ∃ p, p = isBxs (ys.map BxA.b) := ⟨_, rfl⟩
    obtain ⟨p2, hp2⟩ : ∃ p, p = isBxs (zs.map BxA.b) := ⟨_, rfl⟩
    have hq2 : decide (zs.map BxA.b = ys.map BxA.b) = q := by rw [hq]; exact decide_eq_decide.2 eq_comm
    have HQP : Hid (q = true → p1 = p2) := fun h => by rw [hp1, hp2]; rw [hq] at h; rw [of_decide_eq_true h]
    have HSI : Hid (∀ u, Below w1.heap.size w1 u → Calls Tryd.prog 12 #[.slice a1 ys.length c1, .slice a2 zs.length c2] u fun e w' => e = .returned (.bool q) ∧ Below u.heap.size u w') := fun u hu => hq ▸ boxesSame_any 200 a1 a2 _ c1 _ c2 ys zs u rfl rfl (hr1.below hu) (hr2.below hu) hmx hm1 hm2
    have HSS : Hid (∀ u, Below w1.heap.size w1 u → Calls Tryd.prog 26 #[.slice a1 ys.length c1, .slice a2 zs.length c2] u fun e w' => e = .returned (.bool q) ∧ Below u.heap.size u w') := fun u hu => hq ▸ boxesSameS_any 200 a1 a2 _ c1 _ c2 ys zs u rfl rfl (hr1.below hu) (hr2.below hu) hmx hm1 hm2
    have HSR : Hid (∀ u, Below w1.heap.size w1 u → Calls Tryd.prog 12 #[.slice a2 zs.length c2, .slice a1 ys.length c1] u fun e w' => e = .returned (.bool q) ∧ Below u.heap.size u w') := fun u hu => hq2 ▸ boxesSame_any 200 a2 a1 _ c2 _ c1 zs ys u rfl rfl (hr2.below hu) (hr1.below hu) hmx hm2 hm1
    have HSA : Hid (∀ u, Below w1.heap.size w1 u → Calls Tryd.prog 12 #[.slice a1 ys.length c1, .slice a1 ys.length c1] u fun e w' => e = .returned (.bool true) ∧ Below u.heap.size u w') := fun u hu => by
      have := boxesSame_any 200 a1 a1 _ c1 _ c1 ys ys u rfl rfl (hr1.below hu) (hr1.below hu) hmx hm1 hm1
      rw [decide_eq_true (rfl : ys.map BxA.b = ys.map BxA.b)] at this; exact this
    have HV1 : Hid (∀ u, Below w1.heap.size w1 u → Calls Tryd.prog 14 #[.slice a1 ys.length c1] u fun e w' => e = .returned (.bool p1) ∧ Below u.heap.size u w') := fun u hu => hp1 ▸ boxesValid_any 200 a1 _ c1 ys u (en.below (nx hb1 hu)) rfl (hr1.below hu) (by omega) (by omega)
    have HV2 : Hid (∀ u, Below w1.heap.size w1 u → Calls Tryd.prog 14 #[.slice a2 zs.length c2] u fun e w' => e = .returned (.bool p2) ∧ Below u.heap.size u w') := fun u hu => hp2 ▸ boxesValid_any 200 a2 _ c2 zs u (en.below (nx hb1 hu)) rfl (hr2.below hu) (by omega) (by omega)
    have HVS : Hid (∀ u, Below w1.heap.size w1 u → Calls Tryd.prog 24 #[.slice a2 zs.length c2] u fun e w' => e = .returned (.bool p2) ∧ Below u.heap.size u w') := fun u hu => hp2 ▸ boxesValidS_any 200 a2 _ c2 zs u rfl (hr2.below hu) (by omega) (by omega)
    generalize ys.length = n1 at *
    generalize zs.length = n2 at *
    clear hq hq2 hp1 hp2 hr1 hr2 ho1 ho2 hk1 hk2 hl1 hl2 hm1 hm2 hmx en
    have e2 : (p2 == p2) = true := by simp
    go_wp2_with fail
    refine (HSI.out _ (Below.refl _ _)).mono ?_
    rintro e w2 ⟨rfl, hb2⟩
    go_wp2_with fail
    refine (HSS.out _ hb2).mono ?_
    rintro e w3 ⟨rfl, hb3⟩
    have hb03 := nx hb2 hb3
    clear hb2 hb3 HSI HSS
    cases q
    · clear HQP HV1
      go_wp2_with fail
      refine (HSR.out _ hb03).mono ?_
      rintro e w4 ⟨rfl, hb4⟩
      have hb04 := nx hb03 hb4
      go_wp2_with fail
      refine (HSA.out _ hb04).mono ?_
      rintro e w5 ⟨rfl, hb5⟩
      have hb05 := nx hb04 hb5
      go_wp2_with fail
      refine (HV2.out _ hb05).mono ?_
      rintro e w6 ⟨rfl, hb6⟩
      have hb06 := nx hb05 hb6
      go_wp2_with fail
      refine (HVS.out _ hb06).mono ?_
      rintro e w7 ⟨rfl, hb7⟩
      go_wp2
      go_ret
      exact ⟨rfl, nx hb1 (nx hb06 hb7)⟩
    · have hp := HQP.out rfl
      subst hp
      clear HQP
      go_wp2_with fail
      refine (HSR.out _ hb03).mono ?_
      rintro e w4 ⟨rfl, hb4⟩
      have hb04 := nx hb03 hb4
      go_wp2_with fail
      refine (HSA.out _ hb04).mono ?_
      rintro e w5 ⟨rfl, hb5⟩
      have hb05 := nx hb04 hb5
      go_wp2_with fail
      refine (HV1.out _ hb05).mono ?_
      rintro e w8 ⟨rfl, hb8⟩
      have hb08 := nx hb05 hb8
      go_wp2_with fail
      refine (HV2.out _ hb08).mono ?_
      rintro e w9 ⟨rfl, hb9⟩
      have hb09 := nx hb08 hb9
      go_wp2_with fail
      refine (HV2.out _ hb09).mono ?_
      rintro e w6 ⟨rfl, hb6⟩
      have hb06 := nx hb09 hb6
      go_wp2_with fail
      refine (HVS.out _ hb06).mono ?_
      rintro e w7 ⟨rfl, hb7⟩
      go_wp2
      go_ret
      exact ⟨rfl, nx hb1 (nx hb06 hb7)⟩
end Go.Proofs.YtbfjbabpeigloabDoor
