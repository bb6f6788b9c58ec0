/-
  The law of chapter 11 on parts of a row of mailboxes: its walk. For every input of the law: it returns true, and the input reads as it did. Conditions: none but the statement's own.
-/
import Derived.Test.YtbfjbabpeigloabDoorZip3
import Derived.Test.YtbfjbabpeigloabDoorZip2
import Derived.Test.YtbfjbabpeigloabDoorQuietB
import Derived.Deep.QuietTactic
import Derived.BigQuiet
namespace Go.Proofs.YtbfjbabpeigloabDoor
open Go.ChangeShapes Go.WideShapes Go.ChangeAt Go.RowKit

theorem isBxs_cons {b : Bx} {bs : List Bx} (h : isBxs (b :: bs) = true) : isBxs bs = true := by
  unfold isBxs at h
  simp only [Bool.and_eq_true, decide_eq_true_eq, List.length_cons, List.all_cons] at h
  refine isBxs_yes (by omega) h.2.1.2 ?_
  cases bs with
  | nil => rfl
  | cons c r =>
    have h2 := h.2.2
    rw [upBx, Bool.and_eq_true] at h2
    exact h2.2
theorem heldB_cons {b : Bx} {bs : List Bx} (h : isBxs (b :: bs) = true) : heldB (b :: bs) = b.mails.length + heldB bs := by
  unfold heldB
  rw [if_pos h, if_pos (isBxs_cons h)]
  unfold heldL
  rw [List.map_cons, List.sum_cons]
theorem RdBs.tail {M b off : Nat} {w : World} {y : BxA} {ys : List BxA} (h : RdBs M w (some ⟨b, off, none⟩) (y :: ys)) : RdBs M w (some ⟨b, off + 2, none⟩) ys := by
  refine ⟨?_, fun x hx => h.2 x (List.mem_cons_of_mem _ hx)⟩
  obtain ⟨_, h0 | ⟨b', off', e, hb, hc⟩⟩ := h.1
  · cases h0
  · injection e with e; injection e with e1 e2 _
    subst e1 e2
    exact ⟨rfl, .inr ⟨b, off + 2, rfl, hb, fun i hi d v hd => by
      have := hc (i + 1) (by rw [List.length_cons]; omega) d v (by rw [List.getElem_cons_succ]; exact hd)
      rw [show off + (i + 1) * 2 + d = off + 2 + i * 2 + d by omega] at this; exact this⟩⟩
set_option maxRecDepth 100000 in
set_option maxHeartbeats 4000000 in
theorem fnBoxesPart_walk (a : Option Addr) (n c : Nat) (w : World) (en : Env w) (hc : Code w a n) (hnc : n ≤ c) (hm : c ≤ maxLen) :
    Calls Tryd.prog 6 #[.slice a n c] w fun e w' => e = .returned (.bool true) ∧ Below w.heap.size w w' := by
  have hm' := hm
  unfold maxLen at hm'
  by_cases hn : 1048576 < n
  · have hd : decide ((1048576 : Int) < n) = true := by simp; omega
    go_enter Tryd.func6, Tryd.ntmps6
    go_wp2
    go_ret
    exact ⟨rfl, Below.refl _ _⟩
  · have hd : decide ((1048576 : Int) < n) = false := by simp; omega
    go_enter Tryd.func6, Tryd.ntmps6
    go_wp2_with fail
    refine (drawBoxesValid_any a n c w hc hnc hm).mono ?_
    rintro e w1 ⟨v1, ys, rfl, ho1, hk1, hb1⟩
    obtain ⟨a1, c1, rfl, hr1⟩ := ho1.rdB hk1
    have HV1 : Hid (∀ u, Below w1.heap.size w1 u → Calls Tryd.prog 14 #[.slice a1 ys.length c1] u fun e w' => e = .returned (.bool (isBxs (ys.map BxA.b))) ∧ Below u.heap.size u w') := fun u hu => boxesValid_any 200 a1 ys.length c1 ys u (en.below (nx hb1 hu)) rfl (hr1.below hu) (by omega) (by have := hk1.1; rw [List.length_map] at this; omega)
    have HS1 : Hid (∀ u, Below w1.heap.size w1 u → Calls Tryd.prog 24 #[.slice a1 ys.length c1] u fun e w' => e = .returned (.bool (isBxs (ys.map BxA.b))) ∧ Below u.heap.size u w') := fun u hu => boxesValidS_any 200 a1 ys.length c1 ys u rfl (hr1.below hu) (by omega) (by have := hk1.1; rw [List.length_map] at this; omega)
    have HC1 : Hid (∀ u, Below w1.heap.size w1 u → Calls Tryd.prog 15 #[.slice a1 ys.length c1] u fun e w' => e = .returned (.int .i64 (heldB (ys.map BxA.b))) ∧ Below u.heap.size u w') := fun u hu => countHeld_any 200 a1 ys.length c1 ys u (en.below (nx hb1 hu)) rfl (hr1.below hu) (by omega) (by have := hk1.1; rw [List.length_map] at this; omega)
    have HO1 := Lib.hid ho1
    have HR1 := Lib.hid hr1
    have HYL : Hid (ys.length ≤ 10) := by have := hk1.1; rw [List.length_map] at this; exact this
    have HEN := Lib.hid en
    clear ho1 hk1 hr1 en
    obtain ⟨ok, hok⟩ : ∃ ok, ok = isBxs (ys.map BxA.b) := ⟨_, rfl⟩
    rw [← hok] at HV1 HS1
    have hne : (ok != ok) = false := by simp
    have heq : (ok == ok) = true := by simp
    have HOK := Lib.hid hok
    clear hok
    go_wp2_with fail
    refine (HV1.out _ (Below.refl _ _)).mono ?_
    rintro e w2 ⟨rfl, hb2⟩
    cases hok2 : ok
    · subst hok2
      go_wp2_with fail
      refine (HS1.out _ hb2).mono ?_
      rintro e w3 ⟨rfl, hb3⟩
      have hb03 := nx hb2 hb3
      go_wp2_with fail
      refine (HS1.out _ hb03).mono ?_
      rintro e w4 ⟨rfl, hb4⟩
      go_wp2
      go_ret
      exact ⟨rfl, nx hb1 (nx hb03 hb4)⟩
    · subst hok2
      cases ys with
      | nil =>
        go_wp2_with fail
        refine (HS1.out _ hb2).mono ?_
        rintro e w3 ⟨rfl, hb3⟩
        have hb03 := nx hb2 hb3
        go_wp2_with fail
        refine (HS1.out _ hb03).mono ?_
        rintro e w4 ⟨rfl, hb4⟩
        go_wp2
        go_ret
        exact ⟨rfl, nx hb1 (nx hb03 hb4)⟩
      | cons y ys =>
        have HT : Hid (isBxs ((y :: ys).map BxA.b) = true) := HOK.out.symm
        obtain ⟨g, rfl⟩ : ∃ g, a1 = some ⟨g, 0, none⟩ := by
          rcases HO1.out.1.2 with ⟨_, h0⟩ | ⟨g, cap, cur, hv, _⟩
          · cases h0
          · injection hv with e1 _ _; exact ⟨g, e1⟩
        have hcc : ys.length + 1 ≤ c1 := by
          obtain ⟨a', c', e', _, _, h4⟩ := HO1.out.1.read bxC_len
          injection e' with _ _ e3
          rw [e3]; exact h4
        obtain ⟨⟨p0, p1⟩, _⟩ := rowB_cells (k := 0) (y := y) HO1.out.1 (by simp) rfl
        have hg := lt_of_cell p1
        have HLT : Hid (isBxs (ys.map BxA.b) = true) := isBxs_cons HT.out
        have HHD : Hid (heldB ((y :: ys).map BxA.b) = y.xs.length + heldB (ys.map BxA.b)) := by
          show _ = _
          have := heldB_cons (b := y.b) (bs := ys.map BxA.b) HT.out
          rw [List.map_cons, this]; unfold BxA.b; rw [List.length_map]
        obtain ⟨AT, hAT⟩ : ∃ AT, (if c1 = 1 then some (⟨g, 0, none⟩ : Addr) else some ⟨g, 2, none⟩) = AT := ⟨_, rfl⟩
        have HRT : Hid (RdBs 200 w1 AT ys) := by
          show RdBs _ _ _ _
          rw [← hAT]
          split
          · have h0 : ys.length = 0 := by omega
            exact ⟨⟨rfl, .inl h0⟩, fun x hx => by rw [List.length_eq_zero_iff.1 h0] at hx; cases hx⟩
          · exact RdBs.tail (off := 0) HR1.out
        have HVT : Hid (∀ u, Below w1.heap.size w1 u → Calls Tryd.prog 14 #[.slice AT ys.length (c1 - 1)] u fun e w' => e = .returned (.bool true) ∧ Below u.heap.size u w') := fun u hu => by
          have := boxesValid_any 200 AT ys.length (c1 - 1) ys u (HEN.out.below (nx hb1 hu)) rfl (HRT.out.below hu) (by omega) (by have := HYL.out; rw [List.length_cons] at this; omega)
          rw [HLT.out] at this; exact this
        have HCT : Hid (∀ u, Below w1.heap.size w1 u → Calls Tryd.prog 15 #[.slice AT ys.length (c1 - 1)] u fun e w' => e = .returned (.int .i64 (heldB (ys.map BxA.b))) ∧ Below u.heap.size u w') := fun u hu => countHeld_any 200 AT ys.length (c1 - 1) ys u (HEN.out.below (nx hb1 hu)) rfl (HRT.out.below hu) (by omega) (by have := HYL.out; rw [List.length_cons] at this; omega)
        have HCW : Hid (∀ u, Below w1.heap.size w1 u → Calls Tryd.prog 15 #[.slice (some ⟨g, 0, none⟩) (ys.length + 1) c1] u fun e w' => e = .returned (.int .i64 ((y.xs.length + heldB (ys.map BxA.b) : Nat) : Int)) ∧ Below u.heap.size u w') := fun u hu => by
          have := HC1.out u hu
          rw [HHD.out] at this; exact this
        have HM : Hid (y.xs.length ≤ 4 ∧ heldB (ys.map BxA.b) ≤ 1000000) := by
          have h4 := bxs_mails HT.out
          refine ⟨by have := h4.2 y.b (by simp); unfold BxA.b at this; rwa [List.length_map] at this, ?_⟩
          have hl := bxs_mails HLT.out
          have := heldL_le (bs := ys.map BxA.b) hl.2
          unfold heldB
          rw [if_pos HLT.out]
          omega
        have HS2 : Hid (∀ u, Below w1.heap.size w1 u → Calls Tryd.prog 24 #[.slice (some ⟨g, 0, none⟩) (ys.length + 1) c1] u fun e w' => e = .returned (.bool true) ∧ Below u.heap.size u w') := HS1.out
        have e00 : ((ys.length + 1 : Nat) : Int) = (ys.length : Int) + 1 := by omega
        rw [List.length_cons] at *
        generalize heldB (ys.map BxA.b) = H at *
        generalize hYN : ys.length = N at *
        generalize hYM : y.xs.length = L at *
        clear HC1 HS1 HV1 HO1 HR1 HRT HOK HHD hYN hYM
        go_wp2_with fail
        refine (HS2.out _ hb2).mono ?_
        rintro e w3 ⟨rfl, hb3⟩
        have hb03 := nx hb2 hb3
        have hn0 : (((N + 1 : Nat) : Int) == 0) = false := by rw [beq_eq_false_iff_ne]; omega
        go_wp2_with fail
        have q1 : ∀ x : BelowT w3, x.val.cell? ⟨g, 1, none⟩ = some (.slice y.a L y.c) := fun x => by
          rw [below_at (nx hb03 x.below) hg]; exact p1
        refine wp_region_quietB (W := w3) (by kernel_rfl) (by kernel_rfl) (Below.refl _ _) ?_
        repeat (go_big_quiet_step (fail))
        go_big_quiet_step ((go_at_call 14; exact calls_belowT (HVT.out _ (nx hb03 (BelowT.below _)))))
        repeat (go_big_quiet_step (fail))
        go_big_quiet_step ((go_at_call 15; exact calls_belowT (HCT.out _ (nx hb03 (BelowT.below _)))))
        repeat (go_big_quiet_step (fail))
        go_big_quiet_step ((go_at_call 15; exact calls_belowT (HCW.out _ (nx hb03 (BelowT.below _)))))
        repeat (go_big_quiet_step (fail))
        refine wpQuiet_nil ?_
        intro wz hwz
        obtain ⟨x9, rfl⟩ := hwz
        have hb9 := nx hb1 (nx hb03 x9.below)
        clear p0 p1 q1
        generalize x9.val = w9 at *
        have hw : ((H : Int) == wrap64 ((L : Int) + H - L)) = true := by
          have := HM.out
          rw [show (L : Int) + H - L = H by omega, IntWalk.wrap64_in _ (by omega)]
          simp
        go_wp2
        go_ret
        exact ⟨ret_bool hw, hb9⟩
end Go.Proofs.YtbfjbabpeigloabDoor
