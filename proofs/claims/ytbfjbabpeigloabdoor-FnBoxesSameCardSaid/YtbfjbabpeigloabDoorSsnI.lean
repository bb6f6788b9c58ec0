/-
  Sessions: what the program's function that tests them returns. No statement is proved here.
-/
import Derived.Test.YtbfjbabpeigloabDoorSsnB
import Derived.Test.YtbfjbabpeigloabDoorMalI
namespace Go.Proofs.YtbfjbabpeigloabDoor
open Go.RowKit

def hostB (z0 z5 e D : Bool) : Bool := cond e (z0 || z5) (!z0 && D)
theorem hostOk_b (S : Ssn) : hostOk S = hostB (decide (S.state = 0)) (decide (S.state = 5)) (decide (S.host = [])) (isDomain S.host) := by
  unfold hostOk hostB
  by_cases h : S.host = []
  · rw [if_pos h, decide_eq_true h]; rfl
  · rw [if_neg h, decide_eq_false h]; rfl
def fitSs (z2 z3 z4 f p q : Bool) : Bool := ((z2 || z3 || z4) || f) && ((z3 || z4) == p) && (z4 || q)
theorem fitOk_b (S : Ssn) : fitOk S = fitSs (decide (S.state = 2)) (decide (S.state = 3)) (decide (S.state = 4)) (decide (S.draft.frm = [])) (decide ((0 : Int) < (S.draft.to.length : Int))) (decide ((S.draft.lines.length : Int) = 0)) := by
  have e1 : decide (0 < S.draft.to.length) = decide ((0 : Int) < (S.draft.to.length : Int)) := decide_eq_decide.2 (by omega)
  have e2 : decide (S.draft.lines.length = 0) = decide ((S.draft.lines.length : Int) = 0) := decide_eq_decide.2 (by omega)
  unfold fitOk fitSs
  rw [e1, e2]
theorem isSsn_b (S : Ssn) : isSsn S = ((decide (0 ≤ S.state) && decide (S.state ≤ 5)) && hostOk S && isDraft S.draft && fitOk S && (decide ((S.done.length : Int) ≤ 5) && S.done.all isMail)) := by
  have e1 : decide (S.done.length ≤ 5) = decide ((S.done.length : Int) ≤ 5) := decide_eq_decide.2 (by omega)
  unfold isSsn
  rw [e1]
theorem ml_bad {xs : List MlA} {k : Nat} (h : k < xs.length) (hp : isMail xs[k].m = false) : (xs.map (·.m)).all isMail = false := by
  rw [List.all_eq_false]; exact ⟨_, List.mem_map.2 ⟨_, List.getElem_mem h, rfl⟩, by simp [hp]⟩
theorem ml_good {xs : List MlA} {n : Nat} (hn : xs.length ≤ n) (h : ∀ j, j < n → (h' : j < xs.length) → isMail xs[j].m = true) : (xs.map (·.m)).all isMail = true := by
  rw [List.all_eq_true]; intro x hx
  obtain ⟨y, hy, rfl⟩ := List.mem_map.1 hx
  obtain ⟨j, hj, rfl⟩ := List.getElem_of_mem hy
  exact h j (by omega) hj
set_option maxRecDepth 100000 in
set_option maxHeartbeats 4000000 in
theorem allValid_mail (M : Nat) (a : Option Addr) (n c : Nat) (xs : List MlA) (w : World) (en : Env w) (hx : xs.length = n) (h1 : RdMs M w a xs) (hM : M ≤ 1073741000) (hn : n ≤ 1073741000) :
    Calls Tryd.prog 65 #[.slice a n c, .func (.func 49) #[] #[]] w fun e w' => e = .returned (.bool ((xs.map (·.m)).all isMail)) ∧ Below w.heap.size w w' := by
  have X1 := Lib.hid h1
  have L1 := Lib.hid hx
  clear h1 hx
  go_enter Tryd.func65, Tryd.ntmps65
  go_wp2_with fail
  go_loopw [9] (fun i wr => ∃ k : Nat, k ≤ n ∧ i = .int .i64 k ∧ Below w.heap.size w wr ∧ ∀ j, j < k → (h' : j < xs.length) → isMail xs[j].m = true) (fun i _ => n - (intOf i).toNat)
  case atStart => exact ⟨0, Nat.zero_le _, rfl, Below.refl _ _, fun j h => by omega⟩
  case round =>
    obtain ⟨k, hk, rfl, hb, hall⟩ := hrel
    have HA := Lib.hid hall
    clear hall
    by_cases hlt : k < n
    · have k1 : k < xs.length := by rw [L1.out]; exact hlt
      obtain ⟨b1, o1, rfl, hb1, p0, p1, p2, p3⟩ := (X1.out.below hb).at k1
      have hkn : (k : Int) < (n : Int) := by omega
      have hk0 : (0 : Int) ≤ (k : Int) := by omega
      have HC : Hid (∀ u, Below wr.heap.size wr u → Calls Tryd.prog 49 #[.agg #[.string (str xs[k].m.frm), .slice xs[k].a1 xs[k].m.to.length xs[k].c1, .slice xs[k].a2 xs[k].m.lines.length xs[k].c2]] u fun e w' => e = .returned (.bool (isMail xs[k].m)) ∧ Below u.heap.size u w') := fun u hu => mailValid_any M xs[k] u (en.below (nx hb hu)) (p3.below hu) hM
      clear p3
      cases hq : isMail xs[k].m
      · have HN : Hid ((xs.map (·.m)).all isMail = false) := ml_bad k1 hq
        rw [hq] at HC
        clear hq
        generalize xs[k] = x at *
        go_wp2_with fail
        refine (HC.out _ ((Below.refl _ _).alloc (Nat.le_refl _) _)).mono ?_
        rintro e w5 ⟨rfl, hb5⟩
        have hbx := nx hb (nx ((Below.refl _ _).alloc (Nat.le_refl _) _) hb5)
        clear p0 p1 p2
        go_wp2
        go_ret
        exact ⟨ret_bool HN.out.symm, hbx⟩
      · have HQ : Hid (∀ j (h' : j < xs.length), j = k → isMail xs[j].m = true) := fun j h' e => by subst e; exact hq
        rw [hq] at HC
        clear hq
        generalize xs[k] = x at *
        go_wp2_with fail
        refine (HC.out _ ((Below.refl _ _).alloc (Nat.le_refl _) _)).mono ?_
        rintro e w5 ⟨rfl, hb5⟩
        have hbx := nx hb (nx ((Below.refl _ _).alloc (Nat.le_refl _) _) hb5)
        clear p0 p1 p2
        go_wp2
        go_roundw
        case rel => exact ⟨k + 1, by omega, by go_num, hbx, fun j h h' => by
          by_cases e : j = k
          · exact HQ.out j h' e
          · exact HA.out j (by omega) h'⟩
        case measure => simp [intOf]; omega
    · have HN : Hid ((xs.map (·.m)).all isMail = true) := ml_good (n := n) (by have := L1.out; omega) (fun j h h' => HA.out j (by omega) h')
      go_wp2
      go_ret
      exact ⟨ret_bool HN.out.symm, hb⟩

end Go.Proofs.YtbfjbabpeigloabDoor
