/-
  Several texts in one. No statement is proved here.
-/
import Derived.Test.YtfiaankfmdpmkaaDoorSsnB
import Derived.Test.YtfiaankfmdpmkaaDoorMalI
import Derived.Test.YtfiaankfmdpmkaaDoorBox
import Derived.Test.YtfiaankfmdpmkaaDoorQuietB
import Derived.Deep.QuietTactic
import Derived.BigQuiet
import Derived.Test.YtfiaankfmdpmkaaDoorParse
import Derived.Test.YtfiaankfmdpmkaaDoorSplit
import Derived.Test.YtfiaankfmdpmkaaDoorAddr2
import Derived.Deep.RegionWith
import Derived.Test.YtfiaankfmdpmkaaDoorMal
import Derived.Deep.RegionHeld3
section
namespace Go.Proofs.YtfiaankfmdpmkaaDoor
open Go.RowKit

def hostB (z0 z5 e D : Bool) : Bool := cond e (z0 || z5) (!z0 && D)
theorem hostOk_b (S : Ssn) : hostOk S = hostB (decide (S.state = 0)) (decide (S.state = 5)) (decide (S.host = [])) (isDomain S.host) := by
  unfold hostOk hostB
  by_cases h : S.host = []
  · rw [if_pos h, decide_eq_true h]; rfl
  · rw [if_neg h, decide_eq_false h]; rfl
def fitB (z2 z3 z4 f p q : Bool) : Bool := ((z2 || z3 || z4) || f) && ((z3 || z4) == p) && (z4 || q)
theorem fitOk_b (S : Ssn) : fitOk S = fitB (decide (S.state = 2)) (decide (S.state = 3)) (decide (S.state = 4)) (decide (S.draft.frm = [])) (decide ((0 : Int) < (S.draft.to.length : Int))) (decide ((S.draft.lines.length : Int) = 0)) := by
  have e1 : decide (0 < S.draft.to.length) = decide ((0 : Int) < (S.draft.to.length : Int)) := decide_eq_decide.2 (by omega)
  have e2 : decide (S.draft.lines.length = 0) = decide ((S.draft.lines.length : Int) = 0) := decide_eq_decide.2 (by omega)
  unfold fitOk fitB
  rw [e1, e2]
theorem isSsn_b (S : Ssn) : isSsn S = ((decide (0 ≤ S.state) && decide (S.state ≤ 5)) && hostOk S && isDraft S.draft && fitOk S && (decide ((S.done.length : Int) ≤ 5) && S.done.all isMail)) := by
  have e1 : decide (S.done.length ≤ 5) = decide ((S.done.length : Int) ≤ 5) := decide_eq_decide.2 (by omega)
  unfold isSsn
  rw [e1]
theorem ml_bad {xs : List MlA} {k : Nat} (h : k < xs.length) (hp : isMail xs[k].m = false) : (xs.map (·.m)).all isMail = false := by
  rw [List.all_eq_false]; exact ⟨_, List.mem_map.2 ⟨_, List.getElem_mem h, rfl⟩, by simp [hp]⟩
theorem ml_good {xs : List MlA} {n : Nat} (hn : xs.length ≤ n) (h : ∀ j, j < n → (h' : j < xs.length) → isMail xs[j].m = true) : (xs.map (·.m)).all isMail = true := by
  rw [List.all_eq_true]; intro x hx
  obtain ⟨y, hy, rfl⟩ := List.mem_map.1 hx
  obtain ⟨j, hj, rfl⟩ := List.getElem_of_mem hy
  exact h j (by omega) hj
set_option maxRecDepth 100000 in
set_option maxHeartbeats 4000000 in
theorem allValid_mail (M : Nat) (a : Option Addr) (n c : Nat) (xs : List MlA) (w : World) (en : Env w) (hx : xs.length = n) (h1 : RdMs M w a xs) (hM : M ≤ 1073741000) (hn : n ≤ 1073741000) :
    Calls Tryd.prog 56 #[.slice a n c, .func (.func 39) #[] #[]] w fun e w' => e = .returned (.bool ((xs.map (·.m)).all isMail)) ∧ Below w.heap.size w w' := by
  have X1 := Lib.hid h1
  have L1 := Lib.hid hx
  clear h1 hx
  go_enter Tryd.func56, Tryd.ntmps56
  go_wp2_with fail
  go_loopw [9] (fun i wr => ∃ k : Nat, k ≤ n ∧ i = .int .i64 k ∧ Below w.heap.size w wr ∧ ∀ j, j < k → (h' : j < xs.length) → isMail xs[j].m = true) (fun i _ => n - (intOf i).toNat)
  case atStart => exact ⟨0, Nat.zero_le _, rfl, Below.refl _ _, fun j h => by omega⟩
  case round =>
    obtain ⟨k, hk, rfl, hb, hall⟩ := hrel
    have HA := Lib.hid hall
    clear hall
    by_cases hlt : k < n
    · have k1 : k < xs.length := by rw [L1.out]; exact hlt
      obtain ⟨b1, o1, rfl, hb1, p0, p1, p2, p3⟩ := (X1.out.below hb).at k1
      have hkn : (k : Int) < (n : Int) := by omega
      have hk0 : (0 : Int) ≤ (k : Int) := by omega
      have HC : Hid (∀ u, Below wr.heap.size wr u → Calls Tryd.prog 39 #[.agg #[.string (str xs[k].m.frm), .slice xs[k].a1 xs[k].m.to.length xs[k].c1, .slice xs[k].a2 xs[k].m.lines.length xs[k].c2]] u fun e w' => e = .returned (.bool (isMail xs[k].m)) ∧ Below u.heap.size u w') := fun u hu => mailValid_any M xs[k] u (en.below (nx hb hu)) (p3.below hu) hM
      clear p3
      cases hq : isMail xs[k].m
      · have HN : Hid ((xs.map (·.m)).all isMail = false) := ml_bad k1 hq
        rw [hq] at HC
        clear hq
        generalize xs[k] = x at *
        go_wp2_with fail
        refine (HC.out _ ((Below.refl _ _).alloc (Nat.le_refl _) _)).mono ?_
        rintro e w5 ⟨rfl, hb5⟩
        have hbx := nx hb (nx ((Below.refl _ _).alloc (Nat.le_refl _) _) hb5)
        clear p0 p1 p2
        go_wp2
        go_ret
        exact ⟨ret_bool HN.out.symm, hbx⟩
      · have HQ : Hid (∀ j (h' : j < xs.length), j = k → isMail xs[j].m = true) := fun j h' e => by subst e; exact hq
        rw [hq] at HC
        clear hq
        generalize xs[k] = x at *
        go_wp2_with fail
        refine (HC.out _ ((Below.refl _ _).alloc (Nat.le_refl _) _)).mono ?_
        rintro e w5 ⟨rfl, hb5⟩
        have hbx := nx hb (nx ((Below.refl _ _).alloc (Nat.le_refl _) _) hb5)
        clear p0 p1 p2
        go_wp2
        go_roundw
        case rel => exact ⟨k + 1, by omega, by go_num, hbx, fun j h h' => by
          by_cases e : j = k
          · exact HQ.out j h' e
          · exact HA.out j (by omega) h'⟩
        case measure => simp [intOf]; omega
    · have HN : Hid ((xs.map (·.m)).all isMail = true) := ml_good (n := n) (by have := L1.out; omega) (fun j h h' => HA.out j (by omega) h')
      go_wp2
      go_ret
      exact ⟨ret_bool HN.out.symm, hb⟩

end Go.Proofs.YtfiaankfmdpmkaaDoor
end

section
namespace Go.Proofs.YtfiaankfmdpmkaaDoor
open Go.RowKit

def isBx (b : Bx) : Bool := isPath b.path && (decide (b.mails.length ≤ 4) && b.mails.all isMail)
/-- Two paths in order. -/
def ltP (a b : List UInt8) : Bool := Op.bytesLess (str a).toList (str b).toList
def upBx : List Bx → Bool
  | [] => true
  | [_] => true
  | a :: b :: bs => ltP a.path b.path && upBx (b :: bs)
def isBxs (bs : List Bx) : Bool := decide (bs.length ≤ 8) && (bs.all isBx && upBx bs)
theorem upBx_iff : ∀ bs : List Bx, upBx bs = true ↔ ∀ i, (h : i + 1 < bs.length) → ltP bs[i].path bs[i + 1].path = true
  | [] => by simp [upBx]
  | [a] => by simp [upBx]
  | a :: b :: bs => by
    rw [upBx, Bool.and_eq_true, upBx_iff (b :: bs)]
    constructor
    · rintro ⟨h1, h2⟩ i hi
      cases i with
      | zero => exact h1
      | succ i => exact h2 i (by simp at hi ⊢; omega)
    · intro h
      exact ⟨h 0 (by simp), fun i hi => h (i + 1) (by simp at hi ⊢; omega)⟩
theorem up_bad {bs : List Bx} {i : Nat} (h : i + 1 < bs.length) (hp : ltP bs[i].path bs[i + 1].path = false) : upBx bs = false := by
  rw [Bool.eq_false_iff]; intro h'
  rw [(upBx_iff bs).1 h' i h] at hp; cases hp
theorem isBxs_long {bs : List Bx} (h : 8 < bs.length) : isBxs bs = false := by unfold isBxs; rw [decide_eq_false (by omega)]; rfl
theorem isBxs_all {bs : List Bx} (h : bs.all isBx = false) : isBxs bs = false := by unfold isBxs; rw [h]; simp
theorem isBxs_up {bs : List Bx} (h : upBx bs = false) : isBxs bs = false := by unfold isBxs; rw [h]; simp
theorem isBxs_yes {bs : List Bx} (h : bs.length ≤ 8) (h1 : bs.all isBx = true) (h2 : upBx bs = true) : isBxs bs = true := by unfold isBxs; rw [h1, h2, decide_eq_true h]; rfl
set_option maxRecDepth 100000 in
set_option maxHeartbeats 2000000 in
theorem boxValid_any (M : Nat) (x : BxA) (w : World) (en : Env w) (h1 : RdBx M w x) (hM : M ≤ 1073741000) :
    Calls Tryd.prog 34 #[.agg #[.string (str x.path), .slice x.a x.xs.length x.c]] w fun e w' => e = .returned (.bool (isBx x.b)) ∧ Below w.heap.size w w' := by
  have HP : Hid (∀ u, Below w.heap.size w u → Calls Tryd.prog 55 #[.string (str x.path)] u fun e w' => e = .returned (.bool (isPath x.b.path)) ∧ Below u.heap.size u w') := fun u hb => by
    have := pathValid_any (str x.path) u (en.below hb) (by rw [str_size]; have := h1.2.1; omega)
    rw [str_list] at this; exact this
  have HA : Hid (∀ u, Below w.heap.size w u → Calls Tryd.prog 56 #[.slice x.a x.xs.length x.c, .func (.func 39) #[] #[]] u fun e w' => e = .returned (.bool (x.b.mails.all isMail)) ∧ Below u.heap.size u w') := fun u hb => allValid_mail M x.a x.xs.length x.c x.xs u (en.below hb) rfl (h1.1.below hb) hM (by have := h1.2.2.1; omega)
  have hl : x.b.mails.length = x.xs.length := by unfold BxA.b; simp
  unfold isBx
  rw [hl]
  have e2 : decide (x.xs.length ≤ 4) = decide ((x.xs.length : Int) ≤ 4) := decide_eq_decide.2 (by omega)
  rw [e2]
  have hz : x.xs.length ≤ 1073741000 := by have := h1.2.2.1; omega
  clear h1 hl e2 en hM
  generalize isPath x.b.path = g0 at *
  generalize x.b.mails.all isMail = g1 at *
  generalize str x.path = s1 at *
  generalize x.xs.length = n1 at *
  generalize x.a = a1 at *
  generalize x.c = c1 at *
  have hA1 : Below w.heap.size w (w.alloc (.cells #[.string s1, .slice a1 n1 c1] 54)) := (Below.refl _ _).alloc (Nat.le_refl _) _
  have HX := Lib.hid (MK2.new w (.string s1) (.slice a1 n1 c1) 54)
  go_enter Tryd.func34, Tryd.ntmps34
  go_wp2_with fail
  refine (HP.out _ hA1).mono ?_
  rintro e w1 ⟨rfl, hb1⟩
  have hb01 := nx hA1 hb1
  obtain ⟨y0, y1⟩ := HX.out.below hb1
  cases g0
  · go_wp2
    go_ret
    exact ⟨rfl, hb01⟩
  · by_cases k1 : (n1 : Int) ≤ 4
    · have z1 := decide_eq_true k1
      go_wp2_with fail
      refine (HA.out _ hb01).mono ?_
      rintro e w2 ⟨rfl, hb2⟩
      go_wp2
      go_ret
      exact ⟨ret_bool (by rw [z1]; rfl), nx hb01 hb2⟩
    · have z1 := decide_eq_false k1
      go_wp2
      go_ret
      exact ⟨ret_bool (by rw [z1]; rfl), hb01⟩
theorem bx_bad {xs : List BxA} {k : Nat} (h : k < xs.length) (hp : isBx xs[k].b = false) : (xs.map BxA.b).all isBx = false := by
  rw [List.all_eq_false]; exact ⟨_, List.mem_map.2 ⟨_, List.getElem_mem h, rfl⟩, by simp [hp]⟩
theorem bx_good {xs : List BxA} {n : Nat} (hn : xs.length ≤ n) (h : ∀ j, j < n → (h' : j < xs.length) → isBx xs[j].b = true) : (xs.map BxA.b).all isBx = true := by
  rw [List.all_eq_true]; intro x hx
  obtain ⟨y, hy, rfl⟩ := List.mem_map.1 hx
  obtain ⟨j, hj, rfl⟩ := List.getElem_of_mem hy
  exact h j (by omega) hj
set_option maxRecDepth 100000 in
set_option maxHeartbeats 4000000 in
theorem allValid_box (M : Nat) (a : Option Addr) (n c : Nat) (xs : List BxA) (w : World) (en : Env w) (hx : xs.length = n) (h1 : RdBs M w a xs) (hM : M ≤ 1073741000) (hn : n ≤ 1073741000) :
    Calls Tryd.prog 33 #[.slice a n c, .func (.func 34) #[] #[]] w fun e w' => e = .returned (.bool ((xs.map BxA.b).all isBx)) ∧ Below w.heap.size w w' := by
  have X1 := Lib.hid h1
  have L1 := Lib.hid hx
  clear h1 hx
  go_enter Tryd.func33, Tryd.ntmps33
  go_wp2_with fail
  go_loopw [9] (fun i wr => ∃ k : Nat, k ≤ n ∧ i = .int .i64 k ∧ Below w.heap.size w wr ∧ ∀ j, j < k → (h' : j < xs.length) → isBx xs[j].b = true) (fun i _ => n - (intOf i).toNat)
  case atStart => exact ⟨0, Nat.zero_le _, rfl, Below.refl _ _, fun j h => by omega⟩
  case round =>
    obtain ⟨k, hk, rfl, hb, hall⟩ := hrel
    have HA := Lib.hid hall
    clear hall
    by_cases hlt : k < n
    · have k1 : k < xs.length := by rw [L1.out]; exact hlt
      obtain ⟨b1, o1, rfl, hb1, p0, p1, p3⟩ := (X1.out.below hb).at k1
      have hkn : (k : Int) < (n : Int) := by omega
      have hk0 : (0 : Int) ≤ (k : Int) := by omega
      have HC : Hid (∀ u, Below wr.heap.size wr u → Calls Tryd.prog 34 #[.agg #[.string (str xs[k].path), .slice xs[k].a xs[k].xs.length xs[k].c]] u fun e w' => e = .returned (.bool (isBx xs[k].b)) ∧ Below u.heap.size u w') := fun u hu => boxValid_any M xs[k] u (en.below (nx hb hu)) (p3.below hu) hM
      clear p3
      cases hq : isBx xs[k].b
      · have HN : Hid ((xs.map BxA.b).all isBx = false) := bx_bad k1 hq
        rw [hq] at HC
        clear hq
        generalize xs[k] = x at *
        go_wp2_with fail
        refine (HC.out _ ((Below.refl _ _).alloc (Nat.le_refl _) _)).mono ?_
        rintro e w5 ⟨rfl, hb5⟩
        have hbx := nx hb (nx ((Below.refl _ _).alloc (Nat.le_refl _) _) hb5)
        clear p0 p1
        go_wp2
        go_ret
        exact ⟨ret_bool HN.out.symm, hbx⟩
      · have HQ : Hid (∀ j (h' : j < xs.length), j = k → isBx xs[j].b = true) := fun j h' e => by subst e; exact hq
        rw [hq] at HC
        clear hq
        generalize xs[k] = x at *
        go_wp2_with fail
        refine (HC.out _ ((Below.refl _ _).alloc (Nat.le_refl _) _)).mono ?_
        rintro e w5 ⟨rfl, hb5⟩
        have hbx := nx hb (nx ((Below.refl _ _).alloc (Nat.le_refl _) _) hb5)
        clear p0 p1
        go_wp2
        go_roundw
        case rel => exact ⟨k + 1, by omega, by go_num, hbx, fun j h h' => by
          by_cases e : j = k
          · exact HQ.out j h' e
          · exact HA.out j (by omega) h'⟩
        case measure => simp [intOf]; omega
    · have HN : Hid ((xs.map BxA.b).all isBx = true) := bx_good (n := n) (by have := L1.out; omega) (fun j h h' => HA.out j (by omega) h')
      go_wp2
      go_ret
      exact ⟨ret_bool HN.out.symm, hb⟩
theorem bx_upbad {xs : List BxA} {i : Nat} (h : i + 1 < xs.length) (hp : ltP xs[i].path xs[i + 1].path = false) : upBx (xs.map BxA.b) = false := by
  refine up_bad (i := i) (by simpa using h) ?_
  simp only [List.getElem_map]; exact hp
theorem bx_upgood {xs : List BxA} {n : Nat} (hn : xs.length ≤ n) (h : ∀ j, j + 1 < n → (h' : j + 1 < xs.length) → ltP xs[j].path xs[j + 1].path = true) : upBx (xs.map BxA.b) = true := by
  rw [upBx_iff]; intro i hi
  simp only [List.getElem_map]
  have hi' : i + 1 < xs.length := by simpa using hi
  exact h i (by omega) hi'
set_option maxRecDepth 100000 in
set_option maxHeartbeats 4000000 in
theorem boxesValid_any (M : Nat) (a : Option Addr) (n c : Nat) (xs : List BxA) (w : World) (en : Env w) (hx : xs.length = n) (h1 : RdBs M w a xs) (hM : M ≤ 1073741000) (hn : n ≤ 1073741000) :
    Calls Tryd.prog 11 #[.slice a n c] w fun e w' => e = .returned (.bool (isBxs (xs.map BxA.b))) ∧ Below w.heap.size w w' := by
  have hl : (xs.map BxA.b).length = n := by rw [List.length_map]; exact hx
  by_cases hbig : 8 < n
  · have HN : Hid (isBxs (xs.map BxA.b) = false) := isBxs_long (by omega)
    have d0 : decide ((n : Int) > 8) = true := decide_eq_true (by omega)
    clear h1 hl hx
    go_enter Tryd.func11, Tryd.ntmps11
    go_wp2
    go_ret
    exact ⟨ret_bool HN.out.symm, Below.refl _ _⟩
  · have HA : Hid (Calls Tryd.prog 33 #[.slice a n c, .func (.func 34) #[] #[]] w fun e w' => e = .returned (.bool ((xs.map BxA.b).all isBx)) ∧ Below w.heap.size w w') := allValid_box M a n c xs w en hx h1 hM hn
    have d0 : decide ((n : Int) > 8) = false := decide_eq_false (by omega)
    cases hq : (xs.map BxA.b).all isBx
    · have HN : Hid (isBxs (xs.map BxA.b) = false) := isBxs_all hq
      rw [hq] at HA
      clear h1 hl hx hq
      go_enter Tryd.func11, Tryd.ntmps11
      go_wp2_with fail
      refine HA.out.mono ?_
      rintro e w1 ⟨rfl, hb1⟩
      go_wp2
      go_ret
      exact ⟨ret_bool HN.out.symm, hb1⟩
    · have HG : Hid (upBx (xs.map BxA.b) = true → isBxs (xs.map BxA.b) = true) := fun h => isBxs_yes (by omega) hq h
      rw [hq] at HA
      have X1 := Lib.hid h1
      have L1 := Lib.hid hx
      clear h1 hl hx hq
      go_enter Tryd.func11, Tryd.ntmps11
      go_wp2_with fail
      refine HA.out.mono ?_
      rintro e w1 ⟨rfl, hb1⟩
      go_wp2_with fail
      go_loopw [3] (fun i wr => ∃ k : Nat, 1 ≤ k ∧ i = .int .i64 k ∧ Below w.heap.size w wr ∧ ∀ j, j + 1 < k → (h' : j + 1 < xs.length) → ltP xs[j].path xs[j + 1].path = true) (fun i _ => n - (intOf i).toNat)
      case atStart => exact ⟨1, Nat.le_refl _, rfl, hb1, fun j h => by omega⟩
      case round =>
        obtain ⟨k, hk, rfl, hb, hall⟩ := hrel
        have HALL := Lib.hid hall
        clear hall hb1
        by_cases hlt : k < n
        · have k1 : k < xs.length := by rw [L1.out]; exact hlt
          have k0 : k - 1 < xs.length := by omega
          obtain ⟨b1, o1, rfl, hl1, p0, p1, p3⟩ := (X1.out.below hb).at k1
          obtain ⟨b2, o2, he2, hl2, q0, q1, q3⟩ := (X1.out.below hb).at k0
          injection he2 with he2
          injection he2 with e1 e2
          subst e1 e2
          have hkn : (k : Int) < (n : Int) := by omega
          have hi0 : (0 : Int) ≤ (k : Int) - 1 := by omega
          have hi1 : (k : Int) - 1 < (n : Int) := by omega
          have hi2 : ((k : Int) - 1).toNat = k - 1 := by omega
          have zc0 : ∀ y : BelowT wr, y.val.cell? ⟨b1, o1 + k * 2, none⟩ = some (.string (str xs[k].path)) := fun y => (below_at y.below hl1).trans p0
          have zc1 : ∀ y : BelowT wr, y.val.cell? ⟨b1, o1 + (k - 1) * 2, none⟩ = some (.string (str xs[k - 1].path)) := fun y => (below_at y.below hl2).trans q0
          clear p0 p1 p3 q0 q1 q3
          have HK : Hid (∀ h : k - 1 + 1 < xs.length, ltP xs[k - 1].path xs[k - 1 + 1].path = ltP xs[k - 1].path xs[k].path) := fun h => by
            have : k - 1 + 1 = k := by omega
            simp only [this]
          cases hq : ltP xs[k - 1].path xs[k].path
          · have HN : Hid (isBxs (xs.map BxA.b) = false) := isBxs_up (bx_upbad (i := k - 1) (by omega) (by rw [HK.out (by omega)]; exact hq))
            have hq' : Op.bytesLess (str xs[k - 1].path).toList (str xs[k].path).toList = false := hq
            clear hq
            generalize str xs[k - 1].path = s1 at *
            generalize str xs[k].path = s2 at *
            go_wp2_with fail
            refine wp_region_quietB (W := wr) (by kernel_rfl) (by kernel_rfl) (Below.refl _ _) ?_
            repeat (go_big_quiet_step (fail))
            refine wpQuiet_nil ?_
            intro wz hwz
            obtain ⟨x9, rfl⟩ := hwz
            have hb9 := nx hb x9.below
            clear zc0 zc1
            generalize x9.val = w9 at *
            go_wp2
            go_ret
            exact ⟨ret_bool HN.out.symm, hb9⟩
          · have HQ : Hid (∀ j (h' : j + 1 < xs.length), j = k - 1 → ltP xs[j].path xs[j + 1].path = true) := fun j h' e => by subst e; rw [HK.out h']; exact hq
            have hq' : Op.bytesLess (str xs[k - 1].path).toList (str xs[k].path).toList = true := hq
            clear hq
            generalize str xs[k - 1].path = s1 at *
            generalize str xs[k].path = s2 at *
            go_wp2_with fail
            refine wp_region_quietB (W := wr) (by kernel_rfl) (by kernel_rfl) (Below.refl _ _) ?_
            repeat (go_big_quiet_step (fail))
            refine wpQuiet_nil ?_
            intro wz hwz
            obtain ⟨x9, rfl⟩ := hwz
            have hb9 := nx hb x9.below
            clear zc0 zc1
            generalize x9.val = w9 at *
            go_wp2
            go_roundw
            case rel => exact ⟨k + 1, by omega, by go_num, hb9, fun j h h' => by
              by_cases e : j = k - 1
              · exact HQ.out j h' e
              · exact HALL.out j (by omega) h'⟩
            case measure => simp [intOf]; omega
        · have HN : Hid (isBxs (xs.map BxA.b) = true) := HG.out (bx_upgood (n := k) (by have := L1.out; omega) (fun j h h' => HALL.out j h h'))
          go_wp2
          go_ret
          exact ⟨ret_bool HN.out.symm, hb⟩
def heldL (bs : List Bx) : Nat := (bs.map (fun b => b.mails.length)).sum
def heldB (bs : List Bx) : Nat := if isBxs bs then heldL bs else 0
theorem held_take {xs : List BxA} {k : Nat} (h : k < xs.length) : heldL ((xs.take (k + 1)).map BxA.b) = heldL ((xs.take k).map BxA.b) + xs[k].xs.length := by
  rw [take_bxs h]; unfold heldL; rw [List.map_append, List.sum_append]; simp [BxA.b]
theorem bxs_mails {bs : List Bx} (h : isBxs bs = true) : bs.length ≤ 8 ∧ ∀ b ∈ bs, b.mails.length ≤ 4 := by
  unfold isBxs at h
  rw [Bool.and_eq_true, Bool.and_eq_true, decide_eq_true_eq, List.all_eq_true] at h
  refine ⟨h.1, fun b hb => ?_⟩
  have := h.2.1 b hb
  unfold isBx at this
  simp at this; exact this.2.1
theorem heldL_le : ∀ {bs : List Bx}, (∀ b ∈ bs, b.mails.length ≤ 4) → heldL bs ≤ 4 * bs.length
  | [], _ => Nat.le_refl _
  | b :: bs, h => by
    have h1 := h b (by simp)
    have h2 := heldL_le (bs := bs) (fun x hx => h x (by simp [hx]))
    unfold heldL at *
    simp; omega
set_option maxRecDepth 100000 in
set_option maxHeartbeats 4000000 in
theorem countHeld_any (M : Nat) (a : Option Addr) (n c : Nat) (xs : List BxA) (w : World) (en : Env w) (hx : xs.length = n) (h1 : RdBs M w a xs) (hM : M ≤ 1073741000) (hn : n ≤ 1073741000) :
    Calls Tryd.prog 14 #[.slice a n c] w fun e w' => e = .returned (.int .i64 (heldB (xs.map BxA.b))) ∧ Below w.heap.size w w' := by
  have HV : Hid (Calls Tryd.prog 11 #[.slice a n c] w fun e w' => e = .returned (.bool (isBxs (xs.map BxA.b))) ∧ Below w.heap.size w w') := boxesValid_any M a n c xs w en hx h1 hM hn
  cases hq : isBxs (xs.map BxA.b)
  · have HN : Hid ((heldB (xs.map BxA.b) : Int) = 0) := by show _ = _; unfold heldB; rw [hq]; rfl
    rw [hq] at HV
    clear h1 hx hq
    go_enter Tryd.func14, Tryd.ntmps14
    go_wp2_with fail
    refine HV.out.mono ?_
    rintro e w1 ⟨rfl, hb1⟩
    go_wp2
    go_ret
    exact ⟨ret_int HN.out.symm, hb1⟩
  · have HN : Hid (heldB (xs.map BxA.b) = heldL (xs.map BxA.b)) := by show _ = _; unfold heldB; rw [hq]; rfl
    obtain ⟨z8, z4⟩ := bxs_mails hq
    rw [List.length_map] at z8
    have Z4 : Hid (∀ k (h : k < xs.length), xs[k].xs.length ≤ 4) := fun k h => by
      have := z4 xs[k].b (List.mem_map_of_mem (List.getElem_mem h))
      unfold BxA.b at this; simpa using this
    have ZT : Hid (∀ k, heldL ((xs.take k).map BxA.b) ≤ 32) := fun k => by
      have := heldL_le (bs := (xs.take k).map BxA.b) (fun b hb => z4 b (by
        obtain ⟨y, hy, rfl⟩ := List.mem_map.1 hb
        exact List.mem_map_of_mem (List.mem_of_mem_take hy)))
      rw [List.length_map, List.length_take] at this
      show _ ≤ _; omega
    rw [hq] at HV
    have X1 := Lib.hid h1
    have L1 := Lib.hid hx
    clear h1 hx hq z4 z8
    go_enter Tryd.func14, Tryd.ntmps14
    go_wp2_with fail
    refine HV.out.mono ?_
    rintro e w1 ⟨rfl, hb1⟩
    go_wp2_with fail
    go_loopw [3, 11] (fun v i wr => ∃ k : Nat, k ≤ n ∧ i = .int .i64 k ∧ v = .int .i64 (heldL ((xs.take k).map BxA.b)) ∧ Below w.heap.size w wr) (fun _ i _ => n - (intOf i).toNat)
    case atStart => exact ⟨0, Nat.zero_le _, rfl, rfl, hb1⟩
    case round =>
      obtain ⟨k, hk, rfl, rfl, hb⟩ := hrel
      clear hb1
      by_cases hlt : k < n
      · have k1 : k < xs.length := by rw [L1.out]; exact hlt
        obtain ⟨b1, o1, rfl, hl1, p0, p1, p3⟩ := (X1.out.below hb).at k1
        have hkn : (k : Int) < (n : Int) := by omega
        have hk0 : (0 : Int) ≤ (k : Int) := by omega
        have HT := Lib.hid (held_take k1)
        have hz := Z4.out k k1
        have hy := ZT.out k
        clear p3
        generalize heldL ((xs.take k).map BxA.b) = H at *
        generalize xs[k].xs.length = nn at *
        generalize xs[k].a = aa at *
        generalize xs[k].c = cc at *
        generalize str xs[k].path = ss at *
        go_wp2
        go_roundw
        case rel => exact ⟨k + 1, by omega, by go_num, by rw [HT.out]; go_num, by first | exact hb | exact nx hb ((Below.refl _ _).alloc (Nat.le_refl _) _)⟩
        case measure => simp [intOf]; omega
      · have HE : Hid (heldL ((xs.take k).map BxA.b) = heldB (xs.map BxA.b)) := by show _ = _; rw [HN.out, List.take_of_length_le (by have := L1.out; omega)]
        rw [HE.out]
        go_wp2
        go_ret
        exact ⟨rfl, hb⟩
end Go.Proofs.YtfiaankfmdpmkaaDoor
end

section
namespace Go.Proofs.YtfiaankfmdpmkaaDoor
open Go.RowKit

def parseR (l : List UInt8) : Adr := (parseA l).getD adr0
/-- What reading an address leaves. -/
def ParseRet (l : List UInt8) (w : World) (e : Ending) (w' : World) : Prop := e = .returned (.tuple #[adrV (parseR l), .bool (parseA l).isSome]) ∧ Below w.heap.size w w'
theorem parseRet_none {l : List UInt8} {w w' : World} (h : parseA l = none) (hb : Below w.heap.size w w') : ParseRet l w (.returned (.tuple #[.agg #[.string ⟨#[]⟩, .string ⟨#[]⟩, .string ⟨#[]⟩], .bool false])) w' :=
  ⟨by unfold parseR; rw [h]; rfl, hb⟩
theorem parseRet_some {l : List UInt8} {w w' : World} {n x d : ByteArray} (h : parseA l = some (adr n x d)) (hb : Below w.heap.size w w') : ParseRet l w (.returned (.tuple #[.agg #[.string n, .string x, .string d], .bool true])) w' :=
  ⟨by unfold parseR; rw [h]; show _ = Ending.returned (.tuple #[adrV (adr n x d), .bool true]); rw [adrV_adr], hb⟩
theorem lowS_str (l : List UInt8) : lowS (str l) = str (low l) := by unfold lowS; rw [str_list]
theorem isText_trimS {l : List UInt8} (h : isText l = true) : isText (trimS l) = true := isText_sub h (fun _ hx => trimS_mem hx) (trimS_len l)
end Go.Proofs.YtfiaankfmdpmkaaDoor
end

section
namespace Go.Proofs.YtfiaankfmdpmkaaDoor
open Go.RowKit

end Go.Proofs.YtfiaankfmdpmkaaDoor
end

section
namespace Go.Proofs.YtfiaankfmdpmkaaDoor
open Go.RowKit

def CutRetS (s : ByteArray) (c : UInt8) (w : World) (e : Ending) (w' : World) : Prop :=
  (∀ a d, cutU c s.data.toList = some (a, d) → e = .returned (.tuple #[.string (str a), .string (str d), .bool true])) ∧
  (cutU c s.data.toList = none → e = .returned (.tuple #[.string s, .string ⟨#[]⟩, .bool false])) ∧ ∃ q, w' = w.drewN q
theorem cutRetS_some {s : ByteArray} {c : UInt8} {k q : Nat} {w : World} {x y : ByteArray} (h : cutK c 0 s.data.toList = some k) (hx : x = s.extract 0 k) (hy : y = s.extract (k + 1) s.size) : CutRetS s c w (.returned (.tuple #[.string x, .string y, .bool true])) (w.drewN q) := by
  have hc : cutU c s.data.toList = some (s.data.toList.take k, s.data.toList.drop (k + 1)) := by unfold cutU; rw [h]; rfl
  refine ⟨fun a d h' => ?_, fun h' => ?_, q, rfl⟩
  · rw [hc] at h'; injection h' with h'; injection h' with h1 h2; subst h1 h2; rw [hx, hy, ext_take, ext_drop]
  · rw [hc] at h'; cases h'
theorem cutRetS_none {s : ByteArray} {c : UInt8} {w : World} (h : cutK c 0 s.data.toList = none) : CutRetS s c w (.returned (.tuple #[.string s, .string ⟨#[]⟩, .bool false])) w := by
  have hc : cutU c s.data.toList = none := by unfold cutU; rw [h]; rfl
  refine ⟨fun a d h' => ?_, fun _ => rfl, 0, rfl⟩
  rw [hc] at h'; cases h'
set_option maxRecDepth 100000 in
set_option maxHeartbeats 4000000 in
theorem l2Cut_any (s : ByteArray) (c : UInt8) (w : World) (hc34 : (34 : UInt8) ≠ c) (hs : s.size ≤ 1073741824) :
    Calls Tryd.prog 65 #[.string s, .int .u8 c.toNat] w (CutRetS s c w) := by
  go_enter Tryd.func65, Tryd.ntmps65
  go_wp2_with fail
  go_loop [7] (fun i => ∃ k : Nat, k ≤ s.size ∧ i = .int .i64 k ∧ cutsAt c s k) (fun i => s.size - (intOf i).toNat)
  case atStart => exact ⟨0, Nat.zero_le _, rfl, cutsAt_start c s⟩
  case round =>
    obtain ⟨k, hk, rfl, hg⟩ := hrel
    have HG := Lib.hid hg
    clear hg
    by_cases hlt : k < s.size
    · by_cases hq : s[k] = 34
      · have e2 := beq_t hq (n := 34) rfl
        cases hr : readQ (s.data.toList.drop (k + 1)) with
        | none =>
          have HR := Lib.hid (cutsAt_stuck hc34 HG.out hlt hq hr)
          have HQ := Lib.hid hr
          clear hq hr
          go_wp2_with fail
          refine (l1Read_any s k _ hlt hs).mono ?_
          rintro e w1 ⟨_, hno, rfl⟩
          have he := hno HQ.out
          clear hno
          subst he
          go_wp2
          go_ret3
          exact cutRetS_none HR.out
        | some y =>
          obtain ⟨t, r⟩ := y
          obtain ⟨hN, hlo⟩ := cutsAt_quote hc34 HG.out hlt hq hr
          have HN := Lib.hid hN
          have HQ := Lib.hid hr
          clear hq hr hN
          go_wp2_with fail
          refine (l1Read_any s k _ hlt hs).mono ?_
          rintro e w1 ⟨hy, _, rfl⟩
          have he := hy t r HQ.out
          clear hy
          subst he
          obtain ⟨q, hq⟩ : ∃ q, q = s.size - r.length := ⟨_, rfl⟩
          rw [← hq] at HN hlo ⊢
          have hqs : q ≤ s.size := by omega
          clear hq
          go_wp2
          go_round
          case rel => exact ⟨q, hqs, by go_num, HN.out⟩
          case measure => simp [intOf]; omega
      · have e2 := beq_f hq (n := 34) rfl
        by_cases hc : s[k] = c
        · have HR := Lib.hid (cutsAt_hit HG.out hlt hc)
          have e1 : ((s[k].toNat : Int) == (c.toNat : Int)) = true := by rw [hc]; simp
          have hw1 : IntKind.i64.wrap ((k : Int) + 1) = (k : Int) + 1 := IntWalk.i64_in _ (by omega)
          have hw2 : 0 ≤ (k : Int) + 1 := by omega
          have hw3 : ((k : Int) + 1).toNat = k + 1 := by omega
          clear hc hq
          go_wp2
          go_quiet (fail)
          go_wp2
          go_ret3
          exact cutRetS_some HR.out rfl rfl
        · have e1 : ((s[k].toNat : Int) == (c.toNat : Int)) = false := by
            rw [beq_eq_false_iff_ne]; intro e; exact hc (UInt8.toNat_inj.1 (by omega))
          have HN := Lib.hid (cutsAt_skip HG.out hlt hc hq)
          clear hc hq
          go_wp2
          go_round
          case rel => exact ⟨k + 1, by omega, by go_num, HN.out⟩
          case measure => simp [intOf]; omega
    · have HR := Lib.hid (cutsAt_end HG.out (by omega))
      go_wp2
      go_ret3
      exact cutRetS_none HR.out
/-- A list of the call's own. -/
def OwnRet (xs : List (List UInt8)) (w : World) (e : Ending) (w' : World) : Prop := ∃ v, e = .returned v ∧ OwnL w.heap.size v xs w' ∧ Below w.heap.size w w'
def partsAt (c : UInt8) (s : ByteArray) (st i : Nat) (acc : List (List UInt8)) : Prop := splitC c s.data.toList = acc ++ glue ((s.data.toList.drop st).take (i - st)) (splitC c (s.data.toList.drop i))
theorem partsAt_start (c : UInt8) (s : ByteArray) : partsAt c s 0 0 [] := by unfold partsAt; simp [glue_nil]
theorem partsAt_skip {c : UInt8} {s : ByteArray} {st i : Nat} {acc : List (List UInt8)} (h : partsAt c s st i acc) (hst : st ≤ i) (hi : i < s.size) (hc : s[i] ≠ c) : partsAt c s st (i + 1) acc := by
  unfold partsAt at h ⊢
  rw [h, drop_at s i hi, splitC_skip _ hc, glue_app]
  congr 2
  rw [show i + 1 - st = (i - st) + 1 by omega, List.take_succ_eq_append_getElem (by rw [List.length_drop, size_list]; omega)]
  congr 1
  rw [List.getElem_drop]
  have : st + (i - st) = i := by omega
  simp only [this]; rfl
theorem partsAt_hit {c : UInt8} {s : ByteArray} {st i : Nat} {acc : List (List UInt8)} (h : partsAt c s st i acc) (hi : i < s.size) (hc : s[i] = c) : partsAt c s (i + 1) (i + 1) (acc ++ [(s.extract st i).data.toList]) := by
  unfold partsAt at h ⊢
  rw [h, drop_at s i hi, hc, splitC_hit, Lib.extract_data, Nat.sub_self, List.take_zero, glue_nil]
  simp [glue]
theorem partsAt_end {c : UInt8} {s : ByteArray} {st i : Nat} {acc : List (List UInt8)} (h : partsAt c s st i acc) (hst : st ≤ i) (hi : s.size ≤ i) : splitC c s.data.toList = acc ++ [(s.extract st s.size).data.toList] := by
  unfold partsAt at h
  rw [h, drop_out s i hi, Lib.extract_data]
  show acc ++ glue _ [[]] = _
  simp only [glue, List.append_nil]
  congr 2
  rw [List.take_of_length_le (by rw [List.length_drop, size_list]; omega), List.take_of_length_le (by rw [List.length_drop, size_list]; omega)]
theorem ext_size (s : ByteArray) (a b : Nat) : (s.extract a b).size ≤ s.size := by rw [ByteArray.size_extract]; omega
set_option maxRecDepth 100000 in
set_option maxHeartbeats 4000000 in
theorem l2Parts_any (s : ByteArray) (c : UInt8) (w : World) (hs : s.size ≤ 1073741000) :
    Calls Tryd.prog 89 #[.string s, .int .u8 c.toNat] w (OwnRet (splitC c s.data.toList) w) := by
  obtain ⟨i0, hi, hz0, hz1, hz2⟩ := info_parts sInfo
  go_enter Tryd.func89, Tryd.ntmps89
  go_wp2_with fail
  go_loopw [5, 6, 7] (fun v st i wr => ∃ (k a : Nat) (acc : List (List UInt8)), k ≤ s.size ∧ a ≤ k ∧ i = .int .i64 k ∧ st = .int .i64 a ∧ acc.length ≤ k ∧ partsAt c s a k acc ∧ OwnL w.heap.size v acc wr ∧ Below w.heap.size w wr) (fun _ _ i _ => s.size - (intOf i).toNat)
  case atStart => exact ⟨0, 0, [], Nat.zero_le _, Nat.le_refl _, rfl, rfl, Nat.zero_le _, partsAt_start c s, OwnL.empty w, (Below.refl _ _).alloc (Nat.le_refl _) _⟩
  case round =>
    obtain ⟨k, a, acc, hk, hak, rfl, rfl, hal, hg, hown, hb⟩ := hrel
    have HG := Lib.hid hg
    clear hg
    have hown1 := hown
    unfold OwnL at hown1
    by_cases hlt : k < s.size
    · by_cases hc : s[k] = c
      · have HN := Lib.hid (partsAt_hit HG.out hlt hc)
        have e1 : ((s[k].toNat : Int) == (c.toNat : Int)) = true := by rw [hc]; simp
        have hbs := hb.size
        clear hc
        go_wp2_with (at_builtin; refine wpList_append_own _ rfl _ _ 30 rfl w.heap.size 9 i0 (.string ⟨#[]⟩) 1 16 Tryd.underlying30 hi hz0 hz1 hz2 rfl (by decide) _ _ _ rfl (hown1.alloc _) ⟨wr.heap.size, 0, none⟩ 1 1 [.string (s.extract a k)] rfl rfl ?c1 ?c2 ?c3 ?c4 ?c5 ?_)
        case c1 =>
          intro u v hj
          match u, hj with
          | 0, hj => simp at hj; subst hj; simp [Addr.add]
        case c2 => intro u hu; simp at hu; subst hu; rfl
        case c3 => unfold maxLen; omega
        case c4 => omega
        case c5 => simp; omega
        intro v' w3 hown' hgrow _
        have hO3 : OwnL w.heap.size v' (acc ++ [(s.extract a k).data.toList]) w3 := own_snoc hown'
        have hb3 : Below w.heap.size wr w3 := ((Below.refl _ _).alloc (by omega) _).grown hgrow (by simp; omega) (fun k hk => (hown1.lt k hk).1)
        go_wp2
        go_roundw
        case rel => exact ⟨k + 1, k + 1, _, by omega, Nat.le_refl _, by go_num, by go_num, by simp; omega, HN.out, hO3, hb.trans hb3⟩
        case measure => simp [intOf]; omega
      · have HN := Lib.hid (partsAt_skip HG.out hak hlt hc)
        have e1 : ((s[k].toNat : Int) == (c.toNat : Int)) = false := by
          rw [beq_eq_false_iff_ne]; intro e; exact hc (UInt8.toNat_inj.1 (by omega))
        clear hc
        go_wp2
        go_roundw
        case rel => exact ⟨k + 1, a, acc, by omega, by omega, by go_num, rfl, by omega, HN.out, hown, hb⟩
        case measure => simp [intOf]; omega
    · have HN := Lib.hid (partsAt_end HG.out hak (by omega))
      have hbs := hb.size
      go_wp2_with (at_builtin; refine wpList_append_own _ rfl _ _ 30 rfl w.heap.size 9 i0 (.string ⟨#[]⟩) 1 16 Tryd.underlying30 hi hz0 hz1 hz2 rfl (by decide) _ _ _ rfl (hown1.alloc _) ⟨wr.heap.size, 0, none⟩ 1 1 [.string (s.extract a s.size)] rfl rfl ?q1 ?q2 ?q3 ?q4 ?q5 ?_)
      case q1 =>
        intro u v hj
        match u, hj with
        | 0, hj => simp at hj; subst hj; simp [Addr.add]
      case q2 => intro u hu; simp at hu; subst hu; rfl
      case q3 => unfold maxLen; omega
      case q4 => omega
      case q5 => simp; omega
      intro v' w3 hown' hgrow _
      have hO3 : OwnL w.heap.size v' (acc ++ [(s.extract a s.size).data.toList]) w3 := own_snoc hown'
      have hb3 : Below w.heap.size wr w3 := ((Below.refl _ _).alloc (by omega) _).grown hgrow (by simp; omega) (fun k hk => (hown1.lt k hk).1)
      go_wp2
      go_ret
      exact ⟨v', rfl, by rw [HN.out]; exact hO3, hb.trans hb3⟩
set_option maxRecDepth 100000 in
set_option maxHeartbeats 2000000 in
theorem l2Local_any (s : ByteArray) (w : World) (hs : s.size ≤ 1073741000) :
    Calls Tryd.prog 79 #[.string s] w fun e w' => e = .returned (.bool (isLocal s.data.toList)) ∧ Below w.heap.size w w' := by
  have HSM := Lib.hid (splitC_small 46 s.data.toList)
  have HD : Hid (isLocal s.data.toList = (decide (s.size ≤ 30) && (splitC 46 s.data.toList).all isAtom)) := rfl
  go_enter Tryd.func79, Tryd.ntmps79
  go_wp2_with fail
  refine (l2Parts_any s 46 _ hs).mono ?_
  rintro e w1 ⟨v, rfl, ho, hb1⟩
  obtain ⟨a1, c1, rfl, hr, hm⟩ := ho.read
  generalize hX : splitC 46 s.data.toList = xs at *
  have HX := Lib.hid hX
  obtain ⟨_, hr2⟩ := hr
  have HR := Lib.hid hr2
  have hlen : xs.length ≤ 1073741824 := by have := HSM.out.1; rw [size_list] at this; omega
  clear hX hr2
  go_wp2_with fail
  go_loop [4] (fun i => ∃ k : Nat, k ≤ xs.length ∧ i = .int .i64 k ∧ ∀ j, (h : j < k) → (h' : j < xs.length) → isAtom xs[j] = true) (fun i => xs.length - (intOf i).toNat)
  case atStart => exact ⟨0, Nat.zero_le _, rfl, fun j h => by omega⟩
  case round =>
    obtain ⟨k, hk, rfl, hall⟩ := hrel
    have HA := Lib.hid hall
    clear hall
    by_cases hlt : k < xs.length
    · obtain ⟨b, o, rfl, hbl, hcell⟩ := HR.out.resolve_left (by omega)
      have hc1 : w1.cell? ⟨b, o + k, none⟩ = some (.string (str xs[k])) := hcell k hlt
      have hsz : (str xs[k]).size ≤ 1073741824 := by rw [str_size]; have := HSM.out.2 _ (List.getElem_mem hlt); rw [size_list] at this; omega
      clear hcell
      cases hp : isAtom xs[k]
      · have HP : Hid (isAtom (str xs[k]).data.toList = false) := by show _ = _; rw [str_list]; exact hp
        have HE : Hid (xs.all isAtom = false) := by show _ = _; rw [List.all_eq_false]; exact ⟨_, List.getElem_mem hlt, by simp [hp]⟩
        generalize str xs[k] = x at *
        clear hp
        go_wp2_with fail
        refine (atomValidS_any x _ (by unfold maxLen; omega)).mono ?_
        rintro e w2 ⟨rfl, rfl⟩
        rw [HP.out]
        go_wp2
        go_ret
        exact ⟨ret_bool (by rw [HD.out, HE.out]; simp), hb1⟩
      · have HP : Hid (isAtom (str xs[k]).data.toList = true) := by show _ = _; rw [str_list]; exact hp
        have HQ := Lib.hid hp
        generalize str xs[k] = x at *
        clear hp
        go_wp2_with fail
        refine (atomValidS_any x _ (by unfold maxLen; omega)).mono ?_
        rintro e w2 ⟨rfl, rfl⟩
        rw [HP.out]
        go_wp2
        go_round
        case rel => exact ⟨k + 1, by omega, by go_num, fun j h h' => by
          by_cases e : j = k
          · subst e; exact HQ.out
          · exact HA.out j (by omega) h'⟩
        case measure => simp [intOf]; omega
    · have HE : Hid (xs.all isAtom = true) := by
        show _ = _
        rw [List.all_eq_true]; intro x hx
        obtain ⟨j, hj, rfl⟩ := List.getElem_of_mem hx
        exact HA.out j (by omega) hj
      go_wp2
      go_ret
      exact ⟨ret_bool (by rw [HD.out, HE.out, Bool.and_true]; rw [Bool.eq_iff_iff]; simp; omega), hb1⟩
theorem labC_nat : ∀ n, n < 256 → labC (UInt8.ofNat n) = ((alnumB (UInt8.ofNat n) || decide (UInt8.ofNat n = 45)) && !capB (UInt8.ofNat n)) := by decide +kernel
theorem labC_eq (c : UInt8) : labC c = ((alnumB c || decide (c = 45)) && !capB c) := by
  have := labC_nat c.toNat c.toNat_lt; rw [UInt8.ofNat_toNat] at this; exact this
set_option maxRecDepth 100000 in
set_option maxHeartbeats 8000000 in
theorem l2Domain_any (s : ByteArray) (w : World) (hs : s.size ≤ 1073741000) :
    Calls Tryd.prog 80 #[.string s] w fun e w' => e = .returned (.bool (isDomain s.data.toList)) ∧ Below w.heap.size w w' := by
  have HSM := Lib.hid (splitC_small 46 s.data.toList)
  have HD : Hid (isDomain s.data.toList = (decide (s.size ≤ 40) && (splitC 46 s.data.toList).all isLab)) := rfl
  go_enter Tryd.func80, Tryd.ntmps80
  go_wp2_with fail
  refine (l2Parts_any s 46 _ hs).mono ?_
  rintro e w1 ⟨v, rfl, ho, hb1⟩
  obtain ⟨a1, c1, rfl, hr, hm⟩ := ho.read
  generalize hX : splitC 46 s.data.toList = xs at *
  have HX := Lib.hid hX
  obtain ⟨_, hr2⟩ := hr
  have HR := Lib.hid hr2
  have hlen : xs.length ≤ 1073741824 := by have := HSM.out.1; rw [size_list] at this; omega
  clear hX hr2
  go_wp2_with fail
  go_loop [4] (fun i => ∃ k : Nat, k ≤ xs.length ∧ i = .int .i64 k ∧ ∀ j, (h : j < k) → (h' : j < xs.length) → isLab xs[j] = true) (fun i => xs.length - (intOf i).toNat)
  case atStart => exact ⟨0, Nat.zero_le _, rfl, fun j h => by omega⟩
  case round =>
    obtain ⟨k, hk, rfl, hall⟩ := hrel
    have HA := Lib.hid hall
    clear hall
    by_cases hlt : k < xs.length
    · obtain ⟨b, o, rfl, hbl, hcell⟩ := HR.out.resolve_left (by omega)
      have hc1 : w1.cell? ⟨b, o + k, none⟩ = some (.string (str xs[k])) := hcell k hlt
      have hsz : (str xs[k]).size ≤ 1073741824 := by rw [str_size]; have := HSM.out.2 _ (List.getElem_mem hlt); rw [size_list] at this; omega
      have HBAD : Hid (isLab xs[k] = false → xs.all isLab = false) := fun hp => by rw [List.all_eq_false]; exact ⟨_, List.getElem_mem hlt, by simp [hp]⟩
      have HOK : Hid (isLab xs[k] = true → ∀ j, (h : j < k + 1) → (h' : j < xs.length) → isLab xs[j] = true) := fun hp j h h' => by
        by_cases e : j = k
        · subst e; exact hp
        · exact HA.out j (by omega) h'
      have HXK : Hid (xs[k] = (str xs[k]).data.toList) := by show _ = _; rw [str_list]
      generalize str xs[k] = x at *
      clear hcell
      by_cases h0 : x.size = 0
      · have HB := Lib.hid (HBAD.out (by rw [HXK.out]; exact isLab_nil x h0))
        have he := empty_t h0
        have H0 := Lib.hid h0
        clear h0
        go_wp2
        go_ret
        exact ⟨ret_bool (by rw [HD.out, HB.out]; simp), hb1⟩
      · have he := empty_f (s := x) (by omega)
        have hp : 0 < x.size := by omega
        have hp2 : 1 ≤ x.size := by omega
        have h0' : x.size - 1 < x.size := by omega
        have hhead : x.data.toList.head? = some x[0] := by
          rw [List.head?_eq_getElem?, List.getElem?_eq_getElem (by rw [size_list]; exact hp)]; rfl
        have hlast : x.data.toList.getLast? = some x[x.size - 1] := by
          rw [List.getLast?_eq_getElem?, size_list, List.getElem?_eq_getElem (by rw [size_list]; omega)]; rfl
        by_cases ha : x[0] = 45
        · have HB := Lib.hid (HBAD.out (by rw [HXK.out]; unfold isLab; rw [hhead, ha]; simp))
          have e1 := beq_t ha (n := 45) rfl
          clear ha hhead hlast
          go_wp2
          go_ret
          exact ⟨ret_bool (by rw [HD.out, HB.out]; simp), hb1⟩
        · have e1 := beq_f ha (n := 45) rfl
          by_cases hb : x[x.size - 1] = 45
          · have HB := Lib.hid (HBAD.out (by rw [HXK.out]; unfold isLab; rw [hlast, hb]; simp))
            have e2 := beq_t hb (n := 45) rfl
            clear ha hb hhead hlast
            go_wp2
            go_ret
            exact ⟨ret_bool (by rw [HD.out, HB.out]; simp), hb1⟩
          · have e2 := beq_f hb (n := 45) rfl
            have HGOOD : Hid ((∀ j, (h' : j < x.size) → labC x[j] = true) → isLab xs[k] = true) := fun h => by
              rw [HXK.out, isLab_good x hp h]; simp [ha, hb]
            have HBAD2 : Hid (∀ j, (h' : j < x.size) → labC x[j] = false → xs.all isLab = false) := fun j h' h => HBAD.out (by rw [HXK.out]; exact isLab_bad x j h' h)
            clear ha hb hhead hlast
            go_wp2_with fail
            go_loop [6] (fun i => ∃ q : Nat, q ≤ x.size ∧ i = .int .i64 q ∧ ∀ j, (h : j < q) → (h' : j < x.size) → labC x[j] = true) (fun i => x.size - (intOf i).toNat)
            case atStart => exact ⟨0, Nat.zero_le _, rfl, fun j h => by omega⟩
            case round =>
              obtain ⟨q, hq, rfl, hqall⟩ := hrel
              have HQA := Lib.hid hqall
              clear hqall
              by_cases hqlt : q < x.size
              · have HEQ := Lib.hid (labC_eq x[q])
                have HSTEP : Hid (labC x[q] = true → ∀ j, (h : j < q + 1) → (h' : j < x.size) → labC x[j] = true) := fun hp j h h' => by
                  by_cases e : j = q
                  · subst e; exact hp
                  · exact HQA.out j (by omega) h'
                cases hal : alnumB x[q]
                · have HAL := Lib.hid hal
                  by_cases h45 : x[q] = 45
                  · have e3 := bneq_f h45 (n := 45) rfl
                    have hlow : (x[q].toNat : Int) < 65 := by rw [h45]; decide
                    have HN := Lib.hid (HSTEP.out (by rw [HEQ.out, h45]; decide))
                    clear hal h45
                    go_wp2_with fail
                    refine (l1Letter_any _ _).mono ?_
                    rintro e w2 ⟨rfl, rfl⟩
                    rw [HAL.out]
                    go_wp2
                    go_round
                    case rel => exact ⟨q + 1, by omega, by go_num, HN.out⟩
                    case measure => simp [intOf]; omega
                  · have e3 := bneq_t h45 (n := 45) rfl
                    have HB := Lib.hid (HBAD2.out q hqlt (by rw [HEQ.out, hal]; simp [h45]))
                    clear hal h45
                    go_wp2_with fail
                    refine (l1Letter_any _ _).mono ?_
                    rintro e w2 ⟨rfl, rfl⟩
                    rw [HAL.out]
                    go_wp2
                    go_ret
                    exact ⟨ret_bool (by rw [HD.out, HB.out]; simp), hb1⟩
                · have HAL := Lib.hid hal
                  cases hcp : capB x[q]
                  · have HN := Lib.hid (HSTEP.out (by rw [HEQ.out, hal, hcp]; rfl))
                    rcases capB_f hcp with hlow | ⟨hlo, hhi⟩
                    · clear hal hcp
                      go_wp2_with fail
                      refine (l1Letter_any _ _).mono ?_
                      rintro e w2 ⟨rfl, rfl⟩
                      rw [HAL.out]
                      go_wp2
                      go_round
                      case rel => exact ⟨q + 1, by omega, by go_num, HN.out⟩
                      case measure => simp [intOf]; omega
                    · clear hal hcp
                      go_wp2_with fail
                      refine (l1Letter_any _ _).mono ?_
                      rintro e w2 ⟨rfl, rfl⟩
                      rw [HAL.out]
                      go_wp2
                      go_round
                      case rel => exact ⟨q + 1, by omega, by go_num, HN.out⟩
                      case measure => simp [intOf]; omega
                  · have HB := Lib.hid (HBAD2.out q hqlt (by rw [HEQ.out, hcp]; simp))
                    obtain ⟨hlo, hhi⟩ := capB_t hcp
                    clear hal hcp
                    go_wp2_with fail
                    refine (l1Letter_any _ _).mono ?_
                    rintro e w2 ⟨rfl, rfl⟩
                    rw [HAL.out]
                    go_wp2
                    go_ret
                    exact ⟨ret_bool (by rw [HD.out, HB.out]; simp), hb1⟩
              · have HG := Lib.hid (HOK.out (HGOOD.out (fun j h' => HQA.out j (by omega) h')))
                go_wp2
                go_round
                case rel => exact ⟨k + 1, by omega, by go_num, HG.out⟩
                case measure => simp [intOf]; omega
    · have HE : Hid (xs.all isLab = true) := by
        show _ = _
        rw [List.all_eq_true]; intro x hx
        obtain ⟨j, hj, rfl⟩ := List.getElem_of_mem hx
        exact HA.out j (by omega) hj
      go_wp2
      go_ret
      exact ⟨ret_bool (by rw [HD.out, HE.out, Bool.and_true]; rw [Bool.eq_iff_iff]; simp; omega), hb1⟩
end Go.Proofs.YtfiaankfmdpmkaaDoor
end

section
namespace Go.Proofs.YtfiaankfmdpmkaaDoor
open Go.RowKit

set_option maxRecDepth 100000 in
set_option maxHeartbeats 400000 in
theorem l2Name_any (s : ByteArray) (w : World) (hs : s.size ≤ 1073741824) :
    Calls Tryd.prog 78 #[.string s] w fun e w' => e = .returned (.bool (isName s.data.toList)) ∧ w = w' := by
  have HD : Hid (isName s.data.toList = (isText s.data.toList && decide (s.size ≤ 40))) := rfl
  cases h : isText s.data.toList
  · have H := Lib.hid h
    clear h
    go_enter Tryd.func78, Tryd.ntmps78
    go_wp2_with fail
    refine (textValidS_any s _ (by unfold maxLen; omega)).mono ?_
    rintro e w1 ⟨rfl, rfl⟩
    rw [H.out]
    go_wp2
    go_ret
    exact ⟨ret_bool (by rw [HD.out, H.out]; rfl), rfl⟩
  · have H := Lib.hid h
    clear h
    go_enter Tryd.func78, Tryd.ntmps78
    go_wp2_with fail
    refine (textValidS_any s _ (by unfold maxLen; omega)).mono ?_
    rintro e w1 ⟨rfl, rfl⟩
    rw [H.out]
    go_wp2
    go_ret
    exact ⟨ret_bool (by rw [HD.out, H.out, Bool.true_and, Bool.eq_iff_iff]; simp; omega), rfl⟩
theorem isLocal_long {l : List UInt8} (h : 30 < l.length) : isLocal l = false := by unfold isLocal; rw [decide_eq_false (by omega)]; rfl
theorem isDomain_long {l : List UInt8} (h : 40 < l.length) : isDomain l = false := by unfold isDomain; rw [decide_eq_false (by omega)]; rfl
set_option maxRecDepth 100000 in
set_option maxHeartbeats 1000000 in
theorem addressValidS_any (n l d : ByteArray) (w : World) (hn : n.size ≤ 1073741000) (hl : l.size ≤ 1073741000) (hd : d.size ≤ 1073741000) :
    Calls Tryd.prog 67 #[.agg #[.string n, .string l, .string d]] w fun e w' => e = .returned (.bool (isAdr (adr n l d))) ∧ Below w.heap.size w w' := by
  have HP : Hid (isAdr (adr n l d) = (isName n.data.toList && isLocal l.data.toList && isDomain d.data.toList)) := rfl
  have hb0 : Below w.heap.size w (w.alloc (.cells #[.string n, .string l, .string d] 75)) := (Below.refl _ _).alloc (Nat.le_refl _) _
  cases h1 : isName n.data.toList
  · have H1 := Lib.hid h1
    clear h1
    go_enter Tryd.func67, Tryd.ntmps67
    go_wp2_with fail
    refine (l2Name_any n _ (by omega)).mono ?_
    rintro e w1 ⟨rfl, rfl⟩
    rw [H1.out]
    go_wp2
    go_ret
    exact ⟨ret_bool (by rw [HP.out, H1.out]; rfl), hb0⟩
  · have H1 := Lib.hid h1
    clear h1
    by_cases h30 : l.size ≤ 30
    · have d1 : decide ((l.size : Int) ≤ 30) = true := by simp; omega
      cases h3 : isLocal l.data.toList
      · have H3 := Lib.hid h3
        clear h3
        go_enter Tryd.func67, Tryd.ntmps67
        go_wp2_with fail
        refine (l2Name_any n _ (by omega)).mono ?_
        rintro e w1 ⟨rfl, rfl⟩
        rw [H1.out]
        go_wp2_with fail
        refine (l2Local_any l _ hl).mono ?_
        rintro e w1 ⟨rfl, hb1⟩
        rw [H3.out]
        go_wp2
        go_ret
        exact ⟨ret_bool (by rw [HP.out, H1.out, H3.out]; rfl), nx hb0 hb1⟩
      · have H3 := Lib.hid h3
        clear h3
        by_cases h40 : d.size ≤ 40
        · have d2 : decide ((d.size : Int) ≤ 40) = true := by simp; omega
          go_enter Tryd.func67, Tryd.ntmps67
          go_wp2_with fail
          refine (l2Name_any n _ (by omega)).mono ?_
          rintro e w1 ⟨rfl, rfl⟩
          rw [H1.out]
          go_wp2_with fail
          refine (l2Local_any l _ hl).mono ?_
          rintro e w1 ⟨rfl, hb1⟩
          rw [H3.out]
          obtain ⟨hc, hf⟩ := bcell hb1
          go_wp2_with fail
          refine (l2Domain_any d _ hd).mono ?_
          rintro e w2 ⟨rfl, hb2⟩
          go_wp2
          go_ret
          exact ⟨ret_bool (by rw [HP.out, H1.out, H3.out]; rfl), nx (nx hb0 hb1) hb2⟩
        · have d2 : decide ((d.size : Int) ≤ 40) = false := by simp; omega
          have HDD := Lib.hid (isDomain_long (l := d.data.toList) (by rw [size_list]; omega))
          go_enter Tryd.func67, Tryd.ntmps67
          go_wp2_with fail
          refine (l2Name_any n _ (by omega)).mono ?_
          rintro e w1 ⟨rfl, rfl⟩
          rw [H1.out]
          go_wp2_with fail
          refine (l2Local_any l _ hl).mono ?_
          rintro e w1 ⟨rfl, hb1⟩
          rw [H3.out]
          obtain ⟨hc, hf⟩ := bcell hb1
          go_wp2
          go_ret
          exact ⟨ret_bool (by rw [HP.out, H1.out, H3.out, HDD.out]; rfl), nx hb0 hb1⟩
    · have d1 : decide ((l.size : Int) ≤ 30) = false := by simp; omega
      have HLL := Lib.hid (isLocal_long (l := l.data.toList) (by rw [size_list]; omega))
      go_enter Tryd.func67, Tryd.ntmps67
      go_wp2_with fail
      refine (l2Name_any n _ (by omega)).mono ?_
      rintro e w1 ⟨rfl, rfl⟩
      rw [H1.out]
      go_wp2
      go_ret
      exact ⟨ret_bool (by rw [HP.out, H1.out, HLL.out]; rfl), hb0⟩
end Go.Proofs.YtfiaankfmdpmkaaDoor
end

section
namespace Go.Proofs.YtfiaankfmdpmkaaDoor
open Go.RowKit

def boxVal (l : List UInt8) : Adr × Bool := match cutU 64 l with
  | none => (⟨[], l, []⟩, false)
  | some (a, d) => (⟨[], a, low d⟩, isAdr ⟨[], a, low d⟩)
theorem boxVal_boxA (l : List UInt8) : boxA [] l = if (boxVal l).2 then some (boxVal l).1 else none := by
  unfold boxA boxVal
  cases cutU 64 l with
  | none => rfl
  | some y => rfl
theorem boxVal_small (l : List UInt8) : (boxVal l).1.loc.length ≤ l.length ∧ (boxVal l).1.dom.length ≤ l.length ∧ (boxVal l).1.name = [] := by
  unfold boxVal
  cases h : cutU 64 l with
  | none => exact ⟨Nat.le_refl _, by simp, rfl⟩
  | some y =>
    obtain ⟨a, d⟩ := y
    have := cutU_bound h
    exact ⟨by show a.length ≤ _; omega, by show (low d).length ≤ _; unfold low; rw [List.length_map]; omega, rfl⟩
def BoxRet (l : List UInt8) (w : World) (e : Ending) (w' : World) : Prop := e = .returned (.tuple #[adrV (boxVal l).1, .bool (boxVal l).2]) ∧ Below w.heap.size w w'
theorem boxRet_none {l : List UInt8} {w w' : World} {x : ByteArray} (h : cutU 64 l = none) (hx : x.data.toList = l) (hb : Below w.heap.size w w') : BoxRet l w (.returned (.tuple #[.agg #[.string ⟨#[]⟩, .string x, .string ⟨#[]⟩], .bool false])) w' := by
  refine ⟨?_, hb⟩
  unfold boxVal; rw [h]
  show _ = Ending.returned (.tuple #[.agg #[.string (str []), .string (str l), .string (str [])], .bool false])
  rw [← hx, str_of]; rfl
theorem boxRet_some {l a d : List UInt8} {w w' : World} {b : Bool} (h : cutU 64 l = some (a, d)) (hv : b = isAdr ⟨[], a, low d⟩) (hb : Below w.heap.size w w') : BoxRet l w (.returned (.tuple #[.agg #[.string ⟨#[]⟩, .string (str a), .string (str (low d))], .bool b])) w' := by
  refine ⟨?_, hb⟩
  unfold boxVal; rw [h, hv]; rfl
theorem lowS_nil : lowS ⟨#[]⟩ = ⟨#[]⟩ := rfl
set_option maxRecDepth 100000 in
set_option maxHeartbeats 1000000 in
theorem l2Box_any (s : ByteArray) (w : World) (hs : s.size ≤ 1073741000) :
    Calls Tryd.prog 52 #[.string s] w (BoxRet s.data.toList w) := by
  have hb0 : Below w.heap.size w (w.alloc (.cells #[.string ⟨#[]⟩, .string ⟨#[]⟩, .string ⟨#[]⟩] 75)) := (Below.refl _ _).alloc (Nat.le_refl _) _
  cases hcut : cutU 64 s.data.toList with
  | none =>
    have HC := Lib.hid hcut
    clear hcut
    go_enter Tryd.func52, Tryd.ntmps52
    go_wp2_with fail
    refine (l2Cut_any s 64 _ (by decide) (by omega)).mono ?_
    rintro e w1 ⟨_, hno, q, rfl⟩
    have he := hno HC.out
    clear hno
    subst he
    have hb1 := below_drewN hb0 q
    go_wp2_with fail
    refine (lowerTextS_any ⟨#[]⟩ _ (by decide)).mono ?_
    rintro e w2 ⟨rfl, hb2⟩
    rw [lowS_nil]
    obtain ⟨hc, hf⟩ := bcell hb2
    have hsz := hb2.size
    simp at hsz
    have hlt : w.heap.size < w2.heap.size := by omega
    have hne : w.heap.size ≠ w2.heap.size := by omega
    have hne2 : w2.heap.size ≠ w.heap.size := by omega
    go_wp2
    go_region
    all_goals
      go_wp2
      refine bodyPost_ret (v := .tuple #[.agg #[.string ⟨#[]⟩, .string s, .string ⟨#[]⟩], .bool false]) (by simp [results, Tryd.results52, go_sem, hc, hlt, World.cell?_alloc_lt]) rfl (boxRet_none HC.out rfl ?_)
      exact ((((((nx hb1 hb2).setCell (by simp) _).setCell (by simp) _).setCell (by simp) _).alloc (by simp; omega) _).drew)
  | some y =>
    obtain ⟨a, d⟩ := y
    have hbd := cutU_bound hcut
    rw [size_list] at hbd
    have HC := Lib.hid hcut
    have HLD := Lib.hid (lowS_str d)
    have hlz : (str a).size ≤ 1073741000 := by rw [str_size]; omega
    have hdz : (str d).size ≤ 1073741000 := by rw [str_size]; omega
    have hez : (str (low d)).size ≤ 1073741000 := by rw [str_size]; unfold low; rw [List.length_map]; omega
    have HAD : Hid (adr ⟨#[]⟩ (str a) (str (low d)) = ⟨[], a, low d⟩) := adr_str ⟨[], a, low d⟩
    clear hcut hbd
    go_enter Tryd.func52, Tryd.ntmps52
    go_wp2_with fail
    refine (l2Cut_any s 64 _ (by decide) (by omega)).mono ?_
    rintro e w1 ⟨hy, _, q, rfl⟩
    have he := hy a d HC.out
    clear hy
    subst he
    have hb1 := below_drewN hb0 q
    go_wp2_with fail
    refine (lowerTextS_any (str d) _ (by omega)).mono ?_
    rintro e w2 ⟨rfl, hb2⟩
    rw [HLD.out]
    obtain ⟨hc, hf⟩ := bcell hb2
    have hsz := hb2.size
    simp at hsz
    have hlt : w.heap.size < w2.heap.size := by omega
    have hlt2 : w.heap.size < w2.heap.size + 1 := by omega
    have hne : w.heap.size ≠ w2.heap.size := by omega
    have hne2 : w2.heap.size ≠ w.heap.size := by omega
    go_wp2
    go_region_with (go_at_call 67; refine (addressValidS_any ⟨#[]⟩ (str a) (str (low d)) _ ?_ ?_ ?_).mono ?_; exact Nat.zero_le _; exact hlz; exact hez; rintro e w5 ⟨rfl, hb5⟩; rw [HAD.out]; obtain ⟨hc5, hf5⟩ := bcell hb5)
    all_goals
      go_wp2
      refine bodyPost_ret (v := .tuple #[.agg #[.string ⟨#[]⟩, .string (str a), .string (str (low d))], .bool (isAdr ⟨[], a, low d⟩)]) (by simp [results, Tryd.results52, go_sem, hc, hc5, hlt, hlt2, World.cell?_alloc_lt]) rfl (boxRet_some HC.out rfl ?_)
      have h25 : Below w.heap.size w w5 := nx (((nx hb1 hb2).alloc (nx hb1 hb2).size _).drew) hb5
      exact (((h25.setCell (by simp) _).setCell (by simp) _).setCell (by simp) _)
end Go.Proofs.YtfiaankfmdpmkaaDoor
end

section
namespace Go.Proofs.YtfiaankfmdpmkaaDoor
open Go.RowKit

theorem boxVal_path (l : List UInt8) : isPath l = ((boxVal l).2 && decide (boxT (boxVal l).1 = l)) := by
  rw [path_box, boxVal_boxA]
  cases (boxVal l).2 <;> rfl
theorem boxVal_low (l : List UInt8) : isPath (lowPath l) = (boxVal l).2 ∧ (isPath (lowPath l) = true → boxT (boxVal l).1 = lowPath l) := by
  have h := box_path l
  rw [boxVal_boxA] at h
  cases hb : (boxVal l).2 with
  | false =>
    rw [hb] at h
    cases hp : isPath (lowPath l) with
    | false => exact ⟨rfl, fun h => by cases h⟩
    | true => rw [hp] at h; cases h
  | true =>
    rw [hb] at h
    cases hp : isPath (lowPath l) with
    | false => rw [hp] at h; cases h
    | true => rw [hp] at h; injection h with h; exact ⟨rfl, fun _ => h⟩
theorem strS_toList (l : List UInt8) : (str l).toList = l := by rw [ByteArray.toList_eq]; exact str_list _
theorem sumBox (p q : List UInt8) (s : ByteArray) : (((str p ++ ⟨#[64]⟩) ++ str q).toList == s.toList) = decide (p ++ 64 :: q = s.data.toList) := by
  have e : ((str p ++ ⟨#[64]⟩) ++ str q).toList = p ++ 64 :: q := by
    rw [ByteArray.toList_eq, Joins.data_append, Joins.data_append, str_list, str_list]; simp
  rw [e, ByteArray.toList_eq, Bool.eq_iff_iff, beq_iff_eq, decide_eq_true_iff]
set_option maxRecDepth 100000 in
set_option maxHeartbeats 1000000 in
theorem l10Box_any (s : ByteArray) (w : World) (hs : s.size ≤ 1073741000) :
    Calls Tryd.prog 30 #[.string s] w fun e w' => e = .returned (.bool (isPath s.data.toList)) ∧ Below w.heap.size w w' := by
  obtain ⟨z1, z2, z3⟩ := boxVal_small s.data.toList
  rw [size_list] at z1 z2
  have H0 : Hid (∀ u, Calls Tryd.prog 52 #[.string s] u (BoxRet s.data.toList u)) := fun u => l2Box_any s u (by omega)
  unfold BoxRet adrV at H0
  rw [boxVal_path]
  have d0 := sumBox (boxVal s.data.toList).1.loc (boxVal s.data.toList).1.dom s
  unfold boxT
  have s1 : (str (boxVal s.data.toList).1.loc).size ≤ 1073741000 := by rw [str_size]; omega
  have s2 : (str (boxVal s.data.toList).1.dom).size ≤ 1073741000 := by rw [str_size]; omega
  have s3 : (ByteArray.mk #[64]).size = 1 := rfl
  generalize decide ((boxVal s.data.toList).1.loc ++ 64 :: (boxVal s.data.toList).1.dom = s.data.toList) = g1 at *
  generalize (boxVal s.data.toList).2 = g0 at *
  generalize str (boxVal s.data.toList).1.loc = x1 at *
  generalize str (boxVal s.data.toList).1.dom = x2 at *
  generalize str (boxVal s.data.toList).1.name = x0 at *
  clear z1 z2 z3
  go_enter Tryd.func30, Tryd.ntmps30
  go_wp2_with fail
  refine (H0.out _).mono ?_
  rintro e w1 ⟨rfl, hb1⟩
  have hb2 : Below w.heap.size w (w1.alloc (.cells #[.string x0, .string x1, .string x2] 75)) := hb1.alloc hb1.size _
  cases g0
  · go_wp2
    go_ret
    exact ⟨rfl, by first | exact hb2 | exact hb1⟩
  · go_wp2
    go_ret
    exact ⟨rfl, by first | exact hb2 | exact hb1⟩
theorem boxE (x : ByteArray) (w : World) (hx : x.size ≤ 1073741000) : Calls Tryd.prog 30 #[.string x] w fun e w' => e = .returned (.bool (isPath x.data.toList)) ∧ Below w.heap.size w w' := l10Box_any x w hx
theorem textSE (x : ByteArray) (w : World) (hx : x.size ≤ 1073741000) : Calls Tryd.prog 68 #[.string x] w fun e w' => e = .returned (.bool (isText x.data.toList)) ∧ Below w.heap.size w w' :=
  (textValidS_any x w (by unfold maxLen; omega)).mono (fun _ _ ⟨he, hw⟩ => ⟨he, hw ▸ Below.refl _ _⟩)
theorem all_bad {P : List UInt8 → Bool} {xs : List (List UInt8)} {k : Nat} (h : k < xs.length) (hp : P xs[k] = false) : xs.all P = false := by
  rw [List.all_eq_false]; exact ⟨_, List.getElem_mem h, by simp [hp]⟩
theorem all_good {P : List UInt8 → Bool} {xs : List (List UInt8)} {n : Nat} (hn : xs.length ≤ n) (h : ∀ j, j < n → (h' : j < xs.length) → P xs[j] = true) : xs.all P = true := by
  rw [List.all_eq_true]; intro x hx
  obtain ⟨j, hj, rfl⟩ := List.getElem_of_mem hx
  exact h j (by omega) hj
set_option maxRecDepth 100000 in
set_option maxHeartbeats 4000000 in
theorem l10Draft_any (M : Nat) (x : MlA) (w : World) (h1 : RdM M w x) (hM : M ≤ 1073741000) :
    Calls Tryd.prog 53 #[mlV x] w fun e w' => e = .returned (.bool (isDraft x.m)) ∧ Below w.heap.size w w' := by
  obtain ⟨⟨f1, t1, l1⟩, a1, c1, b1, d1⟩ := x
  obtain ⟨⟨p1, _, _⟩, ⟨p2, _, _⟩, p0, p3, p5, p4, p6⟩ := h1
  dsimp only at *
  unfold mlV isDraft isSend
  dsimp only
  have H0 : Hid (∀ u, Below w.heap.size w u → Calls Tryd.prog 30 #[.string (str f1)] u fun e w' => e = .returned (.bool (isPath f1)) ∧ Below u.heap.size u w') := fun u hb => by
    have := l10Box_any (str f1) u (by rw [str_size]; omega)
    rw [str_list] at this; exact this
  have P1 := Lib.hid p1
  have P2 := Lib.hid p2
  have P5 := Lib.hid p5
  have P6 := Lib.hid p6
  have e1 : decide (t1.length ≤ 10) = decide ((t1.length : Int) ≤ 10) := decide_eq_decide.2 (by omega)
  have e2 : decide (l1.length ≤ 31) = decide ((l1.length : Int) ≤ 31) := decide_eq_decide.2 (by omega)
  rw [e1, e2]
  have d0 := eqEmp f1
  have d0' : ((str f1).toList != []) = !decide (f1 = []) := by rw [bne, d0]
  have hz1 : t1.length ≤ 1073741000 := by omega
  have hz2 : l1.length ≤ 1073741000 := by omega
  have HN1 : Hid (t1.length ≤ t1.length) := Nat.le_refl _
  have HN2 : Hid (l1.length ≤ l1.length) := Nat.le_refl _
  clear p1 p2 p3 p4 p5 p6 p0 e1 e2
  generalize decide (f1 = []) = g00 at *
  generalize isPath f1 = g0 at *
  obtain ⟨n1, hn1⟩ : ∃ n, n = t1.length := ⟨_, rfl⟩
  obtain ⟨n3, hn3⟩ : ∃ n, n = l1.length := ⟨_, rfl⟩
  rw [← hn1, ← hn3]
  rw [← hn1] at hz1 P1
  rw [← hn3] at hz2 P2
  have HE1 := Lib.hid hn1
  have HE3 := Lib.hid hn3
  clear hn1 hn3 HN1 HN2
  generalize str f1 = s1 at *
  have hA : Below w.heap.size w (w.alloc (.cells #[.string s1, .slice a1 n1 c1, .slice b1 n3 d1] 36)) := (Below.refl _ _).alloc (Nat.le_refl _) _
  have HX := Lib.hid (MK3.new w (.string s1) (.slice a1 n1 c1) (.slice b1 n3 d1) 36)
  cases g00
  · cases g0
    · go_enter Tryd.func53, Tryd.ntmps53
      go_wp2_with fail
      refine (H0.out _ hA).mono ?_
      rintro e w1 ⟨rfl, hb1⟩
      have hb01 := nx hA hb1
      have HX1 := Lib.hid (HX.out.below hb1)
      go_wp2
      go_ret
      exact ⟨rfl, hb01⟩
    · by_cases k1 : (n1 : Int) ≤ 10
      · by_cases k2 : (n3 : Int) ≤ 31
        · rw [decide_eq_true k1, decide_eq_true k2]
          go_enter Tryd.func53, Tryd.ntmps53
          go_wp2_with fail
          refine (H0.out _ hA).mono ?_
          rintro e w1 ⟨rfl, hb1⟩
          have hb01 := nx hA hb1
          have HX1 := Lib.hid (HX.out.below hb1)
          obtain ⟨y0, y1, y2⟩ := HX1.out
          go_wp2_with fail
          go_loopw [3] (fun i w5 => ∃ k : Nat, k ≤ n1 ∧ i = .int .i64 k ∧ Below w1.heap.size w1 w5 ∧ ∀ j, j < k → (h' : j < t1.length) → isPath t1[j] = true) (fun i _ => n1 - (intOf i).toNat)
          case atStart => exact ⟨0, Nat.zero_le _, rfl, Below.refl _ _, fun j h => by omega⟩
          case round =>
            obtain ⟨k, hk, rfl, hb, hall⟩ := hrel
            have HA := Lib.hid hall
            clear hall
            obtain ⟨y0, y1, y2⟩ := HX1.out.below hb
            by_cases hlt : k < n1
            · have hkx : k < t1.length := by have := HE1.out; omega
              obtain ⟨b, off, rfl, hbl, hcell⟩ := P1.out.2.resolve_left (by omega)
              have hc1 : wr.cell? ⟨b, off + k, none⟩ = some (.string (str t1[k])) := by rw [below_at (nx hb01 hb) hbl]; exact hcell k hkx
              have HC : Hid (Calls Tryd.prog 30 #[.string (str t1[k])] wr fun e w' => e = .returned (.bool (isPath (str t1[k]).data.toList)) ∧ Below wr.heap.size wr w') := boxE _ wr (by rw [str_size]; have := P5.out _ (List.getElem_mem hkx); omega)
              rw [str_list] at HC
              clear hcell
              cases hp : isPath t1[k]
              · have HE : Hid (t1.all isPath = false) := all_bad hkx hp
                rw [hp] at HC
                generalize str t1[k] = z at *
                clear hp
                go_wp2_with fail
                refine HC.out.mono ?_
                rintro e w2 ⟨rfl, hb2⟩
                go_wp2
                go_ret
                exact ⟨ret_bool (by rw [HE.out]; simp), nx hb01 (nx hb hb2)⟩
              · have HQ := Lib.hid hp
                rw [hp] at HC
                generalize str t1[k] = z at *
                clear hp
                go_wp2_with fail
                refine HC.out.mono ?_
                rintro e w2 ⟨rfl, hb2⟩
                go_wp2
                go_roundw
                case rel => exact ⟨k + 1, by omega, by go_num, nx hb hb2, fun j h h' => by
                  by_cases e : j = k
                  · subst e; exact HQ.out
                  · exact HA.out j (by omega) h'⟩
                case measure => simp [intOf]; omega
            · have HT : Hid (t1.all isPath = true) := all_good (n := n1) (by have := HE1.out; omega) (fun j h h' => HA.out j (by omega) h')
              go_wp2_with fail
              go_loopw [4] (fun i w5 => ∃ k : Nat, k ≤ n3 ∧ i = .int .i64 k ∧ Below w1.heap.size w1 w5 ∧ ∀ j, j < k → (h' : j < l1.length) → isText l1[j] = true) (fun i _ => n3 - (intOf i).toNat)
              case atStart => exact ⟨0, Nat.zero_le _, rfl, hb, fun j h => by omega⟩
              case round =>
                clear y0 y1 y2 hlt hb hk
                obtain ⟨k2, hk, rfl, hb, hall⟩ := hrel
                have HA2 := Lib.hid hall
                clear hall
                obtain ⟨y0, y1, y2⟩ := HX1.out.below hb
                by_cases hlt : k2 < n3
                · have hkx : k2 < l1.length := by have := HE3.out; omega
                  obtain ⟨b, off, rfl, hbl, hcell⟩ := P2.out.2.resolve_left (by omega)
                  have hc1 : wr.cell? ⟨b, off + k2, none⟩ = some (.string (str l1[k2])) := by rw [below_at (nx hb01 hb) hbl]; exact hcell k2 hkx
                  have HC : Hid (Calls Tryd.prog 68 #[.string (str l1[k2])] wr fun e w' => e = .returned (.bool (isText (str l1[k2]).data.toList)) ∧ Below wr.heap.size wr w') := textSE _ wr (by rw [str_size]; have := P6.out _ (List.getElem_mem hkx); omega)
                  rw [str_list] at HC
                  clear hcell
                  cases hp : isText l1[k2]
                  · have HE : Hid (l1.all isText = false) := all_bad hkx hp
                    rw [hp] at HC
                    generalize str l1[k2] = z at *
                    clear hp
                    go_wp2_with fail
                    refine HC.out.mono ?_
                    rintro e w2 ⟨rfl, hb2⟩
                    go_wp2
                    go_ret
                    exact ⟨ret_bool (by rw [HE.out]; simp), nx hb01 (nx hb hb2)⟩
                  · have HQ := Lib.hid hp
                    rw [hp] at HC
                    generalize str l1[k2] = z at *
                    clear hp
                    go_wp2_with fail
                    refine HC.out.mono ?_
                    rintro e w2 ⟨rfl, hb2⟩
                    go_wp2
                    go_roundw
                    case rel => exact ⟨k2 + 1, by omega, by go_num, nx hb hb2, fun j h h' => by
                      by_cases e : j = k2
                      · subst e; exact HQ.out
                      · exact HA2.out j (by omega) h'⟩
                    case measure => simp [intOf]; omega
                · have HL : Hid (l1.all isText = true) := all_good (n := n3) (by have := HE3.out; omega) (fun j h h' => HA2.out j (by omega) h')
                  go_wp2
                  go_ret
                  exact ⟨ret_bool (by rw [HT.out, HL.out]; rfl), nx hb01 hb⟩
        · rw [decide_eq_false k2]
          go_enter Tryd.func53, Tryd.ntmps53
          go_wp2_with fail
          refine (H0.out _ hA).mono ?_
          rintro e w1 ⟨rfl, hb1⟩
          have hb01 := nx hA hb1
          have HX1 := Lib.hid (HX.out.below hb1)
          obtain ⟨y0, y1, y2⟩ := HX1.out
          go_wp2
          go_ret
          exact ⟨ret_bool (by simp), hb01⟩
      · rw [decide_eq_false k1]
        go_enter Tryd.func53, Tryd.ntmps53
        go_wp2_with fail
        refine (H0.out _ hA).mono ?_
        rintro e w1 ⟨rfl, hb1⟩
        have hb01 := nx hA hb1
        have HX1 := Lib.hid (HX.out.below hb1)
        obtain ⟨y0, y1, y2⟩ := HX1.out
        go_wp2
        go_ret
        exact ⟨ret_bool (by simp), hb01⟩
  · by_cases k1 : (n1 : Int) ≤ 10
    · by_cases k2 : (n3 : Int) ≤ 31
      · rw [decide_eq_true k1, decide_eq_true k2]
        go_enter Tryd.func53, Tryd.ntmps53
        have hb01 := hA
        have HX1 := HX
        obtain ⟨y0, y1, y2⟩ := HX1.out
        go_wp2_with fail
        generalize w.alloc (.cells #[.string s1, .slice a1 n1 c1, .slice b1 n3 d1] 36) = w1 at *
        go_loopw [3] (fun i w5 => ∃ k : Nat, k ≤ n1 ∧ i = .int .i64 k ∧ Below w1.heap.size w1 w5 ∧ ∀ j, j < k → (h' : j < t1.length) → isPath t1[j] = true) (fun i _ => n1 - (intOf i).toNat)
        case atStart => exact ⟨0, Nat.zero_le _, rfl, Below.refl _ _, fun j h => by omega⟩
        case round =>
          obtain ⟨k, hk, rfl, hb, hall⟩ := hrel
          have HA := Lib.hid hall
          clear hall
          obtain ⟨y0, y1, y2⟩ := HX1.out.below hb
          by_cases hlt : k < n1
          · have hkx : k < t1.length := by have := HE1.out; omega
            obtain ⟨b, off, rfl, hbl, hcell⟩ := P1.out.2.resolve_left (by omega)
            have hc1 : wr.cell? ⟨b, off + k, none⟩ = some (.string (str t1[k])) := by rw [below_at (nx hb01 hb) hbl]; exact hcell k hkx
            have HC : Hid (Calls Tryd.prog 30 #[.string (str t1[k])] wr fun e w' => e = .returned (.bool (isPath (str t1[k]).data.toList)) ∧ Below wr.heap.size wr w') := boxE _ wr (by rw [str_size]; have := P5.out _ (List.getElem_mem hkx); omega)
            rw [str_list] at HC
            clear hcell
            cases hp : isPath t1[k]
            · have HE : Hid (t1.all isPath = false) := all_bad hkx hp
              rw [hp] at HC
              generalize str t1[k] = z at *
              clear hp
              go_wp2_with fail
              refine HC.out.mono ?_
              rintro e w2 ⟨rfl, hb2⟩
              go_wp2
              go_ret
              exact ⟨ret_bool (by rw [HE.out]; simp), nx hb01 (nx hb hb2)⟩
            · have HQ := Lib.hid hp
              rw [hp] at HC
              generalize str t1[k] = z at *
              clear hp
              go_wp2_with fail
              refine HC.out.mono ?_
              rintro e w2 ⟨rfl, hb2⟩
              go_wp2
              go_roundw
              case rel => exact ⟨k + 1, by omega, by go_num, nx hb hb2, fun j h h' => by
                by_cases e : j = k
                · subst e; exact HQ.out
                · exact HA.out j (by omega) h'⟩
              case measure => simp [intOf]; omega
          · have HT : Hid (t1.all isPath = true) := all_good (n := n1) (by have := HE1.out; omega) (fun j h h' => HA.out j (by omega) h')
            go_wp2_with fail
            go_loopw [4] (fun i w5 => ∃ k : Nat, k ≤ n3 ∧ i = .int .i64 k ∧ Below w1.heap.size w1 w5 ∧ ∀ j, j < k → (h' : j < l1.length) → isText l1[j] = true) (fun i _ => n3 - (intOf i).toNat)
            case atStart => exact ⟨0, Nat.zero_le _, rfl, hb, fun j h => by omega⟩
            case round =>
              clear y0 y1 y2 hlt hb hk
              obtain ⟨k2, hk, rfl, hb, hall⟩ := hrel
              have HA2 := Lib.hid hall
              clear hall
              obtain ⟨y0, y1, y2⟩ := HX1.out.below hb
              by_cases hlt : k2 < n3
              · have hkx : k2 < l1.length := by have := HE3.out; omega
                obtain ⟨b, off, rfl, hbl, hcell⟩ := P2.out.2.resolve_left (by omega)
                have hc1 : wr.cell? ⟨b, off + k2, none⟩ = some (.string (str l1[k2])) := by rw [below_at (nx hb01 hb) hbl]; exact hcell k2 hkx
                have HC : Hid (Calls Tryd.prog 68 #[.string (str l1[k2])] wr fun e w' => e = .returned (.bool (isText (str l1[k2]).data.toList)) ∧ Below wr.heap.size wr w') := textSE _ wr (by rw [str_size]; have := P6.out _ (List.getElem_mem hkx); omega)
                rw [str_list] at HC
                clear hcell
                cases hp : isText l1[k2]
                · have HE : Hid (l1.all isText = false) := all_bad hkx hp
                  rw [hp] at HC
                  generalize str l1[k2] = z at *
                  clear hp
                  go_wp2_with fail
                  refine HC.out.mono ?_
                  rintro e w2 ⟨rfl, hb2⟩
                  go_wp2
                  go_ret
                  exact ⟨ret_bool (by rw [HE.out]; simp), nx hb01 (nx hb hb2)⟩
                · have HQ := Lib.hid hp
                  rw [hp] at HC
                  generalize str l1[k2] = z at *
                  clear hp
                  go_wp2_with fail
                  refine HC.out.mono ?_
                  rintro e w2 ⟨rfl, hb2⟩
                  go_wp2
                  go_roundw
                  case rel => exact ⟨k2 + 1, by omega, by go_num, nx hb hb2, fun j h h' => by
                    by_cases e : j = k2
                    · subst e; exact HQ.out
                    · exact HA2.out j (by omega) h'⟩
                  case measure => simp [intOf]; omega
              · have HL : Hid (l1.all isText = true) := all_good (n := n3) (by have := HE3.out; omega) (fun j h h' => HA2.out j (by omega) h')
                go_wp2
                go_ret
                exact ⟨ret_bool (by rw [HT.out, HL.out]; rfl), nx hb01 hb⟩
      · rw [decide_eq_false k2]
        go_enter Tryd.func53, Tryd.ntmps53
        go_wp2
        go_ret
        exact ⟨ret_bool (by simp), hA⟩
    · rw [decide_eq_false k1]
      go_enter Tryd.func53, Tryd.ntmps53
      go_wp2
      go_ret
      exact ⟨ret_bool (by simp), hA⟩
set_option maxRecDepth 100000 in
set_option maxHeartbeats 2000000 in
theorem mailValidS_any (M : Nat) (x : MlA) (w : World) (h1 : RdM M w x) (hM : M ≤ 1073741000) :
    Calls Tryd.prog 31 #[mlV x] w fun e w' => e = .returned (.bool (isMail x.m)) ∧ Below w.heap.size w w' := by
  have hA0 : ∀ o, Below w.heap.size w (w.alloc o) := fun o => (Below.refl _ _).alloc (Nat.le_refl _) o
  have H0 : Hid (∀ u, Below w.heap.size w u → Calls Tryd.prog 53 #[mlV x] u fun e w' => e = .returned (.bool (isDraft x.m)) ∧ Below u.heap.size u w') := fun u hb => l10Draft_any M x u (h1.below hb) hM
  obtain ⟨⟨f1, t1, l1⟩, a1, c1, b1, d1⟩ := x
  obtain ⟨⟨p1, _, _⟩, ⟨p2, _, _⟩, p0, p3, p5, p4, p6⟩ := h1
  dsimp only at *
  unfold isMail
  unfold mlV at *
  dsimp only at *
  have e1 : decide (0 < t1.length) = decide ((0 : Int) < (t1.length : Int)) := decide_eq_decide.2 (by omega)
  have e2 : decide (l1.length ≤ 30) = decide ((l1.length : Int) ≤ 30) := decide_eq_decide.2 (by omega)
  rw [e1, e2]
  have hz1 : t1.length ≤ 1073741000 := by omega
  have hz2 : l1.length ≤ 1073741000 := by omega
  clear p1 p2 p3 p4 p5 p6 p0 hM e1 e2
  generalize isDraft ⟨f1, t1, l1⟩ = g0 at *
  generalize t1.length = n1 at *
  generalize l1.length = n3 at *
  generalize str f1 = s1 at *
  have HX := Lib.hid (MK3.new w (.string s1) (.slice a1 n1 c1) (.slice b1 n3 d1) 36)
  go_enter Tryd.func31, Tryd.ntmps31
  go_wp2_with fail
  refine (H0.out _ (hA0 _)).mono ?_
  rintro e w1 ⟨rfl, hb1⟩
  have hb01 := nx (hA0 _) hb1
  obtain ⟨y0, y1, y2⟩ := HX.out.below hb1
  cases g0
  · go_wp2
    go_ret
    exact ⟨rfl, hb01⟩
  · by_cases k1 : (0 : Int) < (n1 : Int)
    · have z1 := decide_eq_true k1
      go_wp2
      go_ret
      exact ⟨ret_bool (by rw [z1]; rfl), hb01⟩
    · have z1 := decide_eq_false k1
      go_wp2
      go_ret
      exact ⟨ret_bool (by rw [z1]; rfl), hb01⟩
end Go.Proofs.YtfiaankfmdpmkaaDoor
end

section
namespace Go.Proofs.YtfiaankfmdpmkaaDoor
open Go.RowKit

theorem isBx_path {b : Bx} (h : isPath b.path = false) : isBx b = false := by unfold isBx; rw [h]; rfl
theorem isBx_long {b : Bx} (h : 4 < b.mails.length) : isBx b = false := by unfold isBx; rw [decide_eq_false (by omega)]; simp
theorem isBx_mail {x : BxA} {j : Nat} (h : j < x.xs.length) (hp : isMail x.xs[j].m = false) : isBx x.b = false := by
  unfold isBx; rw [show x.b.mails.all isMail = false from ml_bad h hp]; simp
theorem isBx_yes {x : BxA} (h1 : isPath x.path = true) (h2 : x.xs.length ≤ 4) (h3 : ∀ j, (h : j < x.xs.length) → isMail x.xs[j].m = true) : isBx x.b = true := by
  unfold isBx
  rw [show isPath x.b.path = true from h1, show x.b.mails.all isMail = true from ml_good (n := x.xs.length) (Nat.le_refl _) (fun j h h' => h3 j h'), show x.b.mails.length = x.xs.length by unfold BxA.b; simp, decide_eq_true h2]; rfl
set_option maxRecDepth 100000 in
set_option maxHeartbeats 8000000 in
theorem boxesValidS_any (M : Nat) (a : Option Addr) (n c : Nat) (xs : List BxA) (w : World) (hx : xs.length = n) (h1 : RdBs M w a xs) (hM : M ≤ 1073741000) (hn : n ≤ 1073741000) :
    Calls Tryd.prog 9 #[.slice a n c] w fun e w' => e = .returned (.bool (isBxs (xs.map BxA.b))) ∧ Below w.heap.size w w' := by
  have hl : (xs.map BxA.b).length = n := by rw [List.length_map]; exact hx
  have HLONG : Hid (8 < n → isBxs (xs.map BxA.b) = false) := fun h => isBxs_long (by omega)
  have HBAD : Hid (∀ k (h : k < xs.length), isBx (xs[k]'h).b = false → isBxs (xs.map BxA.b) = false) := fun k h hq => isBxs_all (bx_bad h hq)
  have HUP : Hid (∀ k (h : k + 1 < xs.length), ltP (xs[k]'(Nat.lt_of_succ_lt h)).path (xs[k + 1]'h).path = false → isBxs (xs.map BxA.b) = false) := fun k h hq => isBxs_up (bx_upbad h hq)
  have HYES : Hid (n ≤ 8 → (∀ j, j < n → (h' : j < xs.length) → isBx (xs[j]'h').b = true) → (∀ j, j + 1 < n → (h' : j + 1 < xs.length) → ltP (xs[j]'(Nat.lt_of_succ_lt h')).path (xs[j + 1]'h').path = true) → isBxs (xs.map BxA.b) = true) := fun h h2 h3 => isBxs_yes (by omega) (bx_good (by omega) h2) (bx_upgood (by omega) h3)
  have X1 := Lib.hid h1
  have L1 := Lib.hid hx
  obtain ⟨ANS, hans⟩ : ∃ A, A = isBxs (xs.map BxA.b) := ⟨_, rfl⟩
  rw [← hans] at HLONG HBAD HUP HYES ⊢
  clear h1 hl hx hans
  go_enter Tryd.func9, Tryd.ntmps9
  go_wp2_with fail
  go_loopw [3] (fun i wr => ∃ k : Nat, k ≤ n ∧ k ≤ 9 ∧ i = .int .i64 k ∧ Below w.heap.size w wr ∧ (∀ j, j < k → (h' : j < xs.length) → isBx xs[j].b = true) ∧ ∀ j, j + 1 < k → (h' : j + 1 < xs.length) → ltP xs[j].path xs[j + 1].path = true) (fun i _ => n - (intOf i).toNat)
  case atStart => exact ⟨0, Nat.zero_le _, by omega, rfl, Below.refl _ _, fun j h => by omega, fun j h => by omega⟩
  case round =>
    obtain ⟨k, hk, hk9, rfl, hb, hall, hup⟩ := hrel
    have HALL := Lib.hid hall
    have HUPS := Lib.hid hup
    clear hall hup
    by_cases hlt : k < n
    · by_cases hk8 : (k : Int) ≤ 8
      · have k1 : k < xs.length := by rw [L1.out]; exact hlt
        obtain ⟨b1, o1, rfl, hl1, p0, p1, p3⟩ := (X1.out.below hb).at k1
        have hkn : (k : Int) < (n : Int) := by omega
        have hk0 : (0 : Int) ≤ (k : Int) := by omega
        have HC : Hid (∀ y : BelowT wr, Calls Tryd.prog 30 #[.string (str xs[k].path)] y.val fun e w' => e = .returned (.bool (isPath xs[k].path)) ∧ Below y.val.heap.size y.val w') := fun y => by
          have := l10Box_any (str xs[k].path) y.val (by rw [str_size]; have := p3.2.1; omega)
          rw [str_list] at this; exact this
        have HBK := Lib.hid (HBAD.out k k1)
        have hxl : xs[k].xs.length ≤ 1073741000 := by have := p3.2.2.1; omega
        have HXR := Lib.hid p3
        have HCELL : Hid (∀ u, Below wr.heap.size wr u → u.cell? ⟨b1, o1 + k * 2, none⟩ = some (.string (str xs[k].path)) ∧ u.cell? ⟨b1, o1 + k * 2 + 1, none⟩ = some (.slice xs[k].a xs[k].xs.length xs[k].c)) := fun u hu => ⟨(below_at hu hl1).trans p0, (below_at hu hl1).trans p1⟩
        have HPREV : Hid (∀ u, Below wr.heap.size wr u → 0 < k → (h : k - 1 < xs.length) → u.cell? ⟨b1, o1 + (k - 1) * 2, none⟩ = some (.string (str xs[k - 1].path))) := fun u hu _ h => by
          obtain ⟨b2, o2, he2, hl2, q0, _, _⟩ := ((X1.out.below hb).below hu).at h
          injection he2 with he2
          injection he2 with e1 e2
          subst e1 e2
          exact q0
        have zc0 : ∀ y : BelowT wr, y.val.cell? ⟨b1, o1 + k * 2, none⟩ = some (.string (str xs[k].path)) := fun y => (HCELL.out _ y.below).1
        have zc1 : ∀ y : BelowT wr, y.val.cell? ⟨b1, o1 + k * 2 + 1, none⟩ = some (.slice xs[k].a xs[k].xs.length xs[k].c) := fun y => (HCELL.out _ y.below).2
        clear p0 p1 p3
        cases hp : isPath xs[k].path
        · have HN : Hid (ANS = false) := HBK.out (isBx_path hp)
          rw [hp] at HC
          clear hp
          generalize xs[k].xs.length = nn at *
          generalize xs[k].a = aa at *
          generalize xs[k].c = cc at *
          generalize str xs[k].path = s2 at *
          go_wp2_with fail
          refine wp_region_quietB (W := wr) (by kernel_rfl) (by kernel_rfl) (Below.refl _ _) ?_
          repeat (go_big_quiet_step (first
            | (go_at_call 30; exact calls_belowT (HC.out _))))
          refine wpQuiet_nil ?_
          intro wz hwz
          obtain ⟨x9, rfl⟩ := hwz
          have hb2 := x9.below
          clear zc0 zc1
          generalize x9.val = w2 at *
          have hb02 := nx hb hb2
          go_wp2
          go_ret
          exact ⟨ret_bool HN.out.symm, hb02⟩
        · have HP := Lib.hid hp
          rw [hp] at HC
          clear hp
          by_cases hlong : (xs[k].xs.length : Int) > 4
          · have HN : Hid (ANS = false) := HBK.out (isBx_long (by unfold BxA.b; simp; omega))
            generalize xs[k].xs.length = nn at *
            generalize xs[k].a = aa at *
            generalize xs[k].c = cc at *
            generalize str xs[k].path = s2 at *
            go_wp2_with fail
            refine wp_region_quietB (W := wr) (by kernel_rfl) (by kernel_rfl) (Below.refl _ _) ?_
            repeat (go_big_quiet_step (first
              | (go_at_call 30; exact calls_belowT (HC.out _))))
            refine wpQuiet_nil ?_
            intro wz hwz
            obtain ⟨x9, rfl⟩ := hwz
            have hb2 := x9.below
            clear zc0 zc1
            generalize x9.val = w2 at *
            have hb02 := nx hb hb2
            go_wp2
            go_ret
            exact ⟨ret_bool HN.out.symm, hb02⟩
          · have HL4 : Hid (xs[k].xs.length ≤ 4) := by show _ ≤ _; omega
            have HORD : Hid (k = 0 ∨ (0 < k ∧ (∀ h : k - 1 < xs.length, ltP xs[k - 1].path xs[k].path = true)) ∨ (0 < k ∧ (∀ h : k - 1 < xs.length, ltP xs[k - 1].path xs[k].path = false ∧ ANS = false))) := by
              rcases Nat.eq_zero_or_pos k with h0 | h0
              · exact .inl h0
              · have hkk : k - 1 + 1 = k := by omega
                have hk1' : k - 1 < xs.length := by omega
                have hE : ∀ h : k - 1 + 1 < xs.length, ltP xs[k - 1].path xs[k - 1 + 1].path = ltP xs[k - 1].path xs[k].path := fun h => by simp only [hkk]
                cases hq : ltP xs[k - 1].path xs[k].path
                · exact .inr (.inr ⟨h0, fun h => ⟨hq, HUP.out (k - 1) (by omega) (by rw [hE (by omega)]; exact hq)⟩⟩)
                · exact .inr (.inl ⟨h0, fun h => hq⟩)
            have HINNER : Hid (∀ h0 : (k = 0 ∨ ∀ h : k - 1 < xs.length, ltP xs[k - 1].path xs[k].path = true), ∀ j, j + 1 < k + 1 → (h' : j + 1 < xs.length) → ltP xs[j].path xs[j + 1].path = true) := fun h0 j hj h' => by
              by_cases e : j + 1 = k
              · rcases h0 with h0 | h0
                · omega
                · subst e
                  exact h0 (by omega)
              · exact HUPS.out j (by omega) h'
            rcases HORD.out with hk00 | ⟨hkp, hord⟩ | ⟨hkp, hord⟩
            · have HUPN := Lib.hid (HINNER.out (.inl hk00))
              generalize hKe : (k : Int) = K at *
              have HKK := Lib.hid hKe
              have hkz : K ≤ 0 := by omega
              have hkd : decide ((0 : Int) < K) = false := decide_eq_false (by omega)
              have hkt : K.toNat = k := by omega
              clear hk00 hKe
              generalize hX : xs[k] = x at *
              have HX := Lib.hid hX
              clear hX
              generalize hnn : x.xs.length = nn at *
              have HNN := Lib.hid hnn
              clear hnn
              have dl : decide ((nn : Int) > 4) = false := decide_eq_false hlong
              have dl2 : (nn : Int) ≤ 4 := by omega
              generalize str x.path = s2 at *
              go_wp2_with fail
              refine wp_region_quietB (W := wr) (by kernel_rfl) (by kernel_rfl) (Below.refl _ _) ?_
              repeat (go_big_quiet_step (first
                | (go_at_call 30; exact calls_belowT (HC.out _))))
              refine wpQuiet_nil ?_
              intro wz hwz
              obtain ⟨x9, rfl⟩ := hwz
              have hb2 := x9.below
              clear zc0 zc1
              generalize x9.val = w2 at *
              have hb02 := nx hb hb2
              obtain ⟨y0, y1⟩ := HCELL.out _ hb2
              go_wp2_with fail
              go_loopw [4] (fun i wi => ∃ j : Nat, j ≤ nn ∧ i = .int .i64 j ∧ Below w2.heap.size w2 wi ∧ ∀ t, t < j → (h' : t < x.xs.length) → isMail x.xs[t].m = true) (fun i _ => nn - (intOf i).toNat)
              case atStart => exact ⟨0, Nat.zero_le _, rfl, Below.refl _ _, fun j h => by omega⟩
              case round =>
                obtain ⟨j, hj, rfl, hbi, hmls⟩ := hrel
                have HMLS := Lib.hid hmls
                have hb3 := nx hb02 hbi
                obtain ⟨v0, v1⟩ := HCELL.out _ (nx hb2 hbi)
                clear hmls y0 y1
                by_cases hjn : j < nn
                · have j1 : j < x.xs.length := by rw [HNN.out]; exact hjn
                  obtain ⟨b3, o3, ha3, hl3, r0, r1, r2, r3⟩ := ((HXR.out.below (nx hb2 hbi)).1).at j1
                  rw [ha3] at v1
                  have hj0 : (0 : Int) ≤ (j : Int) := by omega
                  have hjn' : (j : Int) < (nn : Int) := by omega
                  have HMV : Hid (Calls Tryd.prog 31 #[.agg #[.string (str x.xs[j].m.frm), .slice x.xs[j].a1 x.xs[j].m.to.length x.xs[j].c1, .slice x.xs[j].a2 x.xs[j].m.lines.length x.xs[j].c2]] wr fun e w' => e = .returned (.bool (isMail x.xs[j].m)) ∧ Below wr.heap.size wr w') := mailValidS_any M x.xs[j] wr r3 hM
                  have HBM := Lib.hid (isBx_mail (x := x) j1)
                  have HQ : Hid (isMail x.xs[j].m = true → ∀ t (h' : t < x.xs.length), t = j → isMail x.xs[t].m = true) := fun hq t h' e => by subst e; exact hq
                  clear r3 ha3
                  obtain ⟨gm, hgm⟩ : ∃ g, g = isMail x.xs[j].m := ⟨_, rfl⟩
                  rw [← hgm] at HMV HBM HQ
                  clear hgm
                  generalize x.xs[j] = z at *
                  cases gm
                  · have HN : Hid (ANS = false) := HBK.out (HBM.out (by first | rfl | trivial))
                    go_wp2_with fail
                    refine HMV.out.mono ?_
                    rintro e w4 ⟨rfl, hb4⟩
                    go_wp2
                    go_ret
                    exact ⟨ret_bool HN.out.symm, nx hb3 hb4⟩
                  · go_wp2_with fail
                    refine HMV.out.mono ?_
                    rintro e w4 ⟨rfl, hb4⟩
                    clear v0 v1 r0 r1 r2
                    go_wp2
                    go_roundw
                    case rel => exact ⟨j + 1, by omega, by go_num, nx hbi hb4, fun t ht h' => by
                      by_cases e : t = j
                      · exact HQ.out (by first | rfl | trivial) t h' e
                      · exact HMLS.out t (by omega) h'⟩
                    case measure => simp [intOf]; omega
                · have HBX : Hid (isBx x.b = true) := isBx_yes HP.out (by have := HL4.out; have := HNN.out; omega) (fun t h => HMLS.out t (by have := HNN.out; omega) h)
                  generalize x.a = aa at *
                  generalize x.c = cc at *
                  go_wp2
                  go_roundw
                  case rel => exact ⟨k + 1, by omega, by omega, by rw [← HKK.out]; go_num, hb3, (fun t ht h' => by
                    by_cases e : t = k
                    · subst e; rw [HX.out]; exact HBX.out
                    · exact HALL.out t (by omega) h'), HUPN.out⟩
                  case measure => simp [intOf]; omega
            · have HUPN := Lib.hid (HINNER.out (.inr hord))
              have hk1' : k - 1 < xs.length := by omega
              have zc2 : ∀ y : BelowT wr, y.val.cell? ⟨b1, o1 + (k - 1) * 2, none⟩ = some (.string (str xs[k - 1].path)) := fun y => HPREV.out _ y.below hkp hk1'
              have z1 : decide ((k : Int) > 0) = true := decide_eq_true (by omega)
              have hkz : (0 : Int) < (k : Int) := by omega
              have hi0 : (0 : Int) ≤ (k : Int) - 1 := by omega
              have hi1 : (k : Int) - 1 < (n : Int) := by omega
              have hi2 : ((k : Int) - 1).toNat = k - 1 := by omega
              have hq' : Op.bytesLess (str xs[k - 1].path).toList (str xs[k].path).toList = true := hord hk1'
              generalize hX : xs[k] = x at *
              have HX := Lib.hid hX
              clear hX hord
              generalize hnn : x.xs.length = nn at *
              have HNN := Lib.hid hnn
              clear hnn
              have dl : decide ((nn : Int) > 4) = false := decide_eq_false hlong
              have dl2 : (nn : Int) ≤ 4 := by omega
              generalize str x.path = s2 at *
              generalize str xs[k - 1].path = s1 at *
              go_wp2_with fail
              refine wp_region_quietB (W := wr) (by kernel_rfl) (by kernel_rfl) (Below.refl _ _) ?_
              repeat (go_big_quiet_step (first
                | (go_at_call 30; exact calls_belowT (HC.out _))))
              refine wpQuiet_nil ?_
              intro wz hwz
              obtain ⟨x9, rfl⟩ := hwz
              have hb2 := x9.below
              clear zc0 zc1 zc2
              generalize x9.val = w2 at *
              have hb02 := nx hb hb2
              obtain ⟨y0, y1⟩ := HCELL.out _ hb2
              go_wp2_with fail
              go_loopw [4] (fun i wi => ∃ j : Nat, j ≤ nn ∧ i = .int .i64 j ∧ Below w2.heap.size w2 wi ∧ ∀ t, t < j → (h' : t < x.xs.length) → isMail x.xs[t].m = true) (fun i _ => nn - (intOf i).toNat)
              case atStart => exact ⟨0, Nat.zero_le _, rfl, Below.refl _ _, fun j h => by omega⟩
              case round =>
                obtain ⟨j, hj, rfl, hbi, hmls⟩ := hrel
                have HMLS := Lib.hid hmls
                have hb3 := nx hb02 hbi
                obtain ⟨v0, v1⟩ := HCELL.out _ (nx hb2 hbi)
                clear hmls y0 y1
                by_cases hjn : j < nn
                · have j1 : j < x.xs.length := by rw [HNN.out]; exact hjn
                  obtain ⟨b3, o3, ha3, hl3, r0, r1, r2, r3⟩ := ((HXR.out.below (nx hb2 hbi)).1).at j1
                  rw [ha3] at v1
                  have hj0 : (0 : Int) ≤ (j : Int) := by omega
                  have hjn' : (j : Int) < (nn : Int) := by omega
                  have HMV : Hid (Calls Tryd.prog 31 #[.agg #[.string (str x.xs[j].m.frm), .slice x.xs[j].a1 x.xs[j].m.to.length x.xs[j].c1, .slice x.xs[j].a2 x.xs[j].m.lines.length x.xs[j].c2]] wr fun e w' => e = .returned (.bool (isMail x.xs[j].m)) ∧ Below wr.heap.size wr w') := mailValidS_any M x.xs[j] wr r3 hM
                  have HBM := Lib.hid (isBx_mail (x := x) j1)
                  have HQ : Hid (isMail x.xs[j].m = true → ∀ t (h' : t < x.xs.length), t = j → isMail x.xs[t].m = true) := fun hq t h' e => by subst e; exact hq
                  clear r3 ha3
                  obtain ⟨gm, hgm⟩ : ∃ g, g = isMail x.xs[j].m := ⟨_, rfl⟩
                  rw [← hgm] at HMV HBM HQ
                  clear hgm
                  generalize x.xs[j] = z at *
                  cases gm
                  · have HN : Hid (ANS = false) := HBK.out (HBM.out (by first | rfl | trivial))
                    go_wp2_with fail
                    refine HMV.out.mono ?_
                    rintro e w4 ⟨rfl, hb4⟩
                    go_wp2
                    go_ret
                    exact ⟨ret_bool HN.out.symm, nx hb3 hb4⟩
                  · go_wp2_with fail
                    refine HMV.out.mono ?_
                    rintro e w4 ⟨rfl, hb4⟩
                    clear v0 v1 r0 r1 r2
                    go_wp2
                    go_roundw
                    case rel => exact ⟨j + 1, by omega, by go_num, nx hbi hb4, fun t ht h' => by
                      by_cases e : t = j
                      · exact HQ.out (by first | rfl | trivial) t h' e
                      · exact HMLS.out t (by omega) h'⟩
                    case measure => simp [intOf]; omega
                · have HBX : Hid (isBx x.b = true) := isBx_yes HP.out (by have := HL4.out; have := HNN.out; omega) (fun t h => HMLS.out t (by have := HNN.out; omega) h)
                  generalize x.a = aa at *
                  generalize x.c = cc at *
                  go_wp2
                  go_roundw
                  case rel => exact ⟨k + 1, by omega, by omega, by go_num, hb3, (fun t ht h' => by
                    by_cases e : t = k
                    · subst e; rw [HX.out]; exact HBX.out
                    · exact HALL.out t (by omega) h'), HUPN.out⟩
                  case measure => simp [intOf]; omega
            · have hk1' : k - 1 < xs.length := by omega
              have zc2 : ∀ y : BelowT wr, y.val.cell? ⟨b1, o1 + (k - 1) * 2, none⟩ = some (.string (str xs[k - 1].path)) := fun y => HPREV.out _ y.below hkp hk1'
              have z1 : decide ((k : Int) > 0) = true := decide_eq_true (by omega)
              have hkz : (0 : Int) < (k : Int) := by omega
              have hi0 : (0 : Int) ≤ (k : Int) - 1 := by omega
              have hi1 : (k : Int) - 1 < (n : Int) := by omega
              have hi2 : ((k : Int) - 1).toNat = k - 1 := by omega
              have HN : Hid (ANS = false) := (hord hk1').2
              have hq' : Op.bytesLess (str xs[k - 1].path).toList (str xs[k].path).toList = false := (hord hk1').1
              clear hord
              generalize xs[k].xs.length = nn at *
              have dl : decide ((nn : Int) > 4) = false := decide_eq_false hlong
              have dl2 : (nn : Int) ≤ 4 := by omega
              generalize xs[k].a = aa at *
              generalize xs[k].c = cc at *
              generalize str xs[k].path = s2 at *
              generalize str xs[k - 1].path = s1 at *
              go_wp2_with fail
              refine wp_region_quietB (W := wr) (by kernel_rfl) (by kernel_rfl) (Below.refl _ _) ?_
              repeat (go_big_quiet_step (first
                | (go_at_call 30; exact calls_belowT (HC.out _))))
              refine wpQuiet_nil ?_
              intro wz hwz
              obtain ⟨x9, rfl⟩ := hwz
              have hb2 := x9.below
              clear zc0 zc1 zc2
              generalize x9.val = w2 at *
              have hb02 := nx hb hb2
              go_wp2
              go_ret
              exact ⟨ret_bool HN.out.symm, hb02⟩
      · have HN : Hid (ANS = false) := HLONG.out (by omega)
        have hkn : (k : Int) < (n : Int) := by omega
        have dn : decide ((n : Int) ≤ 8) = false := decide_eq_false (by omega)
        go_wp2
        go_ret
        exact ⟨ret_bool (by rw [HN.out]), hb⟩
    · by_cases hn8 : n ≤ 8
      · have HN : Hid (ANS = true) := HYES.out hn8 (fun j h h' => HALL.out j (by omega) h') (fun j h h' => HUPS.out j (by omega) h')
        have dn : decide ((n : Int) ≤ 8) = true := decide_eq_true (by omega)
        go_wp2
        go_ret
        exact ⟨ret_bool (by rw [HN.out]), hb⟩
      · have HN : Hid (ANS = false) := HLONG.out (by omega)
        have dn : decide ((n : Int) ≤ 8) = false := decide_eq_false (by omega)
        go_wp2
        go_ret
        exact ⟨ret_bool (by rw [HN.out]), hb⟩
set_option maxRecDepth 100000 in
set_option maxHeartbeats 4000000 in
theorem countHeldS_any (M : Nat) (a : Option Addr) (n c : Nat) (xs : List BxA) (w : World) (hx : xs.length = n) (h1 : RdBs M w a xs) (hM : M ≤ 1073741000) (hn : n ≤ 1073741000) :
    Calls Tryd.prog 13 #[.slice a n c] w fun e w' => e = .returned (.int .i64 (heldB (xs.map BxA.b))) ∧ Below w.heap.size w w' := by
  have HV : Hid (∀ u, Below w.heap.size w u → Calls Tryd.prog 9 #[.slice a n c] u fun e w' => e = .returned (.bool (isBxs (xs.map BxA.b))) ∧ Below u.heap.size u w') := fun u hb => boxesValidS_any M a n c xs u hx (h1.below hb) hM hn
  have X1 := Lib.hid h1
  have L1 := Lib.hid hx
  cases hq : isBxs (xs.map BxA.b)
  · have HN : Hid ((heldB (xs.map BxA.b) : Int) = 0) := by show _ = _; unfold heldB; rw [hq]; rfl
    rw [hq] at HV
    clear h1 hx hq
    go_enter Tryd.func13, Tryd.ntmps13
    go_wp2_with fail
    go_loopw [3, 4] (fun v i wr => i = .int .i64 0 ∧ v = .int .i64 0 ∧ Below w.heap.size w wr) (fun _ i _ => n - (intOf i).toNat)
    case atStart => exact ⟨rfl, rfl, Below.refl _ _⟩
    case round =>
      obtain ⟨rfl, rfl, hb⟩ := hrel
      rcases Nat.eq_zero_or_pos n with rfl | kn
      · go_wp2
        go_ret
        exact ⟨ret_int HN.out.symm, hb⟩
      · have hkn : (0 : Int) < (n : Int) := by omega
        go_wp2_with fail
        refine (HV.out _ hb).mono ?_
        rintro e w1 ⟨rfl, hb1⟩
        go_wp2
        go_ret
        exact ⟨ret_int HN.out.symm, nx hb hb1⟩
  · have HN : Hid (heldB (xs.map BxA.b) = heldL (xs.map BxA.b)) := by show _ = _; unfold heldB; rw [hq]; rfl
    obtain ⟨z8, z4⟩ := bxs_mails hq
    rw [List.length_map] at z8
    have Z4 : Hid (∀ k (h : k < xs.length), xs[k].xs.length ≤ 4) := fun k h => by
      have := z4 xs[k].b (List.mem_map_of_mem (List.getElem_mem h))
      unfold BxA.b at this; simpa using this
    have ZT : Hid (∀ k, heldL ((xs.take k).map BxA.b) ≤ 32) := fun k => by
      have := heldL_le (bs := (xs.take k).map BxA.b) (fun b hb => z4 b (by
        obtain ⟨y, hy, rfl⟩ := List.mem_map.1 hb
        exact List.mem_map_of_mem (List.mem_of_mem_take hy)))
      rw [List.length_map, List.length_take] at this
      show _ ≤ _; omega
    rw [hq] at HV
    clear h1 hx hq z4 z8
    go_enter Tryd.func13, Tryd.ntmps13
    go_wp2_with fail
    go_loopw [3, 4] (fun v i wr => ∃ k : Nat, k ≤ n ∧ i = .int .i64 k ∧ v = .int .i64 (heldL ((xs.take k).map BxA.b)) ∧ Below w.heap.size w wr) (fun _ i _ => n - (intOf i).toNat)
    case atStart => exact ⟨0, Nat.zero_le _, rfl, rfl, Below.refl _ _⟩
    case round =>
      obtain ⟨k, hk, rfl, rfl, hb⟩ := hrel
      by_cases hlt : k < n
      · have k1 : k < xs.length := by rw [L1.out]; exact hlt
        have hkn : (k : Int) < (n : Int) := by omega
        have hk0 : (0 : Int) ≤ (k : Int) := by omega
        have HT := Lib.hid (held_take k1)
        have hz := Z4.out k k1
        have hy := ZT.out k
        generalize heldL ((xs.take k).map BxA.b) = H at *
        go_wp2_with fail
        refine (HV.out _ hb).mono ?_
        rintro e w1 ⟨rfl, hb1⟩
        obtain ⟨b1, o1, rfl, hl1, p0, p1, p3⟩ := ((X1.out.below hb).below hb1).at k1
        clear p3
        generalize xs[k].xs.length = nn at *
        generalize xs[k].a = aa at *
        generalize xs[k].c = cc at *
        generalize str xs[k].path = ss at *
        go_wp2
        go_roundw
        case rel => exact ⟨k + 1, by omega, by go_num, by rw [HT.out]; go_num, nx hb hb1⟩
        case measure => simp [intOf]; omega
      · have HE : Hid (heldL ((xs.take k).map BxA.b) = heldB (xs.map BxA.b)) := by show _ = _; rw [HN.out, List.take_of_length_le (by have := L1.out; omega)]
        rw [HE.out]
        go_wp2
        go_ret
        exact ⟨rfl, hb⟩
end Go.Proofs.YtfiaankfmdpmkaaDoor
end

section
namespace Go.Proofs.YtfiaankfmdpmkaaDoor
open Go.RowKit

/-- What lay there is as it was; there may be more. -/
def Grow (w w' : World) : Prop := Below w.heap.size w w'
theorem Grow.refl (w : World) : Grow w w := Below.refl _ _
theorem Grow.trans {a b c : World} (h : Grow a b) (k : Grow b c) : Grow a c := nx h k

section
variable {P : Program} {ops : Array Oper} {Q : Exit → Act → World → Prop} {md : Region.Mode}

def growUpon (P : Program) (w : World) (v : Value) : Result Next → Prop
  | .ok (.value u) w' => w' = w ∧ u = v
  | .ok .skip w' => w' = w ∧ v = undef
  | .ok (.enter f args) w' => w' = w ∧ Calls P f args w (fun e w'' => e = .returned v ∧ Grow w w'')
  | _ => False
def growAt (P : Program) (o : Oper) (a : Act) (w : World) (v : Value) : Prop := growUpon P w v ((execOp a.eval o).run P w)
/-- In state a, in every world grown from w, operation o leaves v in its temporary and turns nothing. -/
def GYields (P : Program) (ops : Array Oper) (o : Oper) (v : Value) (a : Act) (w : World) : Prop :=
  (Region.wanted o (yielded ops a.tmps) = true ∧ ∀ w', Grow w w' → growAt P o a w' v) ∨ (Region.wanted o (yielded ops a.tmps) = false ∧ v = undef)
theorem GYields.grow {o : Oper} {v : Value} {a : Act} {w u : World} (h : GYields P ops o v a w) (g : Grow w u) : GYields P ops o v a u :=
  h.imp (fun ⟨h1, h2⟩ => ⟨h1, fun w' k => h2 w' (g.trans k)⟩) id
theorem GYields.of_same {o : Oper} {v : Value} {a a' : Act} {w : World} (hy : GYields P ops o v a w) (he : execOp a'.eval o = execOp a.eval o)
    (hw : Region.wanted o (yielded ops a'.tmps) = Region.wanted o (yielded ops a.tmps)) : GYields P ops o v a' w := by
  unfold GYields growAt at *
  rw [he, hw]
  exact hy
theorem GYields.wpOp {i : Nat} {o : Oper} {v : Value} {a : Act} {w : World} (hi : ops[i]? = some o) (hy : GYields P ops o v a w)
    {K : Act → World → Prop} (h : ∀ w', Grow w w' → K (a.put o.dst v) w') : wpOp P ops Q i K a w := by
  unfold Go.wpOp
  simp only [hi]
  rcases hy with ⟨hw, hv⟩ | ⟨hw, rfl⟩
  · rw [if_pos hw]
    refine .inl ?_
    have h1 := hv w (Grow.refl w)
    unfold growAt at h1
    unfold Oper.wp
    generalize (execOp a.eval o).run P w = r at *
    cases r with
    | ok n w' =>
      cases n <;> simp only [growUpon] at h1 <;> simp only [Oper.upon]
      case value u =>
        obtain ⟨e1, e2⟩ := h1
        rw [e1, e2]
        exact h _ (Grow.refl w)
      case skip =>
        obtain ⟨e1, e2⟩ := h1
        rw [e1, ← e2]
        exact h _ (Grow.refl w)
      case enter f args =>
        obtain ⟨e1, hc⟩ := h1
        rw [e1]
        exact hc.mono fun e w'' ⟨he, hw''⟩ => by subst he; exact h _ hw''
    | halt x w' => simp only [growUpon] at h1
  · rw [if_neg (by rw [hw]; exact Bool.false_ne_true)]; exact h _ (Grow.refl w)

theorem wpOp_putG {j : Nat} {oi oj : Oper} {v : Value} (hj : ops[j]? = some oj) (hap : oi.apart ops oj = true)
    (hsi : ∀ cs b, oi.op ≠ .select cs b) (hsj : ∀ cs b, oj.op ≠ .select cs b)
    (hQ : ∀ c a w, Q (.panic c) (a.put oi.dst v) w → Q (.panic c) a w) {K : Act → World → Prop} {a : Act} {w u : World}
    (hy : GYields P ops oi v a u) (h : wpOp P ops Q j K (a.put oi.dst v) w) :
    wpOp P ops Q j (fun a' w' => GYields P ops oi v a' u ∧ K (a'.put oi.dst v) w') a w := by
  obtain ⟨h1, h2, h3⟩ := Oper.apart_spec hap
  have keep : ∀ (a : Act), GYields P ops oi v a u → ∀ x, GYields P ops oi v (a.put oj.dst x) u := fun a hy x =>
    hy.of_same (execOp_put oi hsi a oj.dst x h3) (wanted_put oi a oj.dst x h3)
  have keepD : ∀ d, GYields P ops oi v { a with defers := d :: a.defers } u := fun d => hy.of_same rfl rfl
  unfold Go.wpOp at *
  simp only [hj] at *
  rw [wanted_put oj a oi.dst v h1] at h
  split
  · rename_i hw
    simp only [hw, if_true] at h
    rcases h with h | ⟨hasks, hlets⟩
    case inr => exact .inr ⟨by unfold Oper.asks at *; rw [execOp_put oj hsj a oi.dst v h1] at hasks; exact hasks, hlets⟩
    refine .inl ?_
    unfold Oper.wp at *
    rw [execOp_put oj hsj a oi.dst v h1] at h
    generalize (execOp a.eval oj).run P w = r at *
    cases r with
    | ok n w' =>
      cases n <;> simp only [Oper.upon] at h ⊢
      case value x => exact ⟨keep a hy x, by rw [← Act.put_comm a v x h2]; exact h⟩
      case skip => exact ⟨keep a hy _, by rw [← Act.put_comm a v undef h2]; exact h⟩
      case defer d =>
        refine ⟨keep _ (keepD d) _, ?_⟩
        rw [← Act.put_comm _ v undef h2, ← Act.put_defers]
        exact h
      case enter f args =>
        refine Calls.mono h fun e w'' he => ?_
        cases e with
        | returned x => exact ⟨keep a hy x, by rw [← Act.put_comm a v x h2]; exact he⟩
        | panicked c => exact hQ _ _ _ he
        | outgrown => exact he
      case row row args => exact Rows.mono h fun x w'' he => ⟨keep a hy x, by rw [← Act.put_comm a v x h2]; exact he⟩
    | halt x w' =>
      cases x <;> simp only [Oper.upon] at h ⊢
      case panic x => exact hQ _ _ _ h
  · rename_i hw
    simp only [hw] at h
    exact ⟨keep a hy _, by rw [← Act.put_comm a v undef h2]; exact h⟩

/-- Whatever order is picked from here on, in this world and in every one grown from it; each operation turns nothing old. -/
def wpAnyG (P : Program) (md : Region.Mode) (ops : Array Oper) (Q : Exit → Act → World → Prop) : Nat → Array Bool → Act → World → Prop
  | 0, listed, a, w => ∀ w', Grow w w' → Region.ready md ops listed = [] ∧ Q .normal a w'
  | fuel + 1, listed, a, w => ∀ w', Grow w w' → (Region.ready md ops listed = [] → Q .normal a w') ∧
    ∀ i ∈ Region.ready md ops listed, wpOp P ops Q i (fun a' w'' => Grow w' w'' ∧ wpAnyG P md ops Q fuel (listed.setIfInBounds i true) a' w'') a w'
theorem wpAny_of_G : ∀ (fuel : Nat) (listed : Array Bool) (a : Act) (w : World), wpAnyG P md ops Q fuel listed a w → wpAny P md ops Q fuel listed a w
  | 0, _, _, w, h => h w (Grow.refl w)
  | fuel + 1, _, _, w, h => ⟨(h w (Grow.refl w)).1, fun i hi => wpOp_mono (fun a' w' h' => wpAny_of_G fuel _ a' w' h'.2) ((h w (Grow.refl w)).2 i hi)⟩
theorem wpAnyG_grow {fuel : Nat} {listed : Array Bool} {a : Act} {w u : World} (g : Grow w u) (h : wpAnyG P md ops Q fuel listed a w) : wpAnyG P md ops Q fuel listed a u := by
  cases fuel with
  | zero => exact fun w' k => h w' (g.trans k)
  | succ fuel => exact fun w' k => h w' (g.trans k)

theorem wpAnyG_first {i : Nat} {oi : Oper} {v : Value} (hi : ops[i]? = some oi) (hsel : ∀ (j : Nat) (o : Oper) cs b, ops[j]? = some o → o.op ≠ .select cs b)
    (hQ : ∀ c a w, Q (.panic c) (a.put oi.dst v) w → Q (.panic c) a w) :
    ∀ (fuel : Nat) (listed : Array Bool) (a : Act) (w : World),
      (∀ j oj, ops[j]? = some oj → j ≠ i → listed.getD j true = false → (∀ e ∈ oj.after, Region.binds md e = true → e.on ≠ i) → oi.apart ops oj = true) →
      i ∈ Region.ready md ops listed → GYields P ops oi v a w →
      wpAnyG P md ops Q fuel (listed.setIfInBounds i true) (a.put oi.dst v) w → wpAnyG P md ops Q (fuel + 1) listed a w := by
  intro fuel
  induction fuel with
  | zero =>
    intro listed a w _ hr hy H w' g
    refine ⟨fun h => (by rw [h] at hr; cases hr), fun j hj => ?_⟩
    by_cases hji : j = i
    · subst hji; exact (hy.grow g).wpOp hi fun w'' k => ⟨k, wpAnyG_grow (g.trans k) H⟩
    · have := ready_mono hj hji
      rw [(H w (Grow.refl w)).1] at this
      cases this
  | succ fuel ih =>
    intro listed a w hfree hr hy H w' g
    refine ⟨fun h => (by rw [h] at hr; cases hr), fun j hj => ?_⟩
    by_cases hji : j = i
    · subst hji; exact (hy.grow g).wpOp hi fun w'' k => ⟨k, wpAnyG_grow (g.trans k) H⟩
    · have h1 := (H w' g).2 j (ready_mono hj hji)
      obtain ⟨hjun, oj, hoj, hall⟩ := mem_ready.1 hj
      have hnot : ∀ e ∈ oj.after, Region.binds md e = true → e.on ≠ i := fun e he hb heq => by
        have h1 := hall e he hb
        have h0 := (mem_ready.1 hr).1
        rw [heq] at h1
        rcases Nat.lt_or_ge i listed.size with h' | h'
        · simp [h'] at h0 h1; rw [h0] at h1; cases h1
        · simp [Array.getElem?_eq_none h'] at h1
      have h2 := wpOp_putG hoj (hfree j oj hoj hji hjun hnot) (fun cs b => hsel i oi cs b hi) (fun cs b => hsel j oj cs b hoj) hQ (hy.grow g) h1
      have hfree' : ∀ k ok, ops[k]? = some ok → k ≠ i → (listed.setIfInBounds j true).getD k true = false →
          (∀ e ∈ ok.after, Region.binds md e = true → e.on ≠ i) → oi.apart ops ok = true := fun k ok hk hki hun hno => by
        refine hfree k ok hk hki ?_ hno
        by_cases hjk : j = k
        · subst hjk; exact hjun
        · rw [getD_set_ne true hjk] at hun; exact hun
      refine wpOp_mono (fun a' w'' h3 => ⟨h3.2.1, ih (listed.setIfInBounds j true) a' w'' hfree' (ready_mono hr (Ne.symm hji)) (h3.1.grow h3.2.1) ?_⟩) h2
      rw [Array.setIfInBounds_comm _ _ hji]
      exact h3.2.2

/-! The moves of a walk. -/

/-- Those of a list's operations that a mask names. -/
def pickL : List Bool → List Oper → List Oper
  | true :: m, o :: l => o :: pickL m l
  | false :: m, _ :: l => pickL m l
  | _, _ => []
def maskListed : List Bool → Nat → Array Bool → Array Bool
  | true :: m, k, listed => maskListed m (k + 1) (listed.setIfInBounds k true)
  | false :: m, k, listed => maskListed m (k + 1) listed
  | [], _, listed => listed
def maskCount : List Bool → Nat
  | true :: m => maskCount m + 1
  | false :: m => maskCount m
  | [] => 0
/-- Each that the mask names may come up when its turn is there, and nobody who could come before it touches its temporaries; its slot is written once. -/
def maskOk (md : Region.Mode) (ops : Array Oper) (n : Nat) : List Bool → List Oper → Nat → Array Bool → Bool
  | true :: m, o :: l, k, listed => (Region.ready md ops listed).contains k && Region.free md ops listed k &&
      (match o.dst with | some d => decide (d < n) && (pickL m l).all (fun o' => o'.dst != some d) | none => false) && maskOk md ops n m l (k + 1) (listed.setIfInBounds k true)
  | false :: m, _ :: l, k, listed => maskOk md ops n m l (k + 1) listed
  | [], _, _, _ => true
  | _, [], _, _ => false

theorem put_size (a : Act) (x : Option Tmp) (v : Value) : (a.put x v).tmps.size = a.tmps.size := by
  cases x <;> simp [Act.put]
/-- A slot that no operation of the rest writes is at the end as it was. -/
theorem quiet_slot {C : World → Prop} {A : Act} {d : Nat} : ∀ (l : List Oper) (a : Act), (∀ o ∈ l, o.dst ≠ some d) → wpQuiet P ops C (fun a' => a' = A) l a → A.tmps[d]? = a.tmps[d]?
  | [], a, _, h => by
    have h1 : a = A := h
    rw [h1]
  | o :: l, a, hd, h => by
    have hp : ∀ v, (a.put o.dst v).tmps[d]? = a.tmps[d]? := fun v => by
      cases ho : o.dst with
      | none => rfl
      | some e =>
        have hne : e ≠ d := fun he => hd o (List.mem_cons_self ..) (by rw [ho, he])
        simp [Act.put, Array.getElem?_setIfInBounds_ne hne]
    unfold wpQuiet at h
    split at h
    · obtain ⟨v, _, h2⟩ := h
      rw [quiet_slot l _ (fun o' ho' => hd o' (List.mem_cons_of_mem _ ho')) h2, hp]
    · rw [quiet_slot l _ (fun o' ho' => hd o' (List.mem_cons_of_mem _ ho')) h, hp]

/-- Those that the mask names are taken first, in the order of the text, in ONE walk, in a world of which nothing is known but that it has grown from w. -/
theorem wpAnyG_mask {A : Act} {n : Nat} (hsel : Region.noSelect ops = true) (hQ : ∀ c a o v w, Q (.panic c) (a.put o v) w → Q (.panic c) a w) {w : World} {fuel : Nat} : ∀ (m : List Bool) (l : List Oper) (k : Nat) (listed : Array Bool) (a : Act),
    (∀ j, l[j]? = ops[k + j]?) → a.tmps.size = n → maskOk md ops n m l k listed = true →
    (∀ x : BelowT w, wpQuiet P ops (fun w' => ∃ y : BelowT x.val, w' = y.val) (fun a' => a' = A) (pickL m l) a) →
    wpAnyG P md ops Q fuel (maskListed m k listed) A w → wpAnyG P md ops Q (maskCount m + fuel) listed a w
  | [], l, k, listed, a, _, _, _, h, H => by
    have h1 : a = A := by have := h ⟨w, Below.refl _ _⟩; rw [pickL] at this; exact this; all_goals simp
    rw [h1]
    simpa [maskCount, maskListed] using H
  | false :: m, [], k, listed, a, _, _, hB, _, _ => by simp [maskOk] at hB
  | true :: m, [], k, listed, a, _, _, hB, _, _ => by simp [maskOk] at hB
  | false :: m, o :: l, k, listed, a, hl, hn, hB, h, H => by
    simp only [maskCount, maskListed, maskOk, pickL] at *
    exact wpAnyG_mask hsel hQ m l (k + 1) listed a (fun j => by have := hl (j + 1); simpa [Nat.add_assoc, Nat.add_comm 1 j] using this) hn hB h H
  | true :: m, o :: l, k, listed, a, hl, hn, hB, h, H => by
    have h0 : ops[k]? = some o := by simpa using (hl 0).symm
    simp only [maskCount, maskListed, maskOk, pickL, Bool.and_eq_true] at *
    obtain ⟨⟨⟨hr, hf⟩, hd⟩, hB'⟩ := hB
    cases ho : o.dst with
    | none => rw [ho] at hd; cases hd
    | some d =>
      rw [ho] at hd
      simp only [Bool.and_eq_true, decide_eq_true_eq, List.all_eq_true, bne_iff_ne] at hd
      have hslot : ∀ v, (a.put (some d) v).tmps[d]? = some v := fun v => by simp [Act.put, hn, hd.1]
      by_cases hw : Region.wanted o (yielded ops a.tmps) = true
      · have h' : ∀ x : BelowT w, (∀ w', (∃ y : BelowT x.val, w' = y.val) → o.quietAt P a (fun w' => ∃ y : BelowT x.val, w' = y.val) w' ((A.tmps[d]?).getD undef)) ∧
            wpQuiet P ops (fun w' => ∃ y : BelowT x.val, w' = y.val) (fun a' => a' = A) (pickL m l) (a.put (some d) ((A.tmps[d]?).getD undef)) := fun x => by
          have h1 := h x
          unfold wpQuiet at h1
          rw [if_pos hw] at h1
          obtain ⟨v, h2, h3⟩ := h1
          rw [ho] at h3
          have h4 := quiet_slot (d := d) (pickL m l) _ hd.2 h3
          rw [hslot] at h4
          rw [h4]
          exact ⟨h2, h3⟩
        have hy : GYields P ops o ((A.tmps[d]?).getD undef) a w := .inl ⟨hw, fun w' g => by
          have h1 := (h' ⟨w', g⟩).1 w' ⟨⟨w', Below.refl _ _⟩, rfl⟩
          unfold Oper.quietAt at h1
          unfold growAt
          generalize (execOp a.eval o).run P w' = r at *
          cases r with
          | ok nx w2 =>
            cases nx <;> simp only [Oper.quietUpon] at h1 <;> simp only [growUpon]
            case value u => exact h1
            case skip => exact h1
            case enter f args => exact ⟨h1.1, h1.2.mono fun e w3 ⟨he, y, hy⟩ => ⟨he, by rw [hy]; exact y.below⟩⟩
          | halt x w2 => simp only [Oper.quietUpon] at h1⟩
        rw [show maskCount m + 1 + fuel = (maskCount m + fuel) + 1 by omega]
        refine wpAnyG_first h0 (Region.noSelect_spec hsel) (fun c a w => hQ c a _ _ w) _ listed a w (Region.free_spec h0 hf) (by simpa using hr) hy ?_
        rw [ho]
        exact wpAnyG_mask hsel hQ m l (k + 1) _ _ (fun j => by have := hl (j + 1); simpa [Nat.add_assoc, Nat.add_comm 1 j] using this) (by rw [put_size]; exact hn) hB' (fun x => (h' x).2) H
      · have hwf : Region.wanted o (yielded ops a.tmps) = false := by simpa using hw
        rw [show maskCount m + 1 + fuel = (maskCount m + fuel) + 1 by omega]
        refine wpAnyG_first h0 (Region.noSelect_spec hsel) (fun c a w => hQ c a _ _ w) _ listed a w (Region.free_spec h0 hf) (by simpa using hr) (.inr ⟨hwf, rfl⟩) ?_
        refine wpAnyG_mask hsel hQ m l (k + 1) _ _ (fun j => by have := hl (j + 1); simpa [Nat.add_assoc, Nat.add_comm 1 j] using this) (by rw [put_size]; exact hn) hB' (fun x => ?_) H
        have h1 := h x
        unfold wpQuiet at h1
        rw [if_neg hw] at h1
        exact h1

/-- The mask's operations are taken first; the region is written out. -/
theorem wpAnyG_take {F fuel n : Nat} {l : List Oper} {listed : Array Bool} {a : Act} {w : World} (m : List Bool) (hF : maskCount m + fuel = F) (hsel : Region.noSelect l.toArray = true)
    (hn : a.tmps.size = n) (hB : maskOk md l.toArray n m l 0 listed = true)
    (h : ∃ A, (∀ x : BelowT w, wpQuiet P l.toArray (fun w' => ∃ y : BelowT x.val, w' = y.val) (fun a' => a' = A) (pickL m l) a) ∧ wpAnyG P md l.toArray (NoPanic Q) fuel (maskListed m 0 listed) A w) : wpAnyG P md l.toArray (NoPanic Q) F listed a w := by
  obtain ⟨A, h1, h2⟩ := h
  rw [← hF]
  exact wpAnyG_mask hsel (fun _ _ _ _ _ h => h) m l 0 listed a (fun j => by simp) hn hB h1 h2
/-- One operation alone may come up: what it does, in a world that has grown from w. -/
theorem wpAnyG_one {m fuel : Nat} {listed : Array Bool} {a : Act} {w : World} (hr : Region.ready md ops listed = [m])
    (h : ∀ w', Grow w w' → wpOp P ops Q m (fun a' w'' => Grow w' w'' ∧ wpAnyG P md ops Q fuel (listed.setIfInBounds m true) a' w'') a w') : wpAnyG P md ops Q (fuel + 1) listed a w :=
  fun w' g => ⟨fun h0 => (by rw [hr] at h0; cases h0), fun i hi => by
    rw [hr] at hi
    have : i = m := by simpa using hi
    subst this
    exact h w' g⟩
theorem wpOp_at {m : Nat} {o : Oper} {K : Act → World → Prop} {a : Act} {w : World} (hm : ops[m]? = some o) (hw : Region.wanted o (yielded ops a.tmps) = true) (h : o.wp P a w K Q) : wpOp P ops Q m K a w := by
  unfold Go.wpOp
  simp only [hm]
  rw [if_pos hw]
  exact .inl h
/-- All have come up. -/
theorem wpAnyG_done {listed : Array Bool} {a : Act} {w : World} (hr : Region.ready md ops listed = []) (h : ∀ x : BelowT w, Q .normal a x.val) : ∀ fuel, wpAnyG P md ops (NoPanic Q) fuel listed a w
  | 0 => fun w' g => ⟨hr, h ⟨w', g⟩⟩
  | _ + 1 => fun w' g => ⟨fun _ => h ⟨w', g⟩, by rw [hr]; simp⟩
/-- The beginning. -/
theorem wp_region_grow {id : Nat} {a : Act} {w : World} (hm : P.follows .mixedOrders = true)
    (h : wpAnyG P .any ops (NoPanic Q) ops.size (Array.replicate ops.size false) a w) : (Code.region id ops true).wp P Q a w :=
  wp_region_noPanic (wp_region_any hm (wpAny_of_G _ _ _ _ (wpAnyG_grow (show Grow w w.drew from (Below.refl _ _).drew) h)))
end
end Go.Proofs.YtfiaankfmdpmkaaDoor
end
