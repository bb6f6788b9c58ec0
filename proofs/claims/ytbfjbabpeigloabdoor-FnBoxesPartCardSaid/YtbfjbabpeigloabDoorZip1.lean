/-
  Several texts in one. No statement is proved here.
-/
import Derived.Test.YtbfjbabpeigloabDoorBox
import Derived.Test.YtbfjbabpeigloabDoorSsnI
import Derived.Test.YtbfjbabpeigloabDoorQuietB
import Derived.Deep.QuietTactic
import Derived.BigQuiet
import Derived.Test.YtbfjbabpeigloabDoorRows2
import Derived.Test.YtbfjbabpeigloabDoorSplit
import Derived.Test.YtbfjbabpeigloabDoorRowL
import Derived.Maps.AppendAt
import Derived.Test.YtbfjbabpeigloabDoorMal
import Derived.Test.YtbfjbabpeigloabDoorDraw2
import Derived.Deep.RegionHeld3
import Derived.Test.YtbfjbabpeigloabDoorMalM
import Derived.Lib.TrimByte
import Derived.Test.YtbfjbabpeigloabDoorSsn
import Derived.Deep.Cut
import Derived.Sort.Walk0
import Derived.Lib.Strings
import Derived.Test.YtbfjbabpeigloabDoorShelf
import Derived.Laws.CopyOwn
section
namespace Go.Proofs.YtbfjbabpeigloabDoor
open Go.RowKit

def isBx (b : Bx) : Bool := isPath b.path && (decide (b.mails.length ≤ 4) && b.mails.all isMail)
/-- Two paths in order. -/
def ltP (a b : List UInt8) : Bool := Op.bytesLess (str a).toList (str b).toList
def upBx : List Bx → Bool
  | [] => true
  | [_] => true
  | a :: b :: bs => ltP a.path b.path && upBx (b :: bs)
def isBxs (bs : List Bx) : Bool := decide (bs.length ≤ 8) && (bs.all isBx && upBx bs)
theorem upBx_iff : ∀ bs : List Bx, upBx bs = true ↔ ∀ i, (h : i + 1 < bs.length) → ltP bs[i].path bs[i + 1].path = true
  | [] => by simp [upBx]
  | [a] => by simp [upBx]
  | a :: b :: bs => by
    rw [upBx, Bool.and_eq_true, upBx_iff (b :: bs)]
    constructor
    · rintro ⟨h1, h2⟩ i hi
      cases i with
      | zero => exact h1
      | succ i => exact h2 i (by simp at hi ⊢; omega)
    · intro h
      exact ⟨h 0 (by simp), fun i hi => h (i + 1) (by simp at hi ⊢; omega)⟩
theorem up_bad {bs : List Bx} {i : Nat} (h : i + 1 < bs.length) (hp : ltP bs[i].path bs[i + 1].path = false) : upBx bs = false := by
  rw [Bool.eq_false_iff]; intro h'
  rw [(upBx_iff bs).1 h' i h] at hp; cases hp
theorem isBxs_long {bs : List Bx} (h : 8 < bs.length) : isBxs bs = false := by unfold isBxs; rw [decide_eq_false (by omega)]; rfl
theorem isBxs_all {bs : List Bx} (h : bs.all isBx = false) : isBxs bs = false := by unfold isBxs; rw [h]; simp
theorem isBxs_up {bs : List Bx} (h : upBx bs = false) : isBxs bs = false := by unfold isBxs; rw [h]; simp
theorem isBxs_yes {bs : List Bx} (h : bs.length ≤ 8) (h1 : bs.all isBx = true) (h2 : upBx bs = true) : isBxs bs = true := by unfold isBxs; rw [h1, h2, decide_eq_true h]; rfl
set_option maxRecDepth 100000 in
set_option maxHeartbeats 2000000 in
theorem boxValid_any (M : Nat) (x : BxA) (w : World) (en : Env w) (h1 : RdBx M w x) (hM : M ≤ 1073741000) :
    Calls Tryd.prog 43 #[.agg #[.string (str x.path), .slice x.a x.xs.length x.c]] w fun e w' => e = .returned (.bool (isBx x.b)) ∧ Below w.heap.size w w' := by
  have HP : Hid (∀ u, Below w.heap.size w u → Calls Tryd.prog 44 #[.string (str x.path)] u fun e w' => e = .returned (.bool (isPath x.b.path)) ∧ Below u.heap.size u w') := fun u hb => by
    have := pathValid_any (str x.path) u (en.below hb) (by rw [str_size]; have := h1.2.1; omega)
    rw [str_list] at this; exact this
  have HA : Hid (∀ u, Below w.heap.size w u → Calls Tryd.prog 65 #[.slice x.a x.xs.length x.c, .func (.func 49) #[] #[]] u fun e w' => e = .returned (.bool (x.b.mails.all isMail)) ∧ Below u.heap.size u w') := fun u hb => allValid_mail M x.a x.xs.length x.c x.xs u (en.below hb) rfl (h1.1.below hb) hM (by have := h1.2.2.1; omega)
  have hl : x.b.mails.length = x.xs.length := by unfold BxA.b; simp
  unfold isBx
  rw [hl]
  have e2 : decide (x.xs.length ≤ 4) = decide ((x.xs.length : Int) ≤ 4) := decide_eq_decide.2 (by omega)
  rw [e2]
  have hz : x.xs.length ≤ 1073741000 := by have := h1.2.2.1; omega
  clear h1 hl e2 en hM
  generalize isPath x.b.path = g0 at *
  generalize x.b.mails.all isMail = g1 at *
  generalize str x.path = s1 at *
  generalize x.xs.length = n1 at *
  generalize x.a = a1 at *
  generalize x.c = c1 at *
  have hA1 : Below w.heap.size w (w.alloc (.cells #[.string s1, .slice a1 n1 c1] 35)) := (Below.refl _ _).alloc (Nat.le_refl _) _
  have HX := Lib.hid (MK2.new w (.string s1) (.slice a1 n1 c1) 35)
  go_enter Tryd.func43, Tryd.ntmps43
  go_wp2_with fail
  refine (HP.out _ hA1).mono ?_
  rintro e w1 ⟨rfl, hb1⟩
  have hb01 := nx hA1 hb1
  obtain ⟨y0, y1⟩ := HX.out.below hb1
  cases g0
  · go_wp2
    go_ret
    exact ⟨rfl, hb01⟩
  · by_cases k1 : (n1 : Int) ≤ 4
    · have z1 := decide_eq_true k1
      go_wp2_with fail
      refine (HA.out _ hb01).mono ?_
      rintro e w2 ⟨rfl, hb2⟩
      go_wp2
      go_ret
      exact ⟨ret_bool (by rw [z1]; rfl), nx hb01 hb2⟩
    · have z1 := decide_eq_false k1
      go_wp2
      go_ret
      exact ⟨ret_bool (by rw [z1]; rfl), hb01⟩
theorem bx_bad {xs : List BxA} {k : Nat} (h : k < xs.length) (hp : isBx xs[k].b = false) : (xs.map BxA.b).all isBx = false := by
  rw [List.all_eq_false]; exact ⟨_, List.mem_map.2 ⟨_, List.getElem_mem h, rfl⟩, by simp [hp]⟩
theorem bx_good {xs : List BxA} {n : Nat} (hn : xs.length ≤ n) (h : ∀ j, j < n → (h' : j < xs.length) → isBx xs[j].b = true) : (xs.map BxA.b).all isBx = true := by
  rw [List.all_eq_true]; intro x hx
  obtain ⟨y, hy, rfl⟩ := List.mem_map.1 hx
  obtain ⟨j, hj, rfl⟩ := List.getElem_of_mem hy
  exact h j (by omega) hj
set_option maxRecDepth 100000 in
set_option maxHeartbeats 4000000 in
theorem allValid_box (M : Nat) (a : Option Addr) (n c : Nat) (xs : List BxA) (w : World) (en : Env w) (hx : xs.length = n) (h1 : RdBs M w a xs) (hM : M ≤ 1073741000) (hn : n ≤ 1073741000) :
    Calls Tryd.prog 42 #[.slice a n c, .func (.func 43) #[] #[]] w fun e w' => e = .returned (.bool ((xs.map BxA.b).all isBx)) ∧ Below w.heap.size w w' := by
  have X1 := Lib.hid h1
  have L1 := Lib.hid hx
  clear h1 hx
  go_enter Tryd.func42, Tryd.ntmps42
  go_wp2_with fail
  go_loopw [9] (fun i wr => ∃ k : Nat, k ≤ n ∧ i = .int .i64 k ∧ Below w.heap.size w wr ∧ ∀ j, j < k → (h' : j < xs.length) → isBx xs[j].b = true) (fun i _ => n - (intOf i).toNat)
  case atStart => exact ⟨0, Nat.zero_le _, rfl, Below.refl _ _, fun j h => by omega⟩
  case round =>
    obtain ⟨k, hk, rfl, hb, hall⟩ := hrel
    have HA := Lib.hid hall
    clear hall
    by_cases hlt : k < n
    · have k1 : k < xs.length := by rw [L1.out]; exact hlt
      obtain ⟨b1, o1, rfl, hb1, p0, p1, p3⟩ := (X1.out.below hb).at k1
      have hkn : (k : Int) < (n : Int) := by omega
      have hk0 : (0 : Int) ≤ (k : Int) := by omega
      have HC : Hid (∀ u, Below wr.heap.size wr u → Calls Tryd.prog 43 #[.agg #[.string (str xs[k].path), .slice xs[k].a xs[k].xs.length xs[k].c]] u fun e w' => e = .returned (.bool (isBx xs[k].b)) ∧ Below u.heap.size u w') := fun u hu => boxValid_any M xs[k] u (en.below (nx hb hu)) (p3.below hu) hM
      clear p3
      cases hq : isBx xs[k].b
      · have HN : Hid ((xs.map BxA.b).all isBx = false) := bx_bad k1 hq
        rw [hq] at HC
        clear hq
        generalize xs[k] = x at *
        go_wp2_with fail
        refine (HC.out _ ((Below.refl _ _).alloc (Nat.le_refl _) _)).mono ?_
        rintro e w5 ⟨rfl, hb5⟩
        have hbx := nx hb (nx ((Below.refl _ _).alloc (Nat.le_refl _) _) hb5)
        clear p0 p1
        go_wp2
        go_ret
        exact ⟨ret_bool HN.out.symm, hbx⟩
      · have HQ : Hid (∀ j (h' : j < xs.length), j = k → isBx xs[j].b = true) := fun j h' e => by subst e; exact hq
        rw [hq] at HC
        clear hq
        generalize xs[k] = x at *
        go_wp2_with fail
        refine (HC.out _ ((Below.refl _ _).alloc (Nat.le_refl _) _)).mono ?_
        rintro e w5 ⟨rfl, hb5⟩
        have hbx := nx hb (nx ((Below.refl _ _).alloc (Nat.le_refl _) _) hb5)
        clear p0 p1
        go_wp2
        go_roundw
        case rel => exact ⟨k + 1, by omega, by go_num, hbx, fun j h h' => by
          by_cases e : j = k
          · exact HQ.out j h' e
          · exact HA.out j (by omega) h'⟩
        case measure => simp [intOf]; omega
    · have HN : Hid ((xs.map BxA.b).all isBx = true) := bx_good (n := n) (by have := L1.out; omega) (fun j h h' => HA.out j (by omega) h')
      go_wp2
      go_ret
      exact ⟨ret_bool HN.out.symm, hb⟩
theorem bx_upbad {xs : List BxA} {i : Nat} (h : i + 1 < xs.length) (hp : ltP xs[i].path xs[i + 1].path = false) : upBx (xs.map BxA.b) = false := by
  refine up_bad (i := i) (by simpa using h) ?_
  simp only [List.getElem_map]; exact hp
theorem bx_upgood {xs : List BxA} {n : Nat} (hn : xs.length ≤ n) (h : ∀ j, j + 1 < n → (h' : j + 1 < xs.length) → ltP xs[j].path xs[j + 1].path = true) : upBx (xs.map BxA.b) = true := by
  rw [upBx_iff]; intro i hi
  simp only [List.getElem_map]
  have hi' : i + 1 < xs.length := by simpa using hi
  exact h i (by omega) hi'
set_option maxRecDepth 100000 in
set_option maxHeartbeats 4000000 in
theorem boxesValid_any (M : Nat) (a : Option Addr) (n c : Nat) (xs : List BxA) (w : World) (en : Env w) (hx : xs.length = n) (h1 : RdBs M w a xs) (hM : M ≤ 1073741000) (hn : n ≤ 1073741000) :
    Calls Tryd.prog 14 #[.slice a n c] w fun e w' => e = .returned (.bool (isBxs (xs.map BxA.b))) ∧ Below w.heap.size w w' := by
  have hl : (xs.map BxA.b).length = n := by rw [List.length_map]; exact hx
  by_cases hbig : 8 < n
  · have HN : Hid (isBxs (xs.map BxA.b) = false) := isBxs_long (by omega)
    have d0 : decide ((n : Int) > 8) = true := decide_eq_true (by omega)
    clear h1 hl hx
    go_enter Tryd.func14, Tryd.ntmps14
    go_wp2
    go_ret
    exact ⟨ret_bool HN.out.symm, Below.refl _ _⟩
  · have HA : Hid (Calls Tryd.prog 42 #[.slice a n c, .func (.func 43) #[] #[]] w fun e w' => e = .returned (.bool ((xs.map BxA.b).all isBx)) ∧ Below w.heap.size w w') := allValid_box M a n c xs w en hx h1 hM hn
    have d0 : decide ((n : Int) > 8) = false := decide_eq_false (by omega)
    cases hq : (xs.map BxA.b).all isBx
    · have HN : Hid (isBxs (xs.map BxA.b) = false) := isBxs_all hq
      rw [hq] at HA
      clear h1 hl hx hq
      go_enter Tryd.func14, Tryd.ntmps14
      go_wp2_with fail
      refine HA.out.mono ?_
      rintro e w1 ⟨rfl, hb1⟩
      go_wp2
      go_ret
      exact ⟨ret_bool HN.out.symm, hb1⟩
    · have HG : Hid (upBx (xs.map BxA.b) = true → isBxs (xs.map BxA.b) = true) := fun h => isBxs_yes (by omega) hq h
      rw [hq] at HA
      have X1 := Lib.hid h1
      have L1 := Lib.hid hx
      clear h1 hl hx hq
      go_enter Tryd.func14, Tryd.ntmps14
      go_wp2_with fail
      refine HA.out.mono ?_
      rintro e w1 ⟨rfl, hb1⟩
      go_wp2_with fail
      go_loopw [3] (fun i wr => ∃ k : Nat, 1 ≤ k ∧ i = .int .i64 k ∧ Below w.heap.size w wr ∧ ∀ j, j + 1 < k → (h' : j + 1 < xs.length) → ltP xs[j].path xs[j + 1].path = true) (fun i _ => n - (intOf i).toNat)
      case atStart => exact ⟨1, Nat.le_refl _, rfl, hb1, fun j h => by omega⟩
      case round =>
        obtain ⟨k, hk, rfl, hb, hall⟩ := hrel
        have HALL := Lib.hid hall
        clear hall hb1
        by_cases hlt : k < n
        · have k1 : k < xs.length := by rw [L1.out]; exact hlt
          have k0 : k - 1 < xs.length := by omega
          obtain ⟨b1, o1, rfl, hl1, p0, p1, p3⟩ := (X1.out.below hb).at k1
          obtain ⟨b2, o2, he2, hl2, q0, q1, q3⟩ := (X1.out.below hb).at k0
          injection he2 with he2
          injection he2 with e1 e2
          subst e1 e2
          have hkn : (k : Int) < (n : Int) := by omega
          have hi0 : (0 : Int) ≤ (k : Int) - 1 := by omega
          have hi1 : (k : Int) - 1 < (n : Int) := by omega
          have hi2 : ((k : Int) - 1).toNat = k - 1 := by omega
          have zc0 : ∀ y : BelowT wr, y.val.cell? ⟨b1, o1 + k * 2, none⟩ = some (.string (str xs[k].path)) := fun y => (below_at y.below hl1).trans p0
          have zc1 : ∀ y : BelowT wr, y.val.cell? ⟨b1, o1 + (k - 1) * 2, none⟩ = some (.string (str xs[k - 1].path)) := fun y => (below_at y.below hl2).trans q0
          clear p0 p1 p3 q0 q1 q3
          have HK : Hid (∀ h : k - 1 + 1 < xs.length, ltP xs[k - 1].path xs[k - 1 + 1].path = ltP xs[k - 1].path xs[k].path) := fun h => by
            have : k - 1 + 1 = k := by omega
            simp only [this]
          cases hq : ltP xs[k - 1].path xs[k].path
          · have HN : Hid (isBxs (xs.map BxA.b) = false) := isBxs_up (bx_upbad (i := k - 1) (by omega) (by rw [HK.out (by omega)]; exact hq))
            have hq' : Op.bytesLess (str xs[k - 1].path).toList (str xs[k].path).toList = false := hq
            clear hq
            generalize str xs[k - 1].path = s1 at *
            generalize str xs[k].path = s2 at *
            go_wp2_with fail
            refine wp_region_quietB (W := wr) (by kernel_rfl) (by kernel_rfl) (Below.refl _ _) ?_
            repeat (go_big_quiet_step (fail))
            refine wpQuiet_nil ?_
            intro wz hwz
            obtain ⟨x9, rfl⟩ := hwz
            have hb9 := nx hb x9.below
            clear zc0 zc1
            generalize x9.val = w9 at *
            go_wp2
            go_ret
            exact ⟨ret_bool HN.out.symm, hb9⟩
          · have HQ : Hid (∀ j (h' : j + 1 < xs.length), j = k - 1 → ltP xs[j].path xs[j + 1].path = true) := fun j h' e => by subst e; rw [HK.out h']; exact hq
            have hq' : Op.bytesLess (str xs[k - 1].path).toList (str xs[k].path).toList = true := hq
            clear hq
            generalize str xs[k - 1].path = s1 at *
            generalize str xs[k].path = s2 at *
            go_wp2_with fail
            refine wp_region_quietB (W := wr) (by kernel_rfl) (by kernel_rfl) (Below.refl _ _) ?_
            repeat (go_big_quiet_step (fail))
            refine wpQuiet_nil ?_
            intro wz hwz
            obtain ⟨x9, rfl⟩ := hwz
            have hb9 := nx hb x9.below
            clear zc0 zc1
            generalize x9.val = w9 at *
            go_wp2
            go_roundw
            case rel => exact ⟨k + 1, by omega, by go_num, hb9, fun j h h' => by
              by_cases e : j = k - 1
              · exact HQ.out j h' e
              · exact HALL.out j (by omega) h'⟩
            case measure => simp [intOf]; omega
        · have HN : Hid (isBxs (xs.map BxA.b) = true) := HG.out (bx_upgood (n := k) (by have := L1.out; omega) (fun j h h' => HALL.out j h h'))
          go_wp2
          go_ret
          exact ⟨ret_bool HN.out.symm, hb⟩
def heldL (bs : List Bx) : Nat := (bs.map (fun b => b.mails.length)).sum
def heldB (bs : List Bx) : Nat := if isBxs bs then heldL bs else 0
theorem held_take {xs : List BxA} {k : Nat} (h : k < xs.length) : heldL ((xs.take (k + 1)).map BxA.b) = heldL ((xs.take k).map BxA.b) + xs[k].xs.length := by
  rw [take_bxs h]; unfold heldL; rw [List.map_append, List.sum_append]; simp [BxA.b]
theorem bxs_mails {bs : List Bx} (h : isBxs bs = true) : bs.length ≤ 8 ∧ ∀ b ∈ bs, b.mails.length ≤ 4 := by
  unfold isBxs at h
  rw [Bool.and_eq_true, Bool.and_eq_true, decide_eq_true_eq, List.all_eq_true] at h
  refine ⟨h.1, fun b hb => ?_⟩
  have := h.2.1 b hb
  unfold isBx at this
  simp at this; exact this.2.1
theorem heldL_le : ∀ {bs : List Bx}, (∀ b ∈ bs, b.mails.length ≤ 4) → heldL bs ≤ 4 * bs.length
  | [], _ => Nat.le_refl _
  | b :: bs, h => by
    have h1 := h b (by simp)
    have h2 := heldL_le (bs := bs) (fun x hx => h x (by simp [hx]))
    unfold heldL at *
    simp; omega
set_option maxRecDepth 100000 in
set_option maxHeartbeats 4000000 in
theorem countHeld_any (M : Nat) (a : Option Addr) (n c : Nat) (xs : List BxA) (w : World) (en : Env w) (hx : xs.length = n) (h1 : RdBs M w a xs) (hM : M ≤ 1073741000) (hn : n ≤ 1073741000) :
    Calls Tryd.prog 15 #[.slice a n c] w fun e w' => e = .returned (.int .i64 (heldB (xs.map BxA.b))) ∧ Below w.heap.size w w' := by
  have HV : Hid (Calls Tryd.prog 14 #[.slice a n c] w fun e w' => e = .returned (.bool (isBxs (xs.map BxA.b))) ∧ Below w.heap.size w w') := boxesValid_any M a n c xs w en hx h1 hM hn
  cases hq : isBxs (xs.map BxA.b)
  · have HN : Hid ((heldB (xs.map BxA.b) : Int) = 0) := by show _ = _; unfold heldB; rw [hq]; rfl
    rw [hq] at HV
    clear h1 hx hq
    go_enter Tryd.func15, Tryd.ntmps15
    go_wp2_with fail
    refine HV.out.mono ?_
    rintro e w1 ⟨rfl, hb1⟩
    go_wp2
    go_ret
    exact ⟨ret_int HN.out.symm, hb1⟩
  · have HN : Hid (heldB (xs.map BxA.b) = heldL (xs.map BxA.b)) := by show _ = _; unfold heldB; rw [hq]; rfl
    obtain ⟨z8, z4⟩ := bxs_mails hq
    rw [List.length_map] at z8
    have Z4 : Hid (∀ k (h : k < xs.length), xs[k].xs.length ≤ 4) := fun k h => by
      have := z4 xs[k].b (List.mem_map_of_mem (List.getElem_mem h))
      unfold BxA.b at this; simpa using this
    have ZT : Hid (∀ k, heldL ((xs.take k).map BxA.b) ≤ 32) := fun k => by
      have := heldL_le (bs := (xs.take k).map BxA.b) (fun b hb => z4 b (by
        obtain ⟨y, hy, rfl⟩ := List.mem_map.1 hb
        exact List.mem_map_of_mem (List.mem_of_mem_take hy)))
      rw [List.length_map, List.length_take] at this
      show _ ≤ _; omega
    rw [hq] at HV
    have X1 := Lib.hid h1
    have L1 := Lib.hid hx
    clear h1 hx hq z4 z8
    go_enter Tryd.func15, Tryd.ntmps15
    go_wp2_with fail
    refine HV.out.mono ?_
    rintro e w1 ⟨rfl, hb1⟩
    go_wp2_with fail
    go_loopw [3, 11] (fun v i wr => ∃ k : Nat, k ≤ n ∧ i = .int .i64 k ∧ v = .int .i64 (heldL ((xs.take k).map BxA.b)) ∧ Below w.heap.size w wr) (fun _ i _ => n - (intOf i).toNat)
    case atStart => exact ⟨0, Nat.zero_le _, rfl, rfl, hb1⟩
    case round =>
      obtain ⟨k, hk, rfl, rfl, hb⟩ := hrel
      clear hb1
      by_cases hlt : k < n
      · have k1 : k < xs.length := by rw [L1.out]; exact hlt
        obtain ⟨b1, o1, rfl, hl1, p0, p1, p3⟩ := (X1.out.below hb).at k1
        have hkn : (k : Int) < (n : Int) := by omega
        have hk0 : (0 : Int) ≤ (k : Int) := by omega
        have HT := Lib.hid (held_take k1)
        have hz := Z4.out k k1
        have hy := ZT.out k
        clear p3
        generalize heldL ((xs.take k).map BxA.b) = H at *
        generalize xs[k].xs.length = nn at *
        generalize xs[k].a = aa at *
        generalize xs[k].c = cc at *
        generalize str xs[k].path = ss at *
        go_wp2
        go_roundw
        case rel => exact ⟨k + 1, by omega, by go_num, by rw [HT.out]; go_num, by first | exact hb | exact nx hb ((Below.refl _ _).alloc (Nat.le_refl _) _)⟩
        case measure => simp [intOf]; omega
      · have HE : Hid (heldL ((xs.take k).map BxA.b) = heldB (xs.map BxA.b)) := by show _ = _; rw [HN.out, List.take_of_length_le (by have := L1.out; omega)]
        rw [HE.out]
        go_wp2
        go_ret
        exact ⟨rfl, hb⟩
end Go.Proofs.YtbfjbabpeigloabDoor
end

section
namespace Go.Proofs.YtbfjbabpeigloabDoor
open Go.RowKit

/-- All blocks that were there read as they did, but the one that is named, if one is. -/
structure Only (o : Option Nat) (w w' : World) : Prop where
  os : w'.os = w.os
  tape : w'.tape = w.tape
  output : w'.output = w.output
  size : w.heap.size ≤ w'.heap.size
  block : ∀ k, k < w.heap.size → some k ≠ o → w'.heap[k]? = w.heap[k]?
theorem Only.refl (o : Option Nat) (w : World) : Only o w w := ⟨rfl, rfl, rfl, Nat.le_refl _, fun _ _ _ => rfl⟩
theorem Only.trans {o : Option Nat} {a b c : World} (h : Only o a b) (k : Only o b c) : Only o a c :=
  ⟨k.os.trans h.os, k.tape.trans h.tape, k.output.trans h.output, Nat.le_trans h.size k.size, fun i hi hr => (k.block i (Nat.lt_of_lt_of_le hi h.size) hr).trans (h.block i hi hr)⟩
theorem Only.of_below {o : Option Nat} {w w' : World} (h : Below w.heap.size w w') : Only o w w' := ⟨h.os, h.tape, h.output, h.size, fun k hk _ => h.block k hk⟩
theorem Only.ext {o : Option Nat} {w wr w' : World} (h : Only o w wr) (k : Below wr.heap.size wr w') : Only o w w' := h.trans (Only.of_below k)
theorem Only.setCell {g i : Nat} {w w' : World} (h : Only (some g) w w') (v : Value) : Only (some g) w (w'.setCell ⟨g, i, none⟩ v) :=
  ⟨h.os, h.tape, h.output, by have := h.size; simpa [World.setCell] using this, fun k hk hr => by rw [Below.heap_setCell _ _ _ _ (by show k ≠ g; intro e; exact hr (by rw [e]))]; exact h.block k hk hr⟩
theorem Only.below {o : Option Nat} {B : Nat} {w w' : World} (h : Only o w w') (hB : ∀ g, o = some g → B ≤ g) (hs : B ≤ w.heap.size) : Below B w w' :=
  ⟨h.os, h.tape, h.output, h.size, fun k hk => h.block k (by omega) (fun e => by have := hB k e.symm; omega)⟩
theorem OwnR.only {α : Type} {T : TypeId} {k : Nat} {f : α → List Value} {B : Nat} {v : Value} {xs : List α} {w w' : World} {o : Option Nat} (h : OwnR T k f B v xs w) (t : Only o w w') (hne : ∀ g, v.ownBlock = some g → o ≠ some g) : OwnR T k f B v xs w' := by
  refine ⟨h.1, ?_⟩
  rcases h.2 with hn | ⟨g, cap, cur, hv, hg1, hg2, rest⟩
  · exact .inl hn
  · exact .inr ⟨g, cap, cur, hv, hg1, by rw [t.block g (lt_of_block hg2) (fun e => hne g (by rw [hv]; rfl) e.symm), hg2], rest⟩
theorem flat_ext {α : Type} (f : α → List Value) (k : Nat) (hk : 0 < k) (hf : ∀ a, (f a).length = k) (xs : List α) (L : List Value) (hl : L.length = xs.length * k) (h : ∀ j, (hj : j < xs.length) → ∀ d, d < k → L[j * k + d]? = (f xs[j])[d]?) : L = xs.flatMap f := by
  apply List.ext_getElem?
  intro i
  by_cases hi : i < xs.length * k
  · have h1 : i / k < xs.length := Nat.div_lt_of_lt_mul (by rw [Nat.mul_comm]; exact hi)
    have h2 : i % k < k := Nat.mod_lt _ hk
    have e : i / k * k + i % k = i := Nat.div_add_mod' i k
    have g1 := h (i / k) h1 (i % k) h2
    have g2 := flat_at f k hf xs (i / k) (i % k) h2 h1
    rw [e] at g1 g2
    rw [g1, g2]
  · rw [List.getElem?_eq_none (by omega), List.getElem?_eq_none (by rw [flat_len f k hf]; omega)]
theorem row_keep {B T s n g c : Nat} {L : List Value} {w w' : World} (h : w.ownsRow B T s (.slice (some ⟨g, 0, none⟩) n c) n L) (b : Below w.heap.size w w') : w'.ownsRow B T s (.slice (some ⟨g, 0, none⟩) n c) n L := by
  refine ⟨h.1, ?_⟩
  rcases h.2 with hn | ⟨g', cap', cur', hv', hg1, hg2, rest⟩
  · exact .inl hn
  · exact .inr ⟨g', cap', cur', hv', hg1, by rw [b.block g' (lt_of_block hg2), hg2], rest⟩
theorem row_cell {B T s n g c : Nat} {L : List Value} {w : World} (h : w.ownsRow B T s (.slice (some ⟨g, 0, none⟩) n c) n L) (i : Nat) (hi : i < L.length) : ∃ v, w.cell? ⟨g, i, none⟩ = some v := by
  have := h.cells (g := g) rfl i (L[i]) (List.getElem?_eq_getElem hi)
  rw [add0] at this
  exact ⟨_, this⟩
theorem OwnL.only {B : Nat} {v : Value} {xs : List (List UInt8)} {w w' : World} {o : Option Nat} (h : OwnL B v xs w) (t : Only o w w') (hne : ∀ g, v.ownBlock = some g → o ≠ some g) : OwnL B v xs w' := by
  refine ⟨h.1, ?_⟩
  rcases h.2 with hn | ⟨g, cap, cur, hv, hg1, hg2, rest⟩
  · exact .inl hn
  · exact .inr ⟨g, cap, cur, hv, hg1, by rw [t.block g (lt_of_block hg2) (fun e => hne g (by rw [hv]; rfl) e.symm), hg2], rest⟩
theorem OwnL.lt {B : Nat} {v : Value} {xs : List (List UInt8)} {w : World} (h : OwnL B v xs w) : ∀ g, v.ownBlock = some g → B ≤ g ∧ g < w.heap.size := World.ownsRow.lt h
end Go.Proofs.YtbfjbabpeigloabDoor
end

section
namespace Go.Proofs.YtbfjbabpeigloabDoor
open Go.RowKit

theorem OwnL.grown {B : Nat} {v : Value} {xs : List (List UInt8)} {w w' : World} {row : Option Nat} (h : OwnL B v xs w) (hg : w.grownBy w' row) (hne : ∀ g, v.ownBlock = some g → row ≠ some g) : OwnL B v xs w' := by
  unfold OwnL at h ⊢
  refine World.ownsRow.kept h hg ?_
  cases hv : v.ownBlock with
  | none => exact .inl rfl
  | some g => exact .inr (fun e => hne g hv e.symm)
theorem OwnL.readc {B : Nat} {v : Value} {xs : List (List UInt8)} {w : World} (h : OwnL B v xs w) : ∃ a c, v = .slice a xs.length c ∧ RdL w a xs.length xs ∧ xs.length ≤ maxLen ∧ (a = none → c = 0) ∧ xs.length ≤ c := by
  obtain ⟨a, c, hv, hr, hl⟩ := h.read
  refine ⟨a, c, hv, hr, hl, ?_⟩
  unfold OwnL at h
  rcases h.2 with ⟨hn, h0⟩ | ⟨g, cap, cur, hv', _, _, hnc, _⟩
  · rw [hn] at hv; injection hv with h1 h2 h3
    exact ⟨fun _ => h3.symm, by omega⟩
  · rw [hv'] at hv; injection hv with h1 h2 h3
    exact ⟨fun e => (by rw [e] at h1; cases h1), by omega⟩
theorem addr_add (b off i : Nat) : (⟨b, off, none⟩ : Addr).add i = ⟨b, off + i, none⟩ := by unfold Addr.add; split <;> simp_all
set_option maxRecDepth 100000 in
set_option maxHeartbeats 400000 in
theorem wpList_append_RL {ops : Array Oper} {rest : List Oper} {o : Oper} {Q : Exit → Act → World → Prop} {a : Act} {w : World} (hw : Region.wanted o (yielded ops a.tmps) = true) (s x : Operand)
    (ho : o.op = .call { callee := .builtin .append, args := #[s, x], argTypes := #[26, 26] })
    (B : Nat) (v : Value) (xs ys : List (List UInt8)) (ad : Option Addr) (n c : Nat) (hs : a.eval s = v) (hx : a.eval x = .slice ad n c) (hown : OwnL B v xs w) (hy : RdL w ad n ys) (hac : ad = none → c = 0) (hB : B ≤ w.heap.size) (hl : xs.length + ys.length ≤ 10000000)
    (h : ∀ v' w', OwnL B v' (xs ++ ys) w' → w.grownBy w' v.ownBlock → (v'.ownBlock = v.ownBlock ∨ v'.ownBlock = some w.heap.size) → wpList Tryd.prog ops Q rest (a.put o.dst v') w') : wpList Tryd.prog ops Q (o :: rest) a w := by
  obtain ⟨i0, hi, hz0, hz1, hz2⟩ := info_parts sInfo
  refine wpList_unguardL hw ?_
  have hn := hy.1
  unfold OwnL at hown
  cases ad with
  | none =>
    have h0 : n = 0 := by
      rcases hy.2 with e | ⟨b, off, e, _⟩
      · exact e
      · cases e
    obtain rfl := hac rfl
    subst h0
    have hn0 : ys = [] := List.length_eq_zero_iff.1 hn
    refine wpList_append_own_none rfl s x 26 ho B 9 i0 1 Tryd.underlying26 hi v xs.length (xs.map strV) hs hown hx ?_
    refine h v w ?_ ⟨rfl, rfl, rfl, Nat.le_refl _, fun _ _ _ => rfl⟩ (.inl rfl)
    subst hn0
    rw [List.append_nil]; exact hown
  | some q =>
    refine wpList_append_own_at w rfl s x 26 ho B 9 i0 (.string ⟨#[]⟩) 1 16 Tryd.underlying26 hi hz0 hz1 hz2 rfl (by decide) v xs.length (xs.map strV) hs hown q n c (ys.map strV) hx (by simp [hn]) ?_ ?_ ?_ ?_ hB ?_
    · intro j z hj
      have hjl : j < ys.length := by
        have := (List.getElem?_eq_some_iff.1 hj).1
        simpa using this
      rcases hy.2 with e | ⟨b, off, e, _, hc⟩
      · omega
      · injection e with e
        subst e
        rw [addr_add, hc j hjl]
        rw [List.getElem?_map, List.getElem?_eq_getElem hjl] at hj
        exact hj
    · intro z hz
      obtain ⟨q, _, rfl⟩ := List.mem_map.1 hz
      rfl
    · unfold maxLen; omega
    · omega
    · intro v' w' ho' hgr _ hat
      refine h v' w' ?_ hgr hat
      unfold OwnL; rw [List.length_append, List.map_append, hn]; exact ho'
set_option maxRecDepth 100000 in
set_option maxHeartbeats 400000 in
/-- One string behind a row of the call's own. -/
theorem wpList_append_1L {ops : Array Oper} {rest : List Oper} {o : Oper} {Q : Exit → Act → World → Prop} {a : Act} {w : World} (hw : Region.wanted o (yielded ops a.tmps) = true) (s x : Operand)
    (ho : o.op = .call { callee := .builtin .append, args := #[s, x], argTypes := #[26, 26] })
    (B : Nat) (v : Value) (xs : List (List UInt8)) (y : ByteArray) (b : Nat) (hs : a.eval s = v) (hx : a.eval x = .slice (some ⟨b, 0, none⟩) 1 1) (hc : w.cell? ⟨b, 0, none⟩ = some (.string y)) (hown : OwnL B v xs w) (hB : B ≤ w.heap.size) (hl : xs.length ≤ 9000000)
    (h : ∀ v' w', OwnL B v' (xs ++ [y.data.toList]) w' → w.grownBy w' v.ownBlock → (v'.ownBlock = v.ownBlock ∨ v'.ownBlock = some w.heap.size) → wpList Tryd.prog ops Q rest (a.put o.dst v') w') : wpList Tryd.prog ops Q (o :: rest) a w :=
  wpList_append_RL hw s x ho B v xs [y.data.toList] (some ⟨b, 0, none⟩) 1 1 hs hx hown ⟨rfl, .inr ⟨b, 0, rfl, lt_of_cell hc, fun i hi => by
    obtain rfl : i = 0 := by simpa using hi
    rw [Nat.add_zero, hc]; simp [str_of]⟩⟩ (fun e => by cases e) hB (by rw [List.length_singleton]; omega) h
theorem below_grown {B : Nat} {w w1 w' : World} {row : Option Nat} (hb : Below B w w1) (hg : w1.grownBy w' row) (hB : B ≤ w1.heap.size) (hr : ∀ g, row = some g → B ≤ g) : Below B w w' := hb.grown hg hB hr
end Go.Proofs.YtbfjbabpeigloabDoor
end

section
namespace Go.Proofs.YtbfjbabpeigloabDoor
open Go.RowKit

/-- A mail whose rows the call has made. -/
def OwnM (B : Nat) (w : World) (x : MlA) : Prop := OwnL B (.slice x.a1 x.m.to.length x.c1) x.m.to w ∧ OwnL B (.slice x.a2 x.m.lines.length x.c2) x.m.lines w ∧ ∀ g, (Value.slice x.a1 x.m.to.length x.c1).ownBlock = some g → (Value.slice x.a2 x.m.lines.length x.c2).ownBlock ≠ some g
theorem OwnL.rdc {B : Nat} {a : Option Addr} {c : Nat} {xs : List (List UInt8)} {w : World} (h : OwnL B (.slice a xs.length c) xs w) : RdC w a c xs := by
  obtain ⟨a', c', e, h1, _, h3, h4⟩ := h.readc
  injection e with e1 _ e3
  subst e1 e3
  exact ⟨h1, h4, h3⟩
theorem OwnM.rd {B M : Nat} {w : World} {x : MlA} (h : OwnM B w x) (hs : SmallM M x.m) : RdM M w x := ⟨h.1.rdc, h.2.1.rdc, hs⟩
theorem OwnM.keep {B : Nat} {w w' : World} {x : MlA} (h : OwnM B w x) (k : Below w.heap.size w w') : OwnM B w' x := ⟨h.1.keep k, h.2.1.keep k, h.2.2⟩
theorem OwnM.base {B B' : Nat} {w : World} {x : MlA} (h : OwnM B w x) (k : B' ≤ B) : OwnM B' w x := ⟨h.1.base k, h.2.1.base k, h.2.2⟩
def MalRet (m : Ml) (w : World) (e : Ending) (w' : World) : Prop := ∃ x : MlA, x.m = m ∧ e = .returned (mlV x) ∧ OwnM w.heap.size w' x ∧ Below w.heap.size w w'
theorem OwnL.off {B g i : Nat} {v : Value} {xs : List (List UInt8)} {w : World} (h : OwnL B v xs w) (hg : g < B) (u : Value) : OwnL B v xs (w.setCell ⟨g, i, none⟩ u) :=
  h.touch (Touch.setCell w g i u) hg
theorem own_apart {B C : Nat} {v u : Value} {xs ys : List (List UInt8)} {w w' : World} (h : OwnL B v xs w) (h' : OwnL C u ys w') (hc : w.heap.size ≤ C) : ∀ g, v.ownBlock = some g → u.ownBlock ≠ some g := fun g hg e => by
  have := (h.lt g hg).2
  have := (h'.lt g e).1
  omega
end Go.Proofs.YtbfjbabpeigloabDoor
end

section
namespace Go.Proofs.YtbfjbabpeigloabDoor
open Go.RowKit

theorem OwnL.cap {B n c : Nat} {a : Option Addr} {xs : List (List UInt8)} {w : World} (h : OwnL B (.slice a n c) xs w) : c ≤ maxLen := by
  rcases h.2 with ⟨hv, _⟩ | ⟨g, cap, cur, hv, _, _, _, hc, _⟩
  · injection hv with _ _ e; subst e; unfold maxLen; omega
  · injection hv with _ _ e; subst e; exact hc
theorem nil_eqS (a : Option Addr) (n c : Nat) (w : World) : (binOp .eql 26 (.slice a n c) (.slice none 0 0)).run Tryd.prog w = .ok (.bool a.isNone) w := by
  cases a <;> kernel_rfl
set_option maxRecDepth 100000 in
set_option maxHeartbeats 1000000 in
theorem cloneS_any (a : Option Addr) (n c : Nat) (xs : List (List UInt8)) (w : World) (hr : RdL w a n xs) (hac : a = none → c = 0) (hn : n ≤ 1048576) :
    Calls Tryd.prog 88 #[.slice a n c] w fun e w' => ∃ a' c', e = .returned (.slice a' n c') ∧ OwnL w.heap.size (.slice a' n c') xs w' ∧ Below w.heap.size w w' := by
  have hlen := hr.1
  cases a with
  | none =>
    obtain rfl := hac rfl
    have hn0 : n = 0 := by
      rcases hr.2 with h | ⟨b, off, e, _⟩
      · exact h
      · cases e
    subst hn0
    have hx : xs = [] := List.length_eq_zero_iff.1 hlen
    subst hx
    have HO : Hid (OwnL w.heap.size (.slice none 0 0) [] w) := OwnL.nil _ _
    have hq := nil_eqS none 0 0 w
    have hq2 : (none : Option Addr).isNone = true := rfl
    rw [hq2] at hq
    go_enter Tryd.func88, Tryd.ntmps88
    go_wp2
    go_ret
    exact ⟨_, _, rfl, HO.out, Below.refl _ _⟩
  | some q =>
    have hA : Below w.heap.size w (w.alloc (.cells #[] 9)) := (Below.refl _ _).alloc (Nat.le_refl _) _
    have HE := Lib.hid (OwnL.empty w)
    have HR := Lib.hid (hr.below hA)
    have hq := nil_eqS (some q) n c w
    have hq2 : (some q).isNone = false := rfl
    rw [hq2] at hq
    clear hr hac
    go_enter Tryd.func88, Tryd.ntmps88
    go_wp2_with (at_builtin; refine wpList_append_RL rfl _ _ rfl w.heap.size _ [] xs (some q) n c rfl rfl HE.out HR.out (fun e => by cases e) ?c2 ?c3 ?_)
    case c2 => simp
    case c3 => simp; omega
    intro v' w2 hO2 hgr _
    have hb2 : Below w.heap.size w w2 := hA.grown hgr (by simp) (fun g hg => (HE.out.lt g hg).1)
    obtain ⟨a', c', rfl, _⟩ := hO2.read
    rw [hlen] at hO2 ⊢
    have HO := Lib.hid hO2
    clear hO2 hgr
    go_wp2
    go_ret
    exact ⟨_, _, rfl, HO.out, hb2⟩
end Go.Proofs.YtbfjbabpeigloabDoor
end

section
namespace Go.Proofs.YtbfjbabpeigloabDoor
open Go.RowKit

/-- What lay there is as it was; there may be more. -/
def Grow (w w' : World) : Prop := Below w.heap.size w w'
theorem Grow.refl (w : World) : Grow w w := Below.refl _ _
theorem Grow.trans {a b c : World} (h : Grow a b) (k : Grow b c) : Grow a c := nx h k

section
variable {P : Program} {ops : Array Oper} {Q : Exit → Act → World → Prop} {md : Region.Mode}

def growUpon (P : Program) (w : World) (v : Value) : Result Next → Prop
  | .ok (.value u) w' => w' = w ∧ u = v
  | .ok .skip w' => w' = w ∧ v = undef
  | .ok (.enter f args) w' => w' = w ∧ Calls P f args w (fun e w'' => e = .returned v ∧ Grow w w'')
  | _ => False
def growAt (P : Program) (o : Oper) (a : Act) (w : World) (v : Value) : Prop := growUpon P w v ((execOp a.eval o).run P w)
/-- In state a, in every world grown from w, operation o leaves v in its temporary and turns nothing. -/
def GYields (P : Program) (ops : Array Oper) (o : Oper) (v : Value) (a : Act) (w : World) : Prop :=
  (Region.wanted o (yielded ops a.tmps) = true ∧ ∀ w', Grow w w' → growAt P o a w' v) ∨ (Region.wanted o (yielded ops a.tmps) = false ∧ v = undef)
theorem GYields.grow {o : Oper} {v : Value} {a : Act} {w u : World} (h : GYields P ops o v a w) (g : Grow w u) : GYields P ops o v a u :=
  h.imp (fun ⟨h1, h2⟩ => ⟨h1, fun w' k => h2 w' (g.trans k)⟩) id
theorem GYields.of_same {o : Oper} {v : Value} {a a' : Act} {w : World} (hy : GYields P ops o v a w) (he : execOp a'.eval o = execOp a.eval o)
    (hw : Region.wanted o (yielded ops a'.tmps) = Region.wanted o (yielded ops a.tmps)) : GYields P ops o v a' w := by
  unfold GYields growAt at *
  rw [he, hw]
  exact hy
theorem GYields.wpOp {i : Nat} {o : Oper} {v : Value} {a : Act} {w : World} (hi : ops[i]? = some o) (hy : GYields P ops o v a w)
    {K : Act → World → Prop} (h : ∀ w', Grow w w' → K (a.put o.dst v) w') : wpOp P ops Q i K a w := by
  unfold Go.wpOp
  simp only [hi]
  rcases hy with ⟨hw, hv⟩ | ⟨hw, rfl⟩
  · rw [if_pos hw]
    refine .inl ?_
    have h1 := hv w (Grow.refl w)
    unfold growAt at h1
    unfold Oper.wp
    generalize (execOp a.eval o).run P w = r at *
    cases r with
    | ok n w' =>
      cases n <;> simp only [growUpon] at h1 <;> simp only [Oper.upon]
      case value u =>
        obtain ⟨e1, e2⟩ := h1
        rw [e1, e2]
        exact h _ (Grow.refl w)
      case skip =>
        obtain ⟨e1, e2⟩ := h1
        rw [e1, ← e2]
        exact h _ (Grow.refl w)
      case enter f args =>
        obtain ⟨e1, hc⟩ := h1
        rw [e1]
        exact hc.mono fun e w'' ⟨he, hw''⟩ => by subst he; exact h _ hw''
    | halt x w' => simp only [growUpon] at h1
  · rw [if_neg (by rw [hw]; exact Bool.false_ne_true)]; exact h _ (Grow.refl w)

theorem wpOp_putG {j : Nat} {oi oj : Oper} {v : Value} (hj : ops[j]? = some oj) (hap : oi.apart ops oj = true)
    (hsi : ∀ cs b, oi.op ≠ .select cs b) (hsj : ∀ cs b, oj.op ≠ .select cs b)
    (hQ : ∀ c a w, Q (.panic c) (a.put oi.dst v) w → Q (.panic c) a w) {K : Act → World → Prop} {a : Act} {w u : World}
    (hy : GYields P ops oi v a u) (h : wpOp P ops Q j K (a.put oi.dst v) w) :
    wpOp P ops Q j (fun a' w' => GYields P ops oi v a' u ∧ K (a'.put oi.dst v) w') a w := by
  obtain ⟨h1, h2, h3⟩ := Oper.apart_spec hap
  have keep : ∀ (a : Act), GYields P ops oi v a u → ∀ x, GYields P ops oi v (a.put oj.dst x) u := fun a hy x =>
    hy.of_same (execOp_put oi hsi a oj.dst x h3) (wanted_put oi a oj.dst x h3)
  have keepD : ∀ d, GYields P ops oi v { a with defers := d :: a.defers } u := fun d => hy.of_same rfl rfl
  unfold Go.wpOp at *
  simp only [hj] at *
  rw [wanted_put oj a oi.dst v h1] at h
  split
  · rename_i hw
    simp only [hw, if_true] at h
    rcases h with h | ⟨hasks, hlets⟩
    case inr => exact .inr ⟨by unfold Oper.asks at *; rw [execOp_put oj hsj a oi.dst v h1] at hasks; exact hasks, hlets⟩
    refine .inl ?_
    unfold Oper.wp at *
    rw [execOp_put oj hsj a oi.dst v h1] at h
    generalize (execOp a.eval oj).run P w = r at *
    cases r with
    | ok n w' =>
      cases n <;> simp only [Oper.upon] at h ⊢
      case value x => exact ⟨keep a hy x, by rw [← Act.put_comm a v x h2]; exact h⟩
      case skip => exact ⟨keep a hy _, by rw [← Act.put_comm a v undef h2]; exact h⟩
      case defer d =>
        refine ⟨keep _ (keepD d) _, ?_⟩
        rw [← Act.put_comm _ v undef h2, ← Act.put_defers]
        exact h
      case enter f args =>
        refine Calls.mono h fun e w'' he => ?_
        cases e with
        | returned x => exact ⟨keep a hy x, by rw [← Act.put_comm a v x h2]; exact he⟩
        | panicked c => exact hQ _ _ _ he
        | outgrown => exact he
      case row row args => exact Rows.mono h fun x w'' he => ⟨keep a hy x, by rw [← Act.put_comm a v x h2]; exact he⟩
    | halt x w' =>
      cases x <;> simp only [Oper.upon] at h ⊢
      case panic x => exact hQ _ _ _ h
  · rename_i hw
    simp only [hw] at h
    exact ⟨keep a hy _, by rw [← Act.put_comm a v undef h2]; exact h⟩

/-- Whatever order is picked from here on, in this world and in every one grown from it; each operation turns nothing old. -/
def wpAnyG (P : Program) (md : Region.Mode) (ops : Array Oper) (Q : Exit → Act → World → Prop) : Nat → Array Bool → Act → World → Prop
  | 0, listed, a, w => ∀ w', Grow w w' → Region.ready md ops listed = [] ∧ Q .normal a w'
  | fuel + 1, listed, a, w => ∀ w', Grow w w' → (Region.ready md ops listed = [] → Q .normal a w') ∧
    ∀ i ∈ Region.ready md ops listed, wpOp P ops Q i (fun a' w'' => Grow w' w'' ∧ wpAnyG P md ops Q fuel (listed.setIfInBounds i true) a' w'') a w'
theorem wpAny_of_G : ∀ (fuel : Nat) (listed : Array Bool) (a : Act) (w : World), wpAnyG P md ops Q fuel listed a w → wpAny P md ops Q fuel listed a w
  | 0, _, _, w, h => h w (Grow.refl w)
  | fuel + 1, _, _, w, h => ⟨(h w (Grow.refl w)).1, fun i hi => wpOp_mono (fun a' w' h' => wpAny_of_G fuel _ a' w' h'.2) ((h w (Grow.refl w)).2 i hi)⟩
theorem wpAnyG_grow {fuel : Nat} {listed : Array Bool} {a : Act} {w u : World} (g : Grow w u) (h : wpAnyG P md ops Q fuel listed a w) : wpAnyG P md ops Q fuel listed a u := by
  cases fuel with
  | zero => exact fun w' k => h w' (g.trans k)
  | succ fuel => exact fun w' k => h w' (g.trans k)

theorem wpAnyG_first {i : Nat} {oi : Oper} {v : Value} (hi : ops[i]? = some oi) (hsel : ∀ (j : Nat) (o : Oper) cs b, ops[j]? = some o → o.op ≠ .select cs b)
    (hQ : ∀ c a w, Q (.panic c) (a.put oi.dst v) w → Q (.panic c) a w) :
    ∀ (fuel : Nat) (listed : Array Bool) (a : Act) (w : World),
      (∀ j oj, ops[j]? = some oj → j ≠ i → listed.getD j true = false → (∀ e ∈ oj.after, Region.binds md e = true → e.on ≠ i) → oi.apart ops oj = true) →
      i ∈ Region.ready md ops listed → GYields P ops oi v a w →
      wpAnyG P md ops Q fuel (listed.setIfInBounds i true) (a.put oi.dst v) w → wpAnyG P md ops Q (fuel + 1) listed a w := by
  intro fuel
  induction fuel with
  | zero =>
    intro listed a w _ hr hy H w' g
    refine ⟨fun h => (by rw [h] at hr; cases hr), fun j hj => ?_⟩
    by_cases hji : j = i
    · subst hji; exact (hy.grow g).wpOp hi fun w'' k => ⟨k, wpAnyG_grow (g.trans k) H⟩
    · have := ready_mono hj hji
      rw [(H w (Grow.refl w)).1] at this
      cases this
  | succ fuel ih =>
    intro listed a w hfree hr hy H w' g
    refine ⟨fun h => (by rw [h] at hr; cases hr), fun j hj => ?_⟩
    by_cases hji : j = i
    · subst hji; exact (hy.grow g).wpOp hi fun w'' k => ⟨k, wpAnyG_grow (g.trans k) H⟩
    · have h1 := (H w' g).2 j (ready_mono hj hji)
      obtain ⟨hjun, oj, hoj, hall⟩ := mem_ready.1 hj
      have hnot : ∀ e ∈ oj.after, Region.binds md e = true → e.on ≠ i := fun e he hb heq => by
        have h1 := hall e he hb
        have h0 := (mem_ready.1 hr).1
        rw [heq] at h1
        rcases Nat.lt_or_ge i listed.size with h' | h'
        · simp [h'] at h0 h1; rw [h0] at h1; cases h1
        · simp [Array.getElem?_eq_none h'] at h1
      have h2 := wpOp_putG hoj (hfree j oj hoj hji hjun hnot) (fun cs b => hsel i oi cs b hi) (fun cs b => hsel j oj cs b hoj) hQ (hy.grow g) h1
      have hfree' : ∀ k ok, ops[k]? = some ok → k ≠ i → (listed.setIfInBounds j true).getD k true = false →
          (∀ e ∈ ok.after, Region.binds md e = true → e.on ≠ i) → oi.apart ops ok = true := fun k ok hk hki hun hno => by
        refine hfree k ok hk hki ?_ hno
        by_cases hjk : j = k
        · subst hjk; exact hjun
        · rw [getD_set_ne true hjk] at hun; exact hun
      refine wpOp_mono (fun a' w'' h3 => ⟨h3.2.1, ih (listed.setIfInBounds j true) a' w'' hfree' (ready_mono hr (Ne.symm hji)) (h3.1.grow h3.2.1) ?_⟩) h2
      rw [Array.setIfInBounds_comm _ _ hji]
      exact h3.2.2

/-! The moves of a walk. -/

/-- Those of a list's operations that a mask names. -/
def pickL : List Bool → List Oper → List Oper
  | true :: m, o :: l => o :: pickL m l
  | false :: m, _ :: l => pickL m l
  | _, _ => []
def maskListed : List Bool → Nat → Array Bool → Array Bool
  | true :: m, k, listed => maskListed m (k + 1) (listed.setIfInBounds k true)
  | false :: m, k, listed => maskListed m (k + 1) listed
  | [], _, listed => listed
def maskCount : List Bool → Nat
  | true :: m => maskCount m + 1
  | false :: m => maskCount m
  | [] => 0
/-- Each that the mask names may come up when its turn is there, and nobody who could come before it touches its temporaries; its slot is written once. -/
def maskOk (md : Region.Mode) (ops : Array Oper) (n : Nat) : List Bool → List Oper → Nat → Array Bool → Bool
  | true :: m, o :: l, k, listed => (Region.ready md ops listed).contains k && Region.free md ops listed k &&
      (match o.dst with | some d => decide (d < n) && (pickL m l).all (fun o' => o'.dst != some d) | none => false) && maskOk md ops n m l (k + 1) (listed.setIfInBounds k true)
  | false :: m, _ :: l, k, listed => maskOk md ops n m l (k + 1) listed
  | [], _, _, _ => true
  | _, [], _, _ => false

theorem put_size (a : Act) (x : Option Tmp) (v : Value) : (a.put x v).tmps.size = a.tmps.size := by
  cases x <;> simp [Act.put]
/-- A slot that no operation of the rest writes is at the end as it was. -/
theorem quiet_slot {C : World → Prop} {A : Act} {d : Nat} : ∀ (l : List Oper) (a : Act), (∀ o ∈ l, o.dst ≠ some d) → wpQuiet P ops C (fun a' => a' = A) l a → A.tmps[d]? = a.tmps[d]?
  | [], a, _, h => by
    have h1 : a = A := h
    rw [h1]
  | o :: l, a, hd, h => by
    have hp : ∀ v, (a.put o.dst v).tmps[d]? = a.tmps[d]? := fun v => by
      cases ho : o.dst with
      | none => rfl
      | some e =>
        have hne : e ≠ d := fun he => hd o (List.mem_cons_self ..) (by rw [ho, he])
        simp [Act.put, Array.getElem?_setIfInBounds_ne hne]
    unfold wpQuiet at h
    split at h
    · obtain ⟨v, _, h2⟩ := h
      rw [quiet_slot l _ (fun o' ho' => hd o' (List.mem_cons_of_mem _ ho')) h2, hp]
    · rw [quiet_slot l _ (fun o' ho' => hd o' (List.mem_cons_of_mem _ ho')) h, hp]

/-- Those that the mask names are taken first, in the order of the text, in ONE walk, in a world of which nothing is known but that it has grown from w. -/
theorem wpAnyG_mask {A : Act} {n : Nat} (hsel : Region.noSelect ops = true) (hQ : ∀ c a o v w, Q (.panic c) (a.put o v) w → Q (.panic c) a w) {w : World} {fuel : Nat} : ∀ (m : List Bool) (l : List Oper) (k : Nat) (listed : Array Bool) (a : Act),
    (∀ j, l[j]? = ops[k + j]?) → a.tmps.size = n → maskOk md ops n m l k listed = true →
    (∀ x : BelowT w, wpQuiet P ops (fun w' => ∃ y : BelowT x.val, w' = y.val) (fun a' => a' = A) (pickL m l) a) →
    wpAnyG P md ops Q fuel (maskListed m k listed) A w → wpAnyG P md ops Q (maskCount m + fuel) listed a w
  | [], l, k, listed, a, _, _, _, h, H => by
    have h1 : a = A := by have := h ⟨w, Below.refl _ _⟩; rw [pickL] at this; exact this; all_goals simp
    rw [h1]
    simpa [maskCount, maskListed] using H
  | false :: m, [], k, listed, a, _, _, hB, _, _ => by simp [maskOk] at hB
  | true :: m, [], k, listed, a, _, _, hB, _, _ => by simp [maskOk] at hB
  | false :: m, o :: l, k, listed, a, hl, hn, hB, h, H => by
    simp only [maskCount, maskListed, maskOk, pickL] at *
    exact wpAnyG_mask hsel hQ m l (k + 1) listed a (fun j => by have := hl (j + 1); simpa [Nat.add_assoc, Nat.add_comm 1 j] using this) hn hB h H
  | true :: m, o :: l, k, listed, a, hl, hn, hB, h, H => by
    have h0 : ops[k]? = some o := by simpa using (hl 0).symm
    simp only [maskCount, maskListed, maskOk, pickL, Bool.and_eq_true] at *
    obtain ⟨⟨⟨hr, hf⟩, hd⟩, hB'⟩ := hB
    cases ho : o.dst with
    | none => rw [ho] at hd; cases hd
    | some d =>
      rw [ho] at hd
      simp only [Bool.and_eq_true, decide_eq_true_eq, List.all_eq_true, bne_iff_ne] at hd
      have hslot : ∀ v, (a.put (some d) v).tmps[d]? = some v := fun v => by simp [Act.put, hn, hd.1]
      by_cases hw : Region.wanted o (yielded ops a.tmps) = true
      · have h' : ∀ x : BelowT w, (∀ w', (∃ y : BelowT x.val, w' = y.val) → o.quietAt P a (fun w' => ∃ y : BelowT x.val, w' = y.val) w' ((A.tmps[d]?).getD undef)) ∧
            wpQuiet P ops (fun w' => ∃ y : BelowT x.val, w' = y.val) (fun a' => a' = A) (pickL m l) (a.put (some d) ((A.tmps[d]?).getD undef)) := fun x => by
          have h1 := h x
          unfold wpQuiet at h1
          rw [if_pos hw] at h1
          obtain ⟨v, h2, h3⟩ := h1
          rw [ho] at h3
          have h4 := quiet_slot (d := d) (pickL m l) _ hd.2 h3
          rw [hslot] at h4
          rw [h4]
          exact ⟨h2, h3⟩
        have hy : GYields P ops o ((A.tmps[d]?).getD undef) a w := .inl ⟨hw, fun w' g => by
          have h1 := (h' ⟨w', g⟩).1 w' ⟨⟨w', Below.refl _ _⟩, rfl⟩
          unfold Oper.quietAt at h1
          unfold growAt
          generalize (execOp a.eval o).run P w' = r at *
          cases r with
          | ok nx w2 =>
            cases nx <;> simp only [Oper.quietUpon] at h1 <;> simp only [growUpon]
            case value u => exact h1
            case skip => exact h1
            case enter f args => exact ⟨h1.1, h1.2.mono fun e w3 ⟨he, y, hy⟩ => ⟨he, by rw [hy]; exact y.below⟩⟩
          | halt x w2 => simp only [Oper.quietUpon] at h1⟩
        rw [show maskCount m + 1 + fuel = (maskCount m + fuel) + 1 by omega]
        refine wpAnyG_first h0 (Region.noSelect_spec hsel) (fun c a w => hQ c a _ _ w) _ listed a w (Region.free_spec h0 hf) (by simpa using hr) hy ?_
        rw [ho]
        exact wpAnyG_mask hsel hQ m l (k + 1) _ _ (fun j => by have := hl (j + 1); simpa [Nat.add_assoc, Nat.add_comm 1 j] using this) (by rw [put_size]; exact hn) hB' (fun x => (h' x).2) H
      · have hwf : Region.wanted o (yielded ops a.tmps) = false := by simpa using hw
        rw [show maskCount m + 1 + fuel = (maskCount m + fuel) + 1 by omega]
        refine wpAnyG_first h0 (Region.noSelect_spec hsel) (fun c a w => hQ c a _ _ w) _ listed a w (Region.free_spec h0 hf) (by simpa using hr) (.inr ⟨hwf, rfl⟩) ?_
        refine wpAnyG_mask hsel hQ m l (k + 1) _ _ (fun j => by have := hl (j + 1); simpa [Nat.add_assoc, Nat.add_comm 1 j] using this) (by rw [put_size]; exact hn) hB' (fun x => ?_) H
        have h1 := h x
        unfold wpQuiet at h1
        rw [if_neg hw] at h1
        exact h1

/-- The mask's operations are taken first; the region is written out. -/
theorem wpAnyG_take {F fuel n : Nat} {l : List Oper} {listed : Array Bool} {a : Act} {w : World} (m : List Bool) (hF : maskCount m + fuel = F) (hsel : Region.noSelect l.toArray = true)
    (hn : a.tmps.size = n) (hB : maskOk md l.toArray n m l 0 listed = true)
    (h : ∃ A, (∀ x : BelowT w, wpQuiet P l.toArray (fun w' => ∃ y : BelowT x.val, w' = y.val) (fun a' => a' = A) (pickL m l) a) ∧ wpAnyG P md l.toArray (NoPanic Q) fuel (maskListed m 0 listed) A w) : wpAnyG P md l.toArray (NoPanic Q) F listed a w := by
  obtain ⟨A, h1, h2⟩ := h
  rw [← hF]
  exact wpAnyG_mask hsel (fun _ _ _ _ _ h => h) m l 0 listed a (fun j => by simp) hn hB h1 h2
/-- One operation alone may come up: what it does, in a world that has grown from w. -/
theorem wpAnyG_one {m fuel : Nat} {listed : Array Bool} {a : Act} {w : World} (hr : Region.ready md ops listed = [m])
    (h : ∀ w', Grow w w' → wpOp P ops Q m (fun a' w'' => Grow w' w'' ∧ wpAnyG P md ops Q fuel (listed.setIfInBounds m true) a' w'') a w') : wpAnyG P md ops Q (fuel + 1) listed a w :=
  fun w' g => ⟨fun h0 => (by rw [hr] at h0; cases h0), fun i hi => by
    rw [hr] at hi
    have : i = m := by simpa using hi
    subst this
    exact h w' g⟩
theorem wpOp_at {m : Nat} {o : Oper} {K : Act → World → Prop} {a : Act} {w : World} (hm : ops[m]? = some o) (hw : Region.wanted o (yielded ops a.tmps) = true) (h : o.wp P a w K Q) : wpOp P ops Q m K a w := by
  unfold Go.wpOp
  simp only [hm]
  rw [if_pos hw]
  exact .inl h
/-- All have come up. -/
theorem wpAnyG_done {listed : Array Bool} {a : Act} {w : World} (hr : Region.ready md ops listed = []) (h : ∀ x : BelowT w, Q .normal a x.val) : ∀ fuel, wpAnyG P md ops (NoPanic Q) fuel listed a w
  | 0 => fun w' g => ⟨hr, h ⟨w', g⟩⟩
  | _ + 1 => fun w' g => ⟨fun _ => h ⟨w', g⟩, by rw [hr]; simp⟩
/-- The beginning. -/
theorem wp_region_grow {id : Nat} {a : Act} {w : World} (hm : P.follows .mixedOrders = true)
    (h : wpAnyG P .any ops (NoPanic Q) ops.size (Array.replicate ops.size false) a w) : (Code.region id ops true).wp P Q a w :=
  wp_region_noPanic (wp_region_any hm (wpAny_of_G _ _ _ _ (wpAnyG_grow (show Grow w w.drew from (Below.refl _ _).drew) h)))
end
end Go.Proofs.YtbfjbabpeigloabDoor
end

section
namespace Go.Proofs.YtbfjbabpeigloabDoor
open Go.RowKit

structure OneT (W : World) where
  val : World
  same : val = W
instance (W : World) : Nonempty (OneT W) := ⟨⟨W, rfl⟩⟩
section
variable {P : Program} {ops : Array Oper} {Q : Exit → Act → World → Prop} {md : Region.Mode}

/-- In state a, in every world, operation o leaves v and the world as it is. -/
def PYields (P : Program) (ops : Array Oper) (o : Oper) (v : Value) (a : Act) : Prop :=
  (Region.wanted o (yielded ops a.tmps) = true ∧ ∀ w', o.quietAt P a (fun u => ∃ y : OneT w', u = y.val) w' v) ∨ (Region.wanted o (yielded ops a.tmps) = false ∧ v = undef)
theorem PYields.of_same {o : Oper} {v : Value} {a a' : Act} (hy : PYields P ops o v a) (he : execOp a'.eval o = execOp a.eval o)
    (hw : Region.wanted o (yielded ops a'.tmps) = Region.wanted o (yielded ops a.tmps)) : PYields P ops o v a' := by
  unfold PYields Oper.quietAt at *
  rw [he, hw]
  exact hy
theorem PYields.wpOp {i : Nat} {o : Oper} {v : Value} {a : Act} {w : World} (hi : ops[i]? = some o) (hy : PYields P ops o v a)
    {K : Act → World → Prop} (h : K (a.put o.dst v) w) : wpOp P ops Q i K a w := by
  unfold Go.wpOp
  simp only [hi]
  rcases hy with ⟨hw, hv⟩ | ⟨hw, rfl⟩
  · rw [if_pos hw]
    refine .inl ?_
    have h1 := hv w
    unfold Oper.quietAt at h1
    unfold Oper.wp
    generalize (execOp a.eval o).run P w = r at *
    cases r with
    | ok n w' =>
      cases n <;> simp only [Oper.quietUpon] at h1 <;> simp only [Oper.upon]
      case value u =>
        obtain ⟨e1, e2⟩ := h1
        rw [e1, e2]
        exact h
      case skip =>
        obtain ⟨e1, e2⟩ := h1
        rw [e1, ← e2]
        exact h
      case enter f args =>
        obtain ⟨e1, hc⟩ := h1
        rw [e1]
        exact hc.mono fun e w'' ⟨he, y, hy⟩ => by subst he; rw [hy, y.same]; exact h
    | halt x w' => simp only [Oper.quietUpon] at h1
  · rw [if_neg (by rw [hw]; exact Bool.false_ne_true)]; exact h
theorem wpOp_putP {j : Nat} {oi oj : Oper} {v : Value} (hj : ops[j]? = some oj) (hap : oi.apart ops oj = true)
    (hsi : ∀ cs b, oi.op ≠ .select cs b) (hsj : ∀ cs b, oj.op ≠ .select cs b)
    (hQ : ∀ c a w, Q (.panic c) (a.put oi.dst v) w → Q (.panic c) a w) {K : Act → World → Prop} {a : Act} {w : World}
    (hy : PYields P ops oi v a) (h : wpOp P ops Q j K (a.put oi.dst v) w) :
    wpOp P ops Q j (fun a' w' => PYields P ops oi v a' ∧ K (a'.put oi.dst v) w') a w := by
  obtain ⟨h1, h2, h3⟩ := Oper.apart_spec hap
  have keep : ∀ (a : Act), PYields P ops oi v a → ∀ x, PYields P ops oi v (a.put oj.dst x) := fun a hy x =>
    hy.of_same (execOp_put oi hsi a oj.dst x h3) (wanted_put oi a oj.dst x h3)
  have keepD : ∀ d, PYields P ops oi v { a with defers := d :: a.defers } := fun d => hy.of_same rfl rfl
  unfold Go.wpOp at *
  simp only [hj] at *
  rw [wanted_put oj a oi.dst v h1] at h
  split
  · rename_i hw
    simp only [hw, if_true] at h
    rcases h with h | ⟨hasks, hlets⟩
    case inr => exact .inr ⟨by unfold Oper.asks at *; rw [execOp_put oj hsj a oi.dst v h1] at hasks; exact hasks, hlets⟩
    refine .inl ?_
    unfold Oper.wp at *
    rw [execOp_put oj hsj a oi.dst v h1] at h
    generalize (execOp a.eval oj).run P w = r at *
    cases r with
    | ok n w' =>
      cases n <;> simp only [Oper.upon] at h ⊢
      case value x => exact ⟨keep a hy x, by rw [← Act.put_comm a v x h2]; exact h⟩
      case skip => exact ⟨keep a hy _, by rw [← Act.put_comm a v undef h2]; exact h⟩
      case defer d =>
        refine ⟨keep _ (keepD d) _, ?_⟩
        rw [← Act.put_comm _ v undef h2, ← Act.put_defers]
        exact h
      case enter f args =>
        refine Calls.mono h fun e w'' he => ?_
        cases e with
        | returned x => exact ⟨keep a hy x, by rw [← Act.put_comm a v x h2]; exact he⟩
        | panicked c => exact hQ _ _ _ he
        | outgrown => exact he
      case row row args => exact Rows.mono h fun x w'' he => ⟨keep a hy x, by rw [← Act.put_comm a v x h2]; exact he⟩
    | halt x w' =>
      cases x <;> simp only [Oper.upon] at h ⊢
      case panic x => exact hQ _ _ _ h
  · rename_i hw
    simp only [hw] at h
    exact ⟨keep a hy _, by rw [← Act.put_comm a v undef h2]; exact h⟩
theorem wpAny_firstP {i : Nat} {oi : Oper} {v : Value} (hi : ops[i]? = some oi) (hsel : ∀ (j : Nat) (o : Oper) cs b, ops[j]? = some o → o.op ≠ .select cs b)
    (hQ : ∀ c a w, Q (.panic c) (a.put oi.dst v) w → Q (.panic c) a w) :
    ∀ (fuel : Nat) (listed : Array Bool) (a : Act) (w : World),
      (∀ j oj, ops[j]? = some oj → j ≠ i → listed.getD j true = false → (∀ e ∈ oj.after, Region.binds md e = true → e.on ≠ i) → oi.apart ops oj = true) →
      i ∈ Region.ready md ops listed → PYields P ops oi v a →
      wpAny P md ops Q fuel (listed.setIfInBounds i true) (a.put oi.dst v) w → wpAny P md ops Q (fuel + 1) listed a w := by
  intro fuel
  induction fuel with
  | zero =>
    intro listed a w _ hr hy H
    refine ⟨fun h => (by rw [h] at hr; cases hr), fun j hj => ?_⟩
    by_cases hji : j = i
    · subst hji; exact hy.wpOp hi H
    · have := ready_mono hj hji
      rw [H.1] at this
      cases this
  | succ fuel ih =>
    intro listed a w hfree hr hy H
    refine ⟨fun h => (by rw [h] at hr; cases hr), fun j hj => ?_⟩
    by_cases hji : j = i
    · subst hji; exact hy.wpOp hi H
    · have h1 := H.2 j (ready_mono hj hji)
      obtain ⟨hjun, oj, hoj, hall⟩ := mem_ready.1 hj
      have hnot : ∀ e ∈ oj.after, Region.binds md e = true → e.on ≠ i := fun e he hb heq => by
        have h1 := hall e he hb
        have h0 := (mem_ready.1 hr).1
        rw [heq] at h1
        rcases Nat.lt_or_ge i listed.size with h' | h'
        · simp [h'] at h0 h1; rw [h0] at h1; cases h1
        · simp [Array.getElem?_eq_none h'] at h1
      have h2 := wpOp_putP hoj (hfree j oj hoj hji hjun hnot) (fun cs b => hsel i oi cs b hi) (fun cs b => hsel j oj cs b hoj) hQ hy h1
      have hfree' : ∀ k ok, ops[k]? = some ok → k ≠ i → (listed.setIfInBounds j true).getD k true = false →
          (∀ e ∈ ok.after, Region.binds md e = true → e.on ≠ i) → oi.apart ops ok = true := fun k ok hk hki hun hno => by
        refine hfree k ok hk hki ?_ hno
        by_cases hjk : j = k
        · subst hjk; exact hjun
        · rw [getD_set_ne true hjk] at hun; exact hun
      refine wpOp_mono (fun a' w'' h3 => ih (listed.setIfInBounds j true) a' w'' hfree' (ready_mono hr (Ne.symm hji)) h3.1 ?_) h2
      rw [Array.setIfInBounds_comm _ _ hji]
      exact h3.2
theorem wpAny_maskP {A : Act} {n : Nat} (hsel : Region.noSelect ops = true) (hQ : ∀ c a o v w, Q (.panic c) (a.put o v) w → Q (.panic c) a w) {w : World} {fuel : Nat} : ∀ (m : List Bool) (l : List Oper) (k : Nat) (listed : Array Bool) (a : Act),
    (∀ j, l[j]? = ops[k + j]?) → a.tmps.size = n → maskOk md ops n m l k listed = true →
    (∀ W : World, wpQuiet P ops (fun w' => ∃ y : OneT W, w' = y.val) (fun a' => a' = A) (pickL m l) a) →
    wpAny P md ops Q fuel (maskListed m k listed) A w → wpAny P md ops Q (maskCount m + fuel) listed a w
  | [], l, k, listed, a, _, _, _, h, H => by
    have h1 : a = A := by have := h w; rw [pickL] at this; exact this; all_goals simp
    rw [h1]
    simpa [maskCount, maskListed] using H
  | false :: m, [], k, listed, a, _, _, hB, _, _ => by simp [maskOk] at hB
  | true :: m, [], k, listed, a, _, _, hB, _, _ => by simp [maskOk] at hB
  | false :: m, o :: l, k, listed, a, hl, hn, hB, h, H => by
    simp only [maskCount, maskListed, maskOk, pickL] at *
    exact wpAny_maskP hsel hQ m l (k + 1) listed a (fun j => by have := hl (j + 1); simpa [Nat.add_assoc, Nat.add_comm 1 j] using this) hn hB h H
  | true :: m, o :: l, k, listed, a, hl, hn, hB, h, H => by
    have h0 : ops[k]? = some o := by simpa using (hl 0).symm
    simp only [maskCount, maskListed, maskOk, pickL, Bool.and_eq_true] at *
    obtain ⟨⟨⟨hr, hf⟩, hd⟩, hB'⟩ := hB
    cases ho : o.dst with
    | none => rw [ho] at hd; cases hd
    | some d =>
      rw [ho] at hd
      simp only [Bool.and_eq_true, decide_eq_true_eq, List.all_eq_true, bne_iff_ne] at hd
      have hslot : ∀ v, (a.put (some d) v).tmps[d]? = some v := fun v => by simp [Act.put, hn, hd.1]
      by_cases hw : Region.wanted o (yielded ops a.tmps) = true
      · have h' : ∀ W : World, (∀ w', (∃ y : OneT W, w' = y.val) → o.quietAt P a (fun w' => ∃ y : OneT W, w' = y.val) w' ((A.tmps[d]?).getD undef)) ∧
            wpQuiet P ops (fun w' => ∃ y : OneT W, w' = y.val) (fun a' => a' = A) (pickL m l) (a.put (some d) ((A.tmps[d]?).getD undef)) := fun W => by
          have h1 := h W
          unfold wpQuiet at h1
          rw [if_pos hw] at h1
          obtain ⟨v, h2, h3⟩ := h1
          rw [ho] at h3
          have h4 := quiet_slot (d := d) (pickL m l) _ hd.2 h3
          rw [hslot] at h4
          rw [h4]
          exact ⟨h2, h3⟩
        have hy : PYields P ops o ((A.tmps[d]?).getD undef) a := .inl ⟨hw, fun w' => (h' w').1 w' ⟨⟨w', rfl⟩, rfl⟩⟩
        rw [show maskCount m + 1 + fuel = (maskCount m + fuel) + 1 by omega]
        refine wpAny_firstP h0 (Region.noSelect_spec hsel) (fun c a w => hQ c a _ _ w) _ listed a w (Region.free_spec h0 hf) (by simpa using hr) hy ?_
        rw [ho]
        exact wpAny_maskP hsel hQ m l (k + 1) _ _ (fun j => by have := hl (j + 1); simpa [Nat.add_assoc, Nat.add_comm 1 j] using this) (by rw [put_size]; exact hn) hB' (fun x => (h' x).2) H
      · have hwf : Region.wanted o (yielded ops a.tmps) = false := by simpa using hw
        rw [show maskCount m + 1 + fuel = (maskCount m + fuel) + 1 by omega]
        refine wpAny_firstP h0 (Region.noSelect_spec hsel) (fun c a w => hQ c a _ _ w) _ listed a w (Region.free_spec h0 hf) (by simpa using hr) (.inr ⟨hwf, rfl⟩) ?_
        refine wpAny_maskP hsel hQ m l (k + 1) _ _ (fun j => by have := hl (j + 1); simpa [Nat.add_assoc, Nat.add_comm 1 j] using this) (by rw [put_size]; exact hn) hB' (fun x => ?_) H
        have h1 := h x
        unfold wpQuiet at h1
        rw [if_neg hw] at h1
        exact h1
/-- What asks nothing of the world is taken first. -/
theorem wpAny_take {F fuel n : Nat} {l : List Oper} {listed : Array Bool} {a : Act} {w : World} (m : List Bool) (hF : maskCount m + fuel = F) (hsel : Region.noSelect l.toArray = true)
    (hn : a.tmps.size = n) (hB : maskOk md l.toArray n m l 0 listed = true)
    (h : ∃ A, (∀ W : World, wpQuiet P l.toArray (fun w' => ∃ y : OneT W, w' = y.val) (fun a' => a' = A) (pickL m l) a) ∧ wpAny P md l.toArray (NoPanic Q) fuel (maskListed m 0 listed) A w) : wpAny P md l.toArray (NoPanic Q) F listed a w := by
  obtain ⟨A, h1, h2⟩ := h
  rw [← hF]
  exact wpAny_maskP hsel (fun _ _ _ _ _ h => h) m l 0 listed a (fun j => by simp) hn hB h1 h2

/-! The tail. -/
/-- What is listed has all it waits for listed. -/
def Fit (md : Region.Mode) (ops : Array Oper) (L : Array Bool) : Prop := ∀ k o, ops[k]? = some o → L.getD k false = true → ∀ e ∈ o.after, Region.binds md e = true → L.getD e.on false = true
def fitB (md : Region.Mode) (ops : Array Oper) (L : Array Bool) : Bool := (List.range ops.size).all fun k => !L.getD k false || (match ops[k]? with | some o => o.after.all fun e => !Region.binds md e || L.getD e.on false | none => true)
theorem fit_of {L : Array Bool} (h : fitB md ops L = true) : Fit md ops L := by
  intro k o hk hl e he hb
  unfold fitB at h
  have := List.all_eq_true.1 h k (List.mem_range.2 (Array.getElem?_eq_some_iff.1 hk).1)
  rw [hk, hl] at this
  simp only [Bool.not_true, Bool.false_or] at this
  have := Array.all_eq_true_iff_forall_mem.1 this e he
  rw [hb] at this
  simpa using this
theorem getD_set_self' {L : Array Bool} {i : Nat} {d : Bool} (h : i < L.size) : (L.setIfInBounds i true).getD i d = true := by
  simp [Array.getD_eq_getD_getElem?, h]
theorem getD_set_up {L : Array Bool} {i k : Nat} (h : L.getD k false = true) : (L.setIfInBounds i true).getD k false = true := by
  by_cases e : i = k
  · subst e
    have : i < L.size := by
      rcases Nat.lt_or_ge i L.size with h' | h'
      · exact h'
      · rw [Array.getD_eq_getD_getElem?, Array.getElem?_eq_none h'] at h; cases h
    exact getD_set_self' this
  · rw [getD_set_ne false e]; exact h
theorem Fit.set {L : Array Bool} {j : Nat} (h : Fit md ops L) (hj : j ∈ Region.ready md ops L) : Fit md ops (L.setIfInBounds j true) := by
  obtain ⟨_, oj, hoj, hall⟩ := mem_ready.1 hj
  intro k o hk hl e he hb
  by_cases e1 : j = k
  · subst e1
    rw [hk] at hoj; injection hoj with hoj; subst hoj
    exact getD_set_up (hall e he hb)
  · rw [getD_set_ne false e1] at hl
    exact getD_set_up (h k o hk hl e he hb)
/-- Operation t waits for operation i, near or far. -/
def reachB (md : Region.Mode) (ops : Array Oper) : Nat → Nat → Nat → Bool
  | 0, _, _ => false
  | f + 1, t, i => match ops[t]? with
    | some o => o.after.any fun e => Region.binds md e && (e.on == i || reachB md ops f e.on i)
    | none => false
theorem reach_listed {L : Array Bool} (hf : Fit md ops L) : ∀ (f t i : Nat) (o : Oper), ops[t]? = some o → (∀ e ∈ o.after, Region.binds md e = true → L.getD e.on false = true) → reachB md ops f t i = true → L.getD i false = true
  | 0, _, _, _, _, _, h => by simp [reachB] at h
  | f + 1, t, i, o, ho, hall, h => by
    simp only [reachB, ho] at h
    rw [← Array.any_toList, List.any_eq_true] at h
    obtain ⟨e, he, h⟩ := h
    have he : e ∈ o.after := by simpa using he
    rw [Bool.and_eq_true, Bool.or_eq_true] at h
    obtain ⟨hb, h⟩ := h
    have hl := hall e he hb
    rcases h with h | h
    · rw [beq_iff_eq] at h; rw [← h]; exact hl
    · cases ho2 : ops[e.on]? with
      | none => cases f <;> simp [reachB, ho2] at h
      | some o2 => exact reach_listed hf f e.on i o2 ho2 (fun e2 he2 hb2 => hf e.on o2 ho2 hl e2 he2 hb2) h
/-- Whatever order is picked, till all but the tail T is listed. -/
def wpAnyZ (P : Program) (md : Region.Mode) (ops : Array Oper) (Q : Exit → Act → World → Prop) (T : List Nat) (tf : Nat) : Nat → Array Bool → Act → World → Prop
  | 0, listed, a, w => (∀ k, k < ops.size → k ∉ T → listed.getD k false = true) ∧ ∀ w', Grow w w' → wpAny P md ops Q tf listed a w'
  | fuel + 1, listed, a, w => ∀ w', Grow w w' → (Region.ready md ops listed = [] → Q .normal a w') ∧
    ∀ i ∈ Region.ready md ops listed, wpOp P ops Q i (fun a' w'' => Grow w' w'' ∧ wpAnyZ P md ops Q T tf fuel (listed.setIfInBounds i true) a' w'') a w'
theorem wpAny_of_Z {T : List Nat} {tf : Nat} : ∀ (fuel : Nat) (listed : Array Bool) (a : Act) (w : World), wpAnyZ P md ops Q T tf fuel listed a w → wpAny P md ops Q (fuel + tf) listed a w
  | 0, _, _, w, h => by rw [Nat.zero_add]; exact h.2 w (Grow.refl w)
  | fuel + 1, _, _, w, h => by
    rw [show fuel + 1 + tf = (fuel + tf) + 1 by omega]
    exact ⟨(h w (Grow.refl w)).1, fun i hi => wpOp_mono (fun a' w' h' => wpAny_of_Z fuel _ a' w' h'.2) ((h w (Grow.refl w)).2 i hi)⟩
theorem wpAnyZ_grow {T : List Nat} {tf fuel : Nat} {listed : Array Bool} {a : Act} {w u : World} (g : Grow w u) (h : wpAnyZ P md ops Q T tf fuel listed a w) : wpAnyZ P md ops Q T tf fuel listed a u := by
  cases fuel with
  | zero => exact ⟨h.1, fun w' k => h.2 w' (g.trans k)⟩
  | succ fuel => exact fun w' k => h w' (g.trans k)
theorem wpAnyZ_first {T : List Nat} {tf i : Nat} {oi : Oper} {v : Value} (hi : ops[i]? = some oi) (hsel : ∀ (j : Nat) (o : Oper) cs b, ops[j]? = some o → o.op ≠ .select cs b)
    (hQ : ∀ c a w, Q (.panic c) (a.put oi.dst v) w → Q (.panic c) a w) (hT : ∀ t ∈ T, reachB md ops ops.size t i = true) :
    ∀ (fuel : Nat) (listed : Array Bool) (a : Act) (w : World), Fit md ops listed →
      (∀ j oj, ops[j]? = some oj → j ≠ i → listed.getD j true = false → (∀ e ∈ oj.after, Region.binds md e = true → e.on ≠ i) → oi.apart ops oj = true) →
      i ∈ Region.ready md ops listed → GYields P ops oi v a w →
      wpAnyZ P md ops Q T tf fuel (listed.setIfInBounds i true) (a.put oi.dst v) w → wpAnyZ P md ops Q T tf (fuel + 1) listed a w := by
  have hun : ∀ {L : Array Bool} {k : Nat}, L.getD k true = false → L.getD k false = true → False := fun {L k} h0 h1 => by
    rcases Nat.lt_or_ge k L.size with h' | h'
    · simp [h'] at h0 h1; rw [h0] at h1; cases h1
    · simp [Array.getElem?_eq_none h'] at h1
  intro fuel
  induction fuel with
  | zero =>
    intro listed a w hfit _ hr hy H w' g
    refine ⟨fun h => (by rw [h] at hr; cases hr), fun j hj => ?_⟩
    by_cases hji : j = i
    · subst hji; exact (hy.grow g).wpOp hi fun w'' k => ⟨k, wpAnyZ_grow (g.trans k) H⟩
    · exfalso
      obtain ⟨hjun, oj, hoj, hall⟩ := mem_ready.1 hj
      have hjT : j ∈ T := by
        refine Classical.byContradiction fun hn => ?_
        have := H.1 j (Array.getElem?_eq_some_iff.1 hoj).1 hn
        rw [getD_set_ne false (Ne.symm hji)] at this
        exact hun hjun this
      exact hun (mem_ready.1 hr).1 (reach_listed hfit _ j i oj hoj hall (hT j hjT))
  | succ fuel ih =>
    intro listed a w hfit hfree hr hy H w' g
    refine ⟨fun h => (by rw [h] at hr; cases hr), fun j hj => ?_⟩
    by_cases hji : j = i
    · subst hji; exact (hy.grow g).wpOp hi fun w'' k => ⟨k, wpAnyZ_grow (g.trans k) H⟩
    · have h1 := (H w' g).2 j (ready_mono hj hji)
      obtain ⟨hjun, oj, hoj, hall⟩ := mem_ready.1 hj
      have hnot : ∀ e ∈ oj.after, Region.binds md e = true → e.on ≠ i := fun e he hb heq => by
        have h1 := hall e he hb
        rw [heq] at h1
        exact hun (mem_ready.1 hr).1 h1
      have h2 := wpOp_putG hoj (hfree j oj hoj hji hjun hnot) (fun cs b => hsel i oi cs b hi) (fun cs b => hsel j oj cs b hoj) hQ (hy.grow g) h1
      have hfree' : ∀ k ok, ops[k]? = some ok → k ≠ i → (listed.setIfInBounds j true).getD k true = false →
          (∀ e ∈ ok.after, Region.binds md e = true → e.on ≠ i) → oi.apart ops ok = true := fun k ok hk hki hun hno => by
        refine hfree k ok hk hki ?_ hno
        by_cases hjk : j = k
        · subst hjk; exact hjun
        · rw [getD_set_ne true hjk] at hun; exact hun
      refine wpOp_mono (fun a' w'' h3 => ⟨h3.2.1, ih (listed.setIfInBounds j true) a' w'' (hfit.set hj) hfree' (ready_mono hr (Ne.symm hji)) (h3.1.grow h3.2.1) ?_⟩) h2
      rw [Array.setIfInBounds_comm _ _ hji]
      exact h3.2.2
/-- Each that the mask names is waited for by all of the tail. -/
def maskReach (md : Region.Mode) (ops : Array Oper) (T : List Nat) : List Bool → Nat → Bool
  | true :: m, k => T.all (fun t => reachB md ops ops.size t k) && maskReach md ops T m (k + 1)
  | false :: m, k => maskReach md ops T m (k + 1)
  | [], _ => true
theorem wpAnyZ_mask {T : List Nat} {tf : Nat} {A : Act} {n : Nat} (hsel : Region.noSelect ops = true) (hQ : ∀ c a o v w, Q (.panic c) (a.put o v) w → Q (.panic c) a w) {w : World} {fuel : Nat} : ∀ (m : List Bool) (l : List Oper) (k : Nat) (listed : Array Bool) (a : Act),
    (∀ j, l[j]? = ops[k + j]?) → a.tmps.size = n → Fit md ops listed → maskOk md ops n m l k listed = true → maskReach md ops T m k = true →
    (∀ x : BelowT w, wpQuiet P ops (fun w' => ∃ y : BelowT x.val, w' = y.val) (fun a' => a' = A) (pickL m l) a) →
    wpAnyZ P md ops Q T tf fuel (maskListed m k listed) A w → wpAnyZ P md ops Q T tf (maskCount m + fuel) listed a w
  | [], l, k, listed, a, _, _, _, _, _, h, H => by
    have h1 : a = A := by have := h ⟨w, Below.refl _ _⟩; rw [pickL] at this; exact this; all_goals simp
    rw [h1]
    simpa [maskCount, maskListed] using H
  | false :: m, [], k, listed, a, _, _, _, hB, _, _, _ => by simp [maskOk] at hB
  | true :: m, [], k, listed, a, _, _, _, hB, _, _, _ => by simp [maskOk] at hB
  | false :: m, o :: l, k, listed, a, hl, hn, hfit, hB, hR, h, H => by
    simp only [maskCount, maskListed, maskOk, maskReach, pickL] at *
    exact wpAnyZ_mask hsel hQ m l (k + 1) listed a (fun j => by have := hl (j + 1); simpa [Nat.add_assoc, Nat.add_comm 1 j] using this) hn hfit hB hR h H
  | true :: m, o :: l, k, listed, a, hl, hn, hfit, hB, hR, h, H => by
    have h0 : ops[k]? = some o := by simpa using (hl 0).symm
    simp only [maskCount, maskListed, maskOk, maskReach, pickL, Bool.and_eq_true] at *
    obtain ⟨⟨⟨hr, hf⟩, hd⟩, hB'⟩ := hB
    obtain ⟨hR0, hR'⟩ := hR
    have hT : ∀ t ∈ T, reachB md ops ops.size t k = true := fun t ht => List.all_eq_true.1 hR0 t ht
    have hrk : k ∈ Region.ready md ops listed := by simpa using hr
    cases ho : o.dst with
    | none => rw [ho] at hd; cases hd
    | some d =>
      rw [ho] at hd
      simp only [Bool.and_eq_true, decide_eq_true_eq, List.all_eq_true, bne_iff_ne] at hd
      have hslot : ∀ v, (a.put (some d) v).tmps[d]? = some v := fun v => by simp [Act.put, hn, hd.1]
      by_cases hw : Region.wanted o (yielded ops a.tmps) = true
      · have h' : ∀ x : BelowT w, (∀ w', (∃ y : BelowT x.val, w' = y.val) → o.quietAt P a (fun w' => ∃ y : BelowT x.val, w' = y.val) w' ((A.tmps[d]?).getD undef)) ∧
            wpQuiet P ops (fun w' => ∃ y : BelowT x.val, w' = y.val) (fun a' => a' = A) (pickL m l) (a.put (some d) ((A.tmps[d]?).getD undef)) := fun x => by
          have h1 := h x
          unfold wpQuiet at h1
          rw [if_pos hw] at h1
          obtain ⟨v, h2, h3⟩ := h1
          rw [ho] at h3
          have h4 := quiet_slot (d := d) (pickL m l) _ hd.2 h3
          rw [hslot] at h4
          rw [h4]
          exact ⟨h2, h3⟩
        have hy : GYields P ops o ((A.tmps[d]?).getD undef) a w := .inl ⟨hw, fun w' g => by
          have h1 := (h' ⟨w', g⟩).1 w' ⟨⟨w', Below.refl _ _⟩, rfl⟩
          unfold Oper.quietAt at h1
          unfold growAt
          generalize (execOp a.eval o).run P w' = r at *
          cases r with
          | ok nx w2 =>
            cases nx <;> simp only [Oper.quietUpon] at h1 <;> simp only [growUpon]
            case value u => exact h1
            case skip => exact h1
            case enter f args => exact ⟨h1.1, h1.2.mono fun e w3 ⟨he, y, hy⟩ => ⟨he, by rw [hy]; exact y.below⟩⟩
          | halt x w2 => simp only [Oper.quietUpon] at h1⟩
        rw [show maskCount m + 1 + fuel = (maskCount m + fuel) + 1 by omega]
        refine wpAnyZ_first h0 (Region.noSelect_spec hsel) (fun c a w => hQ c a _ _ w) hT _ listed a w hfit (Region.free_spec h0 hf) hrk hy ?_
        rw [ho]
        exact wpAnyZ_mask hsel hQ m l (k + 1) _ _ (fun j => by have := hl (j + 1); simpa [Nat.add_assoc, Nat.add_comm 1 j] using this) (by rw [put_size]; exact hn) (hfit.set hrk) hB' hR' (fun x => (h' x).2) H
      · have hwf : Region.wanted o (yielded ops a.tmps) = false := by simpa using hw
        rw [show maskCount m + 1 + fuel = (maskCount m + fuel) + 1 by omega]
        refine wpAnyZ_first h0 (Region.noSelect_spec hsel) (fun c a w => hQ c a _ _ w) hT _ listed a w hfit (Region.free_spec h0 hf) hrk (.inr ⟨hwf, rfl⟩) ?_
        refine wpAnyZ_mask hsel hQ m l (k + 1) _ _ (fun j => by have := hl (j + 1); simpa [Nat.add_assoc, Nat.add_comm 1 j] using this) (by rw [put_size]; exact hn) (hfit.set hrk) hB' hR' (fun x => ?_) H
        have h1 := h x
        unfold wpQuiet at h1
        rw [if_neg hw] at h1
        exact h1
/-- The tail stands by itself: all else that is not listed is taken by masks and one by one. -/
theorem wpAny_tail {F fuel tf : Nat} (T : List Nat) {listed : Array Bool} {a : Act} {w : World} (hF : fuel + tf = F) (h : wpAnyZ P md ops Q T tf fuel listed a w) : wpAny P md ops Q F listed a w := by
  rw [← hF]; exact wpAny_of_Z _ _ _ _ h
theorem wpAnyZ_take {T : List Nat} {tf F fuel n : Nat} {l : List Oper} {listed : Array Bool} {a : Act} {w : World} (m : List Bool) (hF : maskCount m + fuel = F) (hsel : Region.noSelect l.toArray = true)
    (hn : a.tmps.size = n) (hfit : fitB md l.toArray listed = true) (hB : maskOk md l.toArray n m l 0 listed = true) (hR : maskReach md l.toArray T m 0 = true)
    (h : ∃ A, (∀ x : BelowT w, wpQuiet P l.toArray (fun w' => ∃ y : BelowT x.val, w' = y.val) (fun a' => a' = A) (pickL m l) a) ∧ wpAnyZ P md l.toArray (NoPanic Q) T tf fuel (maskListed m 0 listed) A w) : wpAnyZ P md l.toArray (NoPanic Q) T tf F listed a w := by
  obtain ⟨A, h1, h2⟩ := h
  rw [← hF]
  exact wpAnyZ_mask hsel (fun _ _ _ _ _ h => h) m l 0 listed a (fun j => by simp) hn (fit_of hfit) hB hR h1 h2
theorem wpAnyZ_one {T : List Nat} {tf m fuel : Nat} {listed : Array Bool} {a : Act} {w : World} (hr : Region.ready md ops listed = [m])
    (h : ∀ w', Grow w w' → wpOp P ops Q m (fun a' w'' => Grow w' w'' ∧ wpAnyZ P md ops Q T tf fuel (listed.setIfInBounds m true) a' w'') a w') : wpAnyZ P md ops Q T tf (fuel + 1) listed a w :=
  fun w' g => ⟨fun h0 => (by rw [hr] at h0; cases h0), fun i hi => by
    rw [hr] at hi
    have : i = m := by simpa using hi
    subst this
    exact h w' g⟩
def allBut (T : List Nat) (n : Nat) (listed : Array Bool) : Bool := (List.range n).all fun k => decide (k ∈ T) || listed.getD k false
theorem wpAnyZ_rest {T : List Nat} {tf : Nat} {listed : Array Bool} {a : Act} {w : World} (hl : allBut T ops.size listed = true) (h : ∀ w', Grow w w' → wpAny P md ops Q tf listed a w') : wpAnyZ P md ops Q T tf 0 listed a w := by
  refine ⟨fun k hk hT => ?_, h⟩
  have := List.all_eq_true.1 hl k (List.mem_range.2 hk)
  simpa [hT] using this
theorem wpAny_one {m fuel : Nat} {listed : Array Bool} {a : Act} {w : World} (hr : Region.ready md ops listed = [m])
    (h : wpOp P ops Q m (fun a' w'' => wpAny P md ops Q fuel (listed.setIfInBounds m true) a' w'') a w) : wpAny P md ops Q (fuel + 1) listed a w :=
  ⟨fun h0 => (by rw [hr] at h0; cases h0), fun i hi => by
    rw [hr] at hi
    have : i = m := by simpa using hi
    subst this
    exact h⟩
theorem wpAny_end {listed : Array Bool} {a : Act} {w : World} (hr : Region.ready md ops listed = []) (h : Q .normal a w) : ∀ fuel, wpAny P md ops (NoPanic Q) fuel listed a w
  | 0 => ⟨hr, h⟩
  | _ + 1 => ⟨fun _ => h, by rw [hr]; simp⟩
theorem wp_region_tail {id : Nat} {a : Act} {w : World} (hm : P.follows .mixedOrders = true)
    (h : wpAny P .any ops (NoPanic Q) ops.size (Array.replicate ops.size false) a w.drew) : (Code.region id ops true).wp P Q a w :=
  wp_region_noPanic (wp_region_any hm h)
end
end Go.Proofs.YtbfjbabpeigloabDoor
end

section
namespace Go.Proofs.YtbfjbabpeigloabDoor
open Go.RowKit

def undot (l : List UInt8) : List UInt8 := if l.head? = some 46 then l.tail else l
theorem undot_dot (l : List UInt8) : undot (dotL l) = l := by
  unfold undot dotL
  by_cases h : l.head? = some 46
  · rw [if_pos h]; exact if_pos rfl
  · rw [if_neg h, if_neg h]
theorem dotL_ne (l : List UInt8) : dotL l ≠ [46] := by
  unfold dotL
  by_cases h : l.head? = some 46
  · rw [if_pos h]; intro e; injection e with _ e; subst e; cases h
  · rw [if_neg h]; intro e; subst e; exact h rfl
theorem undot_len (l : List UInt8) : (undot l).length ≤ l.length := by unfold undot; split <;> simp
theorem pre_dot (l : List UInt8) : Lib.hasPrefix l [46] = decide (l.head? = some 46) := by
  have hi : ∀ l p : List UInt8, Lib.hasPrefix l p = true ↔ ∃ m, l = p ++ m := fun l p => by
    unfold Lib.hasPrefix; rw [List.isPrefixOf_iff_prefix]
    exact ⟨fun ⟨m, h⟩ => ⟨m, h.symm⟩, fun ⟨m, h⟩ => ⟨m, h.symm⟩⟩
  rw [Bool.eq_iff_iff, hi, decide_eq_true_iff]
  cases l with
  | nil => simp
  | cons x xs =>
    constructor
    · rintro ⟨m, h⟩; injection h with h1 _; rw [h1]; rfl
    · intro h; injection h with h; exact ⟨xs, by rw [h]; rfl⟩
theorem cell_one (w : World) (x : Value) (t : TypeId) : (w.alloc (.cells #[x] t)).cell? ⟨w.heap.size, 0, none⟩ = some x := by rw [World.cell?_alloc_at _ _ _ _ rfl]; rfl
theorem own_row (w : World) (xs : List (List UInt8)) (C : Array Value) (hC : C.toList = xs.map strV) (hl : xs.length ≤ 1000) : OwnL w.heap.size (.slice (some ⟨w.heap.size, 0, none⟩) xs.length xs.length) xs (w.alloc (.cells C 9)) := by
  have hs : C.size = xs.length * 1 := by rw [← Array.length_toList, hC]; simp
  have := World.ownsRow_lit (base := w.heap.size) (e := 9) (size := 1) w C xs.length (Nat.le_refl _) (by unfold maxLen; omega) hs
  rw [hC] at this
  exact this
theorem fromL_sum (p : List UInt8) : ((ByteArray.mk #[77, 65, 73, 76, 32, 70, 82, 79, 77, 58, 60]) ++ str p) ++ (ByteArray.mk #[62]) = str (fromL p) := by
  apply bytes_ext; rw [str_list, Joins.data_append, Joins.data_append, str_list]; rfl
theorem rcptL_sum (p : List UInt8) : ((ByteArray.mk #[82, 67, 80, 84, 32, 84, 79, 58, 60]) ++ str p) ++ (ByteArray.mk #[62]) = str (rcptL p) := by
  apply bytes_ext; rw [str_list, Joins.data_append, Joins.data_append, str_list]; rfl
theorem dotL_sum (l : List UInt8) (h : l.head? = some 46) : (ByteArray.mk #[46]) ++ str l = str (dotL l) := by
  apply bytes_ext; rw [str_list, Joins.data_append, str_list]; unfold dotL; rw [if_pos h]; rfl
/-- The lines that hand a mail over, or none. -/
def SpkRet (o : Option (List (List UInt8))) (w : World) (e : Ending) (w' : World) : Prop := ∃ v, e = .returned (.tuple #[v, .bool o.isSome]) ∧ OwnL w.heap.size v (o.getD []) w' ∧ Below w.heap.size w w'
theorem spkRet_none {o : Option (List (List UInt8))} {w w' : World} {v : Value} (h : o = none) (ho : OwnL w.heap.size v [] w') (hb : Below w.heap.size w w') : SpkRet o w (.returned (.tuple #[v, .bool false])) w' := by subst h; exact ⟨v, rfl, ho, hb⟩
theorem spkRet_some {o : Option (List (List UInt8))} {xs : List (List UInt8)} {w w' : World} {v : Value} (h : o = some xs) (ho : OwnL w.heap.size v xs w') (hb : Below w.heap.size w w') : SpkRet o w (.returned (.tuple #[v, .bool true])) w' := by subst h; exact ⟨v, rfl, ho, hb⟩
theorem speakL_small {m : Ml} (ht : ∀ x ∈ m.to, isPath x = true) (hl : ∀ x ∈ m.lines, isText x = true) (hf : m.frm.length ≤ 71) : ∀ x ∈ speakL m, x.length ≤ 1073741000 := fun x hx => by
  unfold speakL at hx
  rcases List.mem_append.1 hx with hx | hx
  · rcases List.mem_append.1 hx with hx | hx
    · rcases List.mem_append.1 hx with hx | hx
      · rw [List.mem_singleton.1 hx]; unfold fromL; simp; omega
      · obtain ⟨p, hp, rfl⟩ := List.mem_map.1 hx
        have := isPath_len (ht p hp)
        unfold rcptL; simp; omega
    · rw [List.mem_singleton.1 hx]; decide
  · obtain ⟨p, hp, rfl⟩ := List.mem_map.1 hx
    have h := hl p hp
    unfold isText at h; simp at h
    rw [dotL_len]; have := h.1; split <;> omega
theorem speak_no {m : Ml} (h : isMail m = false) : speakM m = none := by unfold speakM; rw [h]; rfl
theorem speak_bad {m : Ml} (h : (m.lines.map dotL).all isText = false) : speakM m = none := by unfold speakM; rw [h, Bool.and_false]; rfl
theorem speak_good {m : Ml} (h : isMail m = true) (h2 : (m.lines.map dotL).all isText = true) : speakM m = some (speakL m ++ [[46]]) := by unfold speakM; rw [h, h2]; rfl
/-- The rows that are spoken, up to a place. -/
def spk1 (m : Ml) (k : Nat) : List (List UInt8) := [fromL m.frm] ++ (m.to.take k).map rcptL
def spk2 (m : Ml) (k : Nat) : List (List UInt8) := ([fromL m.frm] ++ m.to.map rcptL ++ [dataL]) ++ (m.lines.take k).map dotL
theorem spk1_step {m : Ml} {k : Nat} (h : k < m.to.length) : spk1 m k ++ [rcptL m.to[k]] = spk1 m (k + 1) := by unfold spk1; rw [List.take_succ_eq_append_getElem h, List.map_append, List.append_assoc]; rfl
theorem spk2_step {m : Ml} {k : Nat} (h : k < m.lines.length) : spk2 m k ++ [dotL m.lines[k]] = spk2 m (k + 1) := by unfold spk2; rw [List.take_succ_eq_append_getElem h, List.map_append, List.append_assoc]; rfl
theorem spk1_end {m : Ml} {k : Nat} (h : m.to.length ≤ k) : spk1 m k ++ [dataL] = spk2 m 0 := by unfold spk1 spk2; rw [List.take_of_length_le h]; simp
theorem spk2_end {m : Ml} {k : Nat} (h : m.lines.length ≤ k) : spk2 m k = speakL m := by unfold spk2 speakL; rw [List.take_of_length_le h]
theorem spk1_len (m : Ml) (k : Nat) : (spk1 m k).length ≤ m.to.length + 1 := by unfold spk1; simp; omega
theorem spk2_len (m : Ml) (k : Nat) : (spk2 m k).length ≤ m.to.length + m.lines.length + 2 := by unfold spk2; simp; omega
end Go.Proofs.YtbfjbabpeigloabDoor
end

section
namespace Go.Proofs.YtbfjbabpeigloabDoor
open Go.RowKit

structure RelT (Rel : World → World → Prop) (W : World) where
  val : World
  rel : Rel W val
/-- E: what the operations that are taken first may do to the world; S: what all of them may do. -/
structure RelOk (E S : World → World → Prop) : Prop where
  refl : ∀ w, E w w
  trans : ∀ {a b c : World}, E a b → E b c → E a c
  strans : ∀ {a b c : World}, S a b → S b c → S a c
  sub : ∀ {a b : World}, E a b → S a b
theorem RelOk.srefl {E S : World → World → Prop} (ok : RelOk E S) (w : World) : S w w := ok.sub (ok.refl w)
instance (R : Nat) (W : World) : Nonempty (RelT (Touch R) W) := ⟨⟨W, Touch.refl R W⟩⟩
instance (W : World) : Nonempty (RelT Grow W) := ⟨⟨W, Grow.refl W⟩⟩
theorem touchOk (R : Nat) : RelOk Grow (Touch R) := ⟨Grow.refl, Grow.trans, Touch.trans, Touch.of_below⟩
theorem calls_relT {P : Program} {f : FuncId} {args : Array Value} {W : World} {x : RelT Grow W} {v : Value}
    (h : Calls P f args x.val fun e w' => e = .returned v ∧ Below x.val.heap.size x.val w') : Calls P f args x.val fun e w'' => e = .returned v ∧ ∃ y : RelT Grow W, w'' = y.val :=
  h.mono fun _ w' ⟨he, hb⟩ => ⟨he, ⟨w', Grow.trans x.rel hb⟩, rfl⟩
section
variable {P : Program} {E S : World → World → Prop} {ops : Array Oper} {Q : Exit → Act → World → Prop} {md : Region.Mode}

def relUpon (P : Program) (E : World → World → Prop) (w : World) (v : Value) : Result Next → Prop
  | .ok (.value u) w' => w' = w ∧ u = v
  | .ok .skip w' => w' = w ∧ v = undef
  | .ok (.enter f args) w' => w' = w ∧ Calls P f args w (fun e w'' => e = .returned v ∧ E w w'')
  | _ => False
def relAt (P : Program) (E : World → World → Prop) (o : Oper) (a : Act) (w : World) (v : Value) : Prop := relUpon P E w v ((execOp a.eval o).run P w)
/-- In state a, in every world grown from w, operation o leaves v in its temporary and turns nothing. -/
def RYields (P : Program) (E S : World → World → Prop) (ops : Array Oper) (o : Oper) (v : Value) (a : Act) (w : World) : Prop :=
  (Region.wanted o (yielded ops a.tmps) = true ∧ ∀ w', S w w' → relAt P E o a w' v) ∨ (Region.wanted o (yielded ops a.tmps) = false ∧ v = undef)
theorem RYields.grow (ok : RelOk E S) {o : Oper} {v : Value} {a : Act} {w u : World} (h : RYields P E S ops o v a w) (g : S w u) : RYields P E S ops o v a u :=
  h.imp (fun ⟨h1, h2⟩ => ⟨h1, fun w' k => h2 w' (ok.strans g k)⟩) id
theorem RYields.of_same {o : Oper} {v : Value} {a a' : Act} {w : World} (hy : RYields P E S ops o v a w) (he : execOp a'.eval o = execOp a.eval o)
    (hw : Region.wanted o (yielded ops a'.tmps) = Region.wanted o (yielded ops a.tmps)) : RYields P E S ops o v a' w := by
  unfold RYields relAt at *
  rw [he, hw]
  exact hy
theorem RYields.wpOp (ok : RelOk E S) {i : Nat} {o : Oper} {v : Value} {a : Act} {w : World} (hi : ops[i]? = some o) (hy : RYields P E S ops o v a w)
    {K : Act → World → Prop} (h : ∀ w', E w w' → K (a.put o.dst v) w') : wpOp P ops Q i K a w := by
  unfold Go.wpOp
  simp only [hi]
  rcases hy with ⟨hw, hv⟩ | ⟨hw, rfl⟩
  · rw [if_pos hw]
    refine .inl ?_
    have h1 := hv w (ok.srefl w)
    unfold relAt at h1
    unfold Oper.wp
    generalize (execOp a.eval o).run P w = r at *
    cases r with
    | ok n w' =>
      cases n <;> simp only [relUpon] at h1 <;> simp only [Oper.upon]
      case value u =>
        obtain ⟨e1, e2⟩ := h1
        rw [e1, e2]
        exact h _ (ok.refl w)
      case skip =>
        obtain ⟨e1, e2⟩ := h1
        rw [e1, ← e2]
        exact h _ (ok.refl w)
      case enter f args =>
        obtain ⟨e1, hc⟩ := h1
        rw [e1]
        exact hc.mono fun e w'' ⟨he, hw''⟩ => by subst he; exact h _ hw''
    | halt x w' => simp only [relUpon] at h1
  · rw [if_neg (by rw [hw]; exact Bool.false_ne_true)]; exact h _ (ok.refl w)

theorem wpOp_putR {j : Nat} {oi oj : Oper} {v : Value} (hj : ops[j]? = some oj) (hap : oi.apart ops oj = true)
    (hsi : ∀ cs b, oi.op ≠ .select cs b) (hsj : ∀ cs b, oj.op ≠ .select cs b)
    (hQ : ∀ c a w, Q (.panic c) (a.put oi.dst v) w → Q (.panic c) a w) {K : Act → World → Prop} {a : Act} {w u : World}
    (hy : RYields P E S ops oi v a u) (h : wpOp P ops Q j K (a.put oi.dst v) w) :
    wpOp P ops Q j (fun a' w' => RYields P E S ops oi v a' u ∧ K (a'.put oi.dst v) w') a w := by
  obtain ⟨h1, h2, h3⟩ := Oper.apart_spec hap
  have keep : ∀ (a : Act), RYields P E S ops oi v a u → ∀ x, RYields P E S ops oi v (a.put oj.dst x) u := fun a hy x =>
    hy.of_same (execOp_put oi hsi a oj.dst x h3) (wanted_put oi a oj.dst x h3)
  have keepD : ∀ d, RYields P E S ops oi v { a with defers := d :: a.defers } u := fun d => hy.of_same rfl rfl
  unfold Go.wpOp at *
  simp only [hj] at *
  rw [wanted_put oj a oi.dst v h1] at h
  split
  · rename_i hw
    simp only [hw, if_true] at h
    rcases h with h | ⟨hasks, hlets⟩
    case inr => exact .inr ⟨by unfold Oper.asks at *; rw [execOp_put oj hsj a oi.dst v h1] at hasks; exact hasks, hlets⟩
    refine .inl ?_
    unfold Oper.wp at *
    rw [execOp_put oj hsj a oi.dst v h1] at h
    generalize (execOp a.eval oj).run P w = r at *
    cases r with
    | ok n w' =>
      cases n <;> simp only [Oper.upon] at h ⊢
      case value x => exact ⟨keep a hy x, by rw [← Act.put_comm a v x h2]; exact h⟩
      case skip => exact ⟨keep a hy _, by rw [← Act.put_comm a v undef h2]; exact h⟩
      case defer d =>
        refine ⟨keep _ (keepD d) _, ?_⟩
        rw [← Act.put_comm _ v undef h2, ← Act.put_defers]
        exact h
      case enter f args =>
        refine Calls.mono h fun e w'' he => ?_
        cases e with
        | returned x => exact ⟨keep a hy x, by rw [← Act.put_comm a v x h2]; exact he⟩
        | panicked c => exact hQ _ _ _ he
        | outgrown => exact he
      case row row args => exact Rows.mono h fun x w'' he => ⟨keep a hy x, by rw [← Act.put_comm a v x h2]; exact he⟩
    | halt x w' =>
      cases x <;> simp only [Oper.upon] at h ⊢
      case panic x => exact hQ _ _ _ h
  · rename_i hw
    simp only [hw] at h
    exact ⟨keep a hy _, by rw [← Act.put_comm a v undef h2]; exact h⟩

/-- Whatever order is picked, till all but the tail T is listed. -/
def wpAnyW (P : Program) (E S : World → World → Prop) (md : Region.Mode) (ops : Array Oper) (Q : Exit → Act → World → Prop) (T : List Nat) (tf : Nat) : Nat → Array Bool → Act → World → Prop
  | 0, listed, a, w => (∀ k, k < ops.size → k ∉ T → listed.getD k false = true) ∧ ∀ w', E w w' → wpAny P md ops Q tf listed a w'
  | fuel + 1, listed, a, w => ∀ w', E w w' → (Region.ready md ops listed = [] → Q .normal a w') ∧
    ∀ i ∈ Region.ready md ops listed, wpOp P ops Q i (fun a' w'' => S w' w'' ∧ wpAnyW P E S md ops Q T tf fuel (listed.setIfInBounds i true) a' w'') a w'
theorem wpAny_of_W (ok : RelOk E S) {T : List Nat} {tf : Nat} : ∀ (fuel : Nat) (listed : Array Bool) (a : Act) (w : World), wpAnyW P E S md ops Q T tf fuel listed a w → wpAny P md ops Q (fuel + tf) listed a w
  | 0, _, _, w, h => by rw [Nat.zero_add]; exact h.2 w (ok.refl w)
  | fuel + 1, _, _, w, h => by
    rw [show fuel + 1 + tf = (fuel + tf) + 1 by omega]
    exact ⟨(h w (ok.refl w)).1, fun i hi => wpOp_mono (fun a' w' h' => wpAny_of_W ok fuel _ a' w' h'.2) ((h w (ok.refl w)).2 i hi)⟩
theorem wpAnyW_grow (ok : RelOk E S) {T : List Nat} {tf fuel : Nat} {listed : Array Bool} {a : Act} {w u : World} (g : E w u) (h : wpAnyW P E S md ops Q T tf fuel listed a w) : wpAnyW P E S md ops Q T tf fuel listed a u := by
  cases fuel with
  | zero => exact ⟨h.1, fun w' k => h.2 w' (ok.trans g k)⟩
  | succ fuel => exact fun w' k => h w' (ok.trans g k)
theorem wpAnyW_first (ok : RelOk E S) {T : List Nat} {tf i : Nat} {oi : Oper} {v : Value} (hi : ops[i]? = some oi) (hsel : ∀ (j : Nat) (o : Oper) cs b, ops[j]? = some o → o.op ≠ .select cs b)
    (hQ : ∀ c a w, Q (.panic c) (a.put oi.dst v) w → Q (.panic c) a w) (hT : ∀ t ∈ T, reachB md ops ops.size t i = true) :
    ∀ (fuel : Nat) (listed : Array Bool) (a : Act) (w : World), Fit md ops listed →
      (∀ j oj, ops[j]? = some oj → j ≠ i → listed.getD j true = false → (∀ e ∈ oj.after, Region.binds md e = true → e.on ≠ i) → oi.apart ops oj = true) →
      i ∈ Region.ready md ops listed → RYields P E S ops oi v a w →
      wpAnyW P E S md ops Q T tf fuel (listed.setIfInBounds i true) (a.put oi.dst v) w → wpAnyW P E S md ops Q T tf (fuel + 1) listed a w := by
  have hun : ∀ {L : Array Bool} {k : Nat}, L.getD k true = false → L.getD k false = true → False := fun {L k} h0 h1 => by
    rcases Nat.lt_or_ge k L.size with h' | h'
    · simp [h'] at h0 h1; rw [h0] at h1; cases h1
    · simp [Array.getElem?_eq_none h'] at h1
  intro fuel
  induction fuel with
  | zero =>
    intro listed a w hfit _ hr hy H w' g
    refine ⟨fun h => (by rw [h] at hr; cases hr), fun j hj => ?_⟩
    by_cases hji : j = i
    · subst hji; exact (hy.grow ok (ok.sub g)).wpOp ok hi fun w'' k => ⟨ok.sub k, wpAnyW_grow ok (ok.trans g k) H⟩
    · exfalso
      obtain ⟨hjun, oj, hoj, hall⟩ := mem_ready.1 hj
      have hjT : j ∈ T := by
        refine Classical.byContradiction fun hn => ?_
        have := H.1 j (Array.getElem?_eq_some_iff.1 hoj).1 hn
        rw [getD_set_ne false (Ne.symm hji)] at this
        exact hun hjun this
      exact hun (mem_ready.1 hr).1 (reach_listed hfit _ j i oj hoj hall (hT j hjT))
  | succ fuel ih =>
    intro listed a w hfit hfree hr hy H w' g
    refine ⟨fun h => (by rw [h] at hr; cases hr), fun j hj => ?_⟩
    by_cases hji : j = i
    · subst hji; exact (hy.grow ok (ok.sub g)).wpOp ok hi fun w'' k => ⟨ok.sub k, wpAnyW_grow ok (ok.trans g k) H⟩
    · have h1 := (H w' g).2 j (ready_mono hj hji)
      obtain ⟨hjun, oj, hoj, hall⟩ := mem_ready.1 hj
      have hnot : ∀ e ∈ oj.after, Region.binds md e = true → e.on ≠ i := fun e he hb heq => by
        have h1 := hall e he hb
        rw [heq] at h1
        exact hun (mem_ready.1 hr).1 h1
      have h2 := wpOp_putR hoj (hfree j oj hoj hji hjun hnot) (fun cs b => hsel i oi cs b hi) (fun cs b => hsel j oj cs b hoj) hQ (hy.grow ok (ok.sub g)) h1
      have hfree' : ∀ k ok, ops[k]? = some ok → k ≠ i → (listed.setIfInBounds j true).getD k true = false →
          (∀ e ∈ ok.after, Region.binds md e = true → e.on ≠ i) → oi.apart ops ok = true := fun k ok hk hki hun hno => by
        refine hfree k ok hk hki ?_ hno
        by_cases hjk : j = k
        · subst hjk; exact hjun
        · rw [getD_set_ne true hjk] at hun; exact hun
      refine wpOp_mono (fun a' w'' h3 => ⟨h3.2.1, ih (listed.setIfInBounds j true) a' w'' (hfit.set hj) hfree' (ready_mono hr (Ne.symm hji)) (h3.1.grow ok h3.2.1) ?_⟩) h2
      rw [Array.setIfInBounds_comm _ _ hji]
      exact h3.2.2
theorem wpAnyW_mask (ok : RelOk E S) {T : List Nat} {tf : Nat} {A : Act} {n : Nat} (hsel : Region.noSelect ops = true) (hQ : ∀ c a o v w, Q (.panic c) (a.put o v) w → Q (.panic c) a w) {w : World} {fuel : Nat} : ∀ (m : List Bool) (l : List Oper) (k : Nat) (listed : Array Bool) (a : Act),
    (∀ j, l[j]? = ops[k + j]?) → a.tmps.size = n → Fit md ops listed → maskOk md ops n m l k listed = true → maskReach md ops T m k = true →
    (∀ x : RelT S w, wpQuiet P ops (fun w' => ∃ y : RelT E x.val, w' = y.val) (fun a' => a' = A) (pickL m l) a) →
    wpAnyW P E S md ops Q T tf fuel (maskListed m k listed) A w → wpAnyW P E S md ops Q T tf (maskCount m + fuel) listed a w
  | [], l, k, listed, a, _, _, _, _, _, h, H => by
    have h1 : a = A := by have := h ⟨w, ok.srefl w⟩; rw [pickL] at this; exact this; all_goals simp
    rw [h1]
    simpa [maskCount, maskListed] using H
  | false :: m, [], k, listed, a, _, _, _, hB, _, _, _ => by simp [maskOk] at hB
  | true :: m, [], k, listed, a, _, _, _, hB, _, _, _ => by simp [maskOk] at hB
  | false :: m, o :: l, k, listed, a, hl, hn, hfit, hB, hR, h, H => by
    simp only [maskCount, maskListed, maskOk, maskReach, pickL] at *
    exact wpAnyW_mask ok hsel hQ m l (k + 1) listed a (fun j => by have := hl (j + 1); simpa [Nat.add_assoc, Nat.add_comm 1 j] using this) hn hfit hB hR h H
  | true :: m, o :: l, k, listed, a, hl, hn, hfit, hB, hR, h, H => by
    have h0 : ops[k]? = some o := by simpa using (hl 0).symm
    simp only [maskCount, maskListed, maskOk, maskReach, pickL, Bool.and_eq_true] at *
    obtain ⟨⟨⟨hr, hf⟩, hd⟩, hB'⟩ := hB
    obtain ⟨hR0, hR'⟩ := hR
    have hT : ∀ t ∈ T, reachB md ops ops.size t k = true := fun t ht => List.all_eq_true.1 hR0 t ht
    have hrk : k ∈ Region.ready md ops listed := by simpa using hr
    cases ho : o.dst with
    | none => rw [ho] at hd; cases hd
    | some d =>
      rw [ho] at hd
      simp only [Bool.and_eq_true, decide_eq_true_eq, List.all_eq_true, bne_iff_ne] at hd
      have hslot : ∀ v, (a.put (some d) v).tmps[d]? = some v := fun v => by simp [Act.put, hn, hd.1]
      by_cases hw : Region.wanted o (yielded ops a.tmps) = true
      · have h' : ∀ x : RelT S w, (∀ w', (∃ y : RelT E x.val, w' = y.val) → o.quietAt P a (fun w' => ∃ y : RelT E x.val, w' = y.val) w' ((A.tmps[d]?).getD undef)) ∧
            wpQuiet P ops (fun w' => ∃ y : RelT E x.val, w' = y.val) (fun a' => a' = A) (pickL m l) (a.put (some d) ((A.tmps[d]?).getD undef)) := fun x => by
          have h1 := h x
          unfold wpQuiet at h1
          rw [if_pos hw] at h1
          obtain ⟨v, h2, h3⟩ := h1
          rw [ho] at h3
          have h4 := quiet_slot (d := d) (pickL m l) _ hd.2 h3
          rw [hslot] at h4
          rw [h4]
          exact ⟨h2, h3⟩
        have hy : RYields P E S ops o ((A.tmps[d]?).getD undef) a w := .inl ⟨hw, fun w' g => by
          have h1 := (h' ⟨w', g⟩).1 w' ⟨⟨w', ok.refl w'⟩, rfl⟩
          unfold Oper.quietAt at h1
          unfold relAt
          generalize (execOp a.eval o).run P w' = r at *
          cases r with
          | ok nx w2 =>
            cases nx <;> simp only [Oper.quietUpon] at h1 <;> simp only [relUpon]
            case value u => exact h1
            case skip => exact h1
            case enter f args => exact ⟨h1.1, h1.2.mono fun e w3 ⟨he, y, hy⟩ => ⟨he, by rw [hy]; exact y.rel⟩⟩
          | halt x w2 => simp only [Oper.quietUpon] at h1⟩
        rw [show maskCount m + 1 + fuel = (maskCount m + fuel) + 1 by omega]
        refine wpAnyW_first ok h0 (Region.noSelect_spec hsel) (fun c a w => hQ c a _ _ w) hT _ listed a w hfit (Region.free_spec h0 hf) hrk hy ?_
        rw [ho]
        exact wpAnyW_mask ok hsel hQ m l (k + 1) _ _ (fun j => by have := hl (j + 1); simpa [Nat.add_assoc, Nat.add_comm 1 j] using this) (by rw [put_size]; exact hn) (hfit.set hrk) hB' hR' (fun x => (h' x).2) H
      · have hwf : Region.wanted o (yielded ops a.tmps) = false := by simpa using hw
        rw [show maskCount m + 1 + fuel = (maskCount m + fuel) + 1 by omega]
        refine wpAnyW_first ok h0 (Region.noSelect_spec hsel) (fun c a w => hQ c a _ _ w) hT _ listed a w hfit (Region.free_spec h0 hf) hrk (.inr ⟨hwf, rfl⟩) ?_
        refine wpAnyW_mask ok hsel hQ m l (k + 1) _ _ (fun j => by have := hl (j + 1); simpa [Nat.add_assoc, Nat.add_comm 1 j] using this) (by rw [put_size]; exact hn) (hfit.set hrk) hB' hR' (fun x => ?_) H
        have h1 := h x
        unfold wpQuiet at h1
        rw [if_neg hw] at h1
        exact h1
/-- The tail stands by itself: all else that is not listed is taken by masks and one by one. -/
theorem wpAny_tailW (ok : RelOk E S) {F fuel tf : Nat} (T : List Nat) {listed : Array Bool} {a : Act} {w : World} (hF : fuel + tf = F) (h : wpAnyW P E S md ops Q T tf fuel listed a w) : wpAny P md ops Q F listed a w := by
  rw [← hF]; exact wpAny_of_W ok _ _ _ _ h
theorem wpAnyW_take (ok : RelOk E S) {T : List Nat} {tf F fuel n : Nat} {l : List Oper} {listed : Array Bool} {a : Act} {w : World} (m : List Bool) (hF : maskCount m + fuel = F) (hsel : Region.noSelect l.toArray = true)
    (hn : a.tmps.size = n) (hfit : fitB md l.toArray listed = true) (hB : maskOk md l.toArray n m l 0 listed = true) (hR : maskReach md l.toArray T m 0 = true)
    (h : ∃ A, (∀ x : RelT S w, wpQuiet P l.toArray (fun w' => ∃ y : RelT E x.val, w' = y.val) (fun a' => a' = A) (pickL m l) a) ∧ wpAnyW P E S md l.toArray (NoPanic Q) T tf fuel (maskListed m 0 listed) A w) : wpAnyW P E S md l.toArray (NoPanic Q) T tf F listed a w := by
  obtain ⟨A, h1, h2⟩ := h
  rw [← hF]
  exact wpAnyW_mask ok hsel (fun _ _ _ _ _ h => h) m l 0 listed a (fun j => by simp) hn (fit_of hfit) hB hR h1 h2
theorem wpAnyW_one {T : List Nat} {tf m fuel : Nat} {listed : Array Bool} {a : Act} {w : World} (hr : Region.ready md ops listed = [m])
    (h : ∀ w', E w w' → wpOp P ops Q m (fun a' w'' => S w' w'' ∧ wpAnyW P E S md ops Q T tf fuel (listed.setIfInBounds m true) a' w'') a w') : wpAnyW P E S md ops Q T tf (fuel + 1) listed a w :=
  fun w' g => ⟨fun h0 => (by rw [hr] at h0; cases h0), fun i hi => by
    rw [hr] at hi
    have : i = m := by simpa using hi
    subst this
    exact h w' g⟩
theorem wpAnyW_rest {T : List Nat} {tf : Nat} {listed : Array Bool} {a : Act} {w : World} (hl : allBut T ops.size listed = true) (h : ∀ w', E w w' → wpAny P md ops Q tf listed a w') : wpAnyW P E S md ops Q T tf 0 listed a w := by
  refine ⟨fun k hk hT => ?_, h⟩
  have := List.all_eq_true.1 hl k (List.mem_range.2 hk)
  simpa [hT] using this
/-- Two operations may come up. -/
theorem wpAnyW_two {T : List Nat} {tf m n fuel : Nat} {listed : Array Bool} {a : Act} {w : World} (hr : Region.ready md ops listed = [m, n])
    (h1 : ∀ w', E w w' → wpOp P ops Q m (fun a' w'' => S w' w'' ∧ wpAnyW P E S md ops Q T tf fuel (listed.setIfInBounds m true) a' w'') a w')
    (h2 : ∀ w', E w w' → wpOp P ops Q n (fun a' w'' => S w' w'' ∧ wpAnyW P E S md ops Q T tf fuel (listed.setIfInBounds n true) a' w'') a w') : wpAnyW P E S md ops Q T tf (fuel + 1) listed a w :=
  fun w' g => ⟨fun h0 => (by rw [hr] at h0; cases h0), fun i hi => by
    rw [hr] at hi
    rcases (by simpa using hi : i = m ∨ i = n) with e | e
    · subst e; exact h1 w' g
    · subst e; exact h2 w' g⟩
end
end Go.Proofs.YtbfjbabpeigloabDoor
end

section
namespace Go.Proofs.YtbfjbabpeigloabDoor
open Go.RowKit

/-- Blocks below B stay, from a world on that has B blocks. -/
def SB (B : Nat) (a b : World) : Prop := B ≤ a.heap.size → Below B a b
theorem sbOk (B : Nat) : RelOk Grow (SB B) := ⟨Grow.refl, Grow.trans, fun h k hB => (h hB).trans (k (Nat.le_trans hB (h hB).size)), fun h hB => Below.mono h hB⟩
instance (B : Nat) (W : World) : Nonempty (RelT (SB B) W) := ⟨⟨W, fun _ => Below.refl _ _⟩⟩
set_option maxRecDepth 100000 in
set_option maxHeartbeats 400000 in
theorem wp_append_H {o : Oper} {Q : Exit → Act → World → Prop} {K : Act → World → Prop} {a : Act} {w : World} (s x : Operand)
    (ho : o.op = .call { callee := .builtin .append, args := #[s, x], argTypes := #[26, 26] })
    (B : Nat) (v : Value) (xs ys : List (List UInt8)) (ad : Option Addr) (n c : Nat) (hs : a.eval s = v) (hx : a.eval x = .slice ad n c) (hown : OwnL B v xs w) (hy : RdL w ad n ys) (hac : ad = none → c = 0) (hB : B ≤ w.heap.size) (hl : xs.length + ys.length ≤ 10000000)
    (h : ∀ v' w', OwnL B v' (xs ++ ys) w' → w.grownBy w' v.ownBlock → (v'.ownBlock = v.ownBlock ∨ v'.ownBlock = some w.heap.size) → K (a.put o.dst v') w') : o.wp Tryd.prog a w K Q := by
  obtain ⟨i0, hi, hz0, hz1, hz2⟩ := info_parts sInfo
  have hn := hy.1
  unfold OwnL at hown
  cases ad with
  | none =>
    have h0 : n = 0 := by
      rcases hy.2 with e | ⟨b, off, e, _⟩
      · exact e
      · cases e
    obtain rfl := hac rfl
    subst h0
    have hn0 : ys = [] := List.length_eq_zero_iff.1 hn
    have hrun := run_append_owned_none (P := Tryd.prog) (w := w) B 26 o.type 9 i0 1 Tryd.underlying26 hi v xs.length (xs.map strV) hown
    unfold Oper.wp
    simp [execOp, ho, resolve, invoke, builtin, hs, hx, hrun, Result.andThen]
    refine h v w ?_ ⟨rfl, rfl, rfl, Nat.le_refl _, fun _ _ _ => rfl⟩ (.inl rfl)
    subst hn0
    rw [List.append_nil]; exact hown
  | some q =>
    obtain ⟨v', w', hr, h2, h3, _, h5⟩ := run_append_own_at (P := Tryd.prog) w B 26 o.type 9 i0 (.string ⟨#[]⟩) 1 16 Tryd.underlying26 hi hz0 hz1 hz2 rfl (by decide) v xs.length (xs.map strV) hown q n c (ys.map strV) (by simp [hn])
      (fun j u hu => by
        have hj : j < ys.length := by rcases Nat.lt_or_ge j ys.length with h | h; exact h; rw [List.getElem?_eq_none (by simpa using h)] at hu; cases hu
        rcases hy.2 with e | ⟨b, off, e, _, hc⟩
        · omega
        · injection e with e
          subst e
          rw [addr_add, hc j hj]
          rw [List.getElem?_map, List.getElem?_eq_getElem hj] at hu
          exact hu)
      (fun z hz => by obtain ⟨q, _, rfl⟩ := List.mem_map.1 hz; rfl) (by unfold maxLen; omega) (by omega) hB
    unfold Oper.wp execOp
    simp only [ho, resolve, invoke, builtin, Sem.run_bind, Sem.run_pure, Result.andThen_ok, List.map_toArray, List.map_cons, List.map_nil, hs, hx, hr]
    refine h v' w' ?_ h3 h5
    unfold OwnL; rw [List.length_append, List.map_append, hn]; exact h2
/-- Two rows of the call's own, apart. -/
structure St2 (B : Nat) (w : World) (v : Value) (xs : List (List UInt8)) (u : Value) (ys : List (List UInt8)) : Prop where
  a : OwnL B v xs w
  b : OwnL B u ys w
  ap : ∀ g, v.ownBlock = some g → u.ownBlock ≠ some g
theorem St2.keep {B : Nat} {w w' : World} {v u : Value} {xs ys : List (List UInt8)} (h : St2 B w v xs u ys) (k : Below w.heap.size w w') : St2 B w' v xs u ys := ⟨h.a.keep k, h.b.keep k, h.ap⟩
theorem St2.swap {B : Nat} {w : World} {v u : Value} {xs ys : List (List UInt8)} (h : St2 B w v xs u ys) : St2 B w u ys v xs := ⟨h.b, h.a, fun g hg e => h.ap g e hg⟩
theorem St2.new {B : Nat} {w : World} {v : Value} {xs : List (List UInt8)} (h : OwnL B v xs w) (hB : B ≤ w.heap.size) : St2 B (w.alloc (.cells #[] 9)) v xs (.slice (some ⟨w.heap.size, 0, none⟩) 0 0) [] :=
  ⟨h.keep ((Below.refl _ _).alloc (Nat.le_refl _) _), (OwnL.empty w).base hB, fun g hg e => by
    have := (h.lt g hg).2
    have e' : some w.heap.size = some g := e
    injection e' with e'
    omega⟩
theorem St2.appR {B : Nat} {w w' : World} {v u u' : Value} {xs ys zs : List (List UInt8)} (h : St2 B w v xs u ys) (ho : OwnL B u' zs w') (hg : w.grownBy w' u.ownBlock) (hat : u'.ownBlock = u.ownBlock ∨ u'.ownBlock = some w.heap.size) : St2 B w' v xs u' zs :=
  ⟨h.a.grown hg (fun g hv e => h.ap g hv e), ho, fun g hv e => by
    rcases hat with h' | h'
    · exact h.ap g hv (by rw [← h']; exact e)
    · rw [h'] at e
      injection e with e
      have := (h.a.lt g hv).2
      omega⟩
theorem grown_below {B : Nat} {w w' : World} {u : Value} {xs : List (List UInt8)} (h : OwnL B u xs w) (hg : w.grownBy w' u.ownBlock) (hB : B ≤ w.heap.size) : Below B w w' := (Below.refl _ _).grown hg hB (fun g hv => (h.lt g hv).1)
theorem St2.touch {B R : Nat} {w w' : World} {v u : Value} {xs ys : List (List UInt8)} (h : St2 B w v xs u ys) (t : Touch R w w') (hR : R < B) : St2 B w' v xs u ys := ⟨h.a.touch t hR, h.b.touch t hR, h.ap⟩
theorem St2.off {B g i : Nat} {w : World} {v u : Value} {xs ys : List (List UInt8)} (h : St2 B w v xs u ys) (h1 : ∀ q, v.ownBlock = some q → q ≠ g) (h2 : ∀ q, u.ownBlock = some q → q ≠ g) (z : Value) : St2 B (w.setCell ⟨g, i, none⟩ z) v xs u ys := by
  have key : ∀ {v : Value} {xs : List (List UInt8)}, OwnL B v xs w → (∀ q, v.ownBlock = some q → q ≠ g) → OwnL B v xs (w.setCell ⟨g, i, none⟩ z) := fun {v xs} h hv => by
    refine ⟨h.1, ?_⟩
    rcases h.2 with hn | ⟨q, cap, cur, e, hg1, hg2, rest⟩
    · exact .inl hn
    · exact .inr ⟨q, cap, cur, e, hg1, by rw [Below.heap_setCell _ _ _ _ (hv q (by rw [e]; rfl)), hg2], rest⟩
  exact ⟨key h.a h1, key h.b h2, h.ap⟩
theorem St2.base {B C : Nat} {w : World} {v u : Value} {xs ys : List (List UInt8)} (h : St2 B w v xs u ys) (k : C ≤ B) : St2 C w v xs u ys := ⟨h.a.base k, h.b.base k, h.ap⟩
theorem mf3_grown {w w' : World} {o : Option Nat} {g : Nat} {v0 v1 v2 : Value} (h : MF3 w g v0 v1 v2) (t : w.grownBy w' o) (hne : ∀ q, o = some q → q ≠ g) : MF3 w' g v0 v1 v2 := by
  have hl := lt_of_cell h.1.1
  have hb := t.block g hl (fun e => hne g e.symm rfl)
  have hc : ∀ i, w'.cell? ⟨g, i, none⟩ = w.cell? ⟨g, i, none⟩ := fun i => by unfold World.cell?; rw [hb]
  have hf : ∀ i, w'.frozen? ⟨g, i, none⟩ = w.frozen? ⟨g, i, none⟩ := fun i => by unfold World.frozen?; rw [hb]
  exact ⟨⟨(hc 0).trans h.1.1, (hc 1).trans h.1.2.1, (hc 2).trans h.1.2.2⟩, fun i => (hf i).trans (h.2 i)⟩
set_option maxRecDepth 100000 in
set_option maxHeartbeats 4000000 in
theorem l10Mail_any (M : Nat) (x : MlA) (w : World) (h : RdM M w x) (hM : M ≤ 1000000) :
    Calls Tryd.prog 71 #[mlV x] w (MalRet x.m w) := by
  obtain ⟨⟨f1, xs, ys⟩, a, c, b, d⟩ := x
  obtain ⟨⟨p1, _, hac⟩, ⟨p2, _, hbd⟩, p0, p3, p5, p4, p6⟩ := h
  dsimp only at *
  unfold mlV
  dsimp only
  have P1 := Lib.hid p1
  have P2 := Lib.hid p2
  have hl1 : xs.length ≤ 1000000 := by omega
  have hl2 : ys.length ≤ 1000000 := by omega
  have HD : Hid (∀ (a1 : Option Addr) (c1 : Nat) (a2 : Option Addr) (c2 : Nat) (w' : World), OwnL w.heap.size (.slice a1 xs.length c1) xs w' → OwnL w.heap.size (.slice a2 ys.length c2) ys w' → (∀ g, (Value.slice a1 xs.length c1).ownBlock = some g → (Value.slice a2 ys.length c2).ownBlock ≠ some g) → Below w.heap.size w w' → MalRet ⟨f1, xs, ys⟩ w (.returned (.agg #[.string (str f1), .slice a1 xs.length c1, .slice a2 ys.length c2])) w') :=
    fun a1 c1 a2 c2 w' h1 h2 h3 h4 => ⟨⟨⟨f1, xs, ys⟩, a1, c1, a2, c2⟩, rfl, rfl, ⟨h1, h2, h3⟩, h4⟩
  have hbP : Below w.heap.size w (w.alloc (.cells #[.string (str f1), .slice a xs.length c, .slice b ys.length d] 28)) := (Below.refl _ _).alloc (Nat.le_refl _) _
  have hbZ : Below (w.alloc (.cells #[.string (str f1), .slice a xs.length c, .slice b ys.length d] 28)).heap.size (w.alloc (.cells #[.string (str f1), .slice a xs.length c, .slice b ys.length d] 28)) ((w.alloc (.cells #[.string (str f1), .slice a xs.length c, .slice b ys.length d] 28)).alloc (.cells #[.string ⟨#[]⟩, .slice none 0 0, .slice none 0 0] 28)) := (Below.refl _ _).alloc (Nat.le_refl _) _
  have HP : Hid (MK3 ((w.alloc (.cells #[.string (str f1), .slice a xs.length c, .slice b ys.length d] 28)).alloc (.cells #[.string ⟨#[]⟩, .slice none 0 0, .slice none 0 0] 28)) w.heap.size (.string (str f1)) (.slice a xs.length c) (.slice b ys.length d)) := (MK3.new w _ _ _ _).below hbZ
  have HZ : Hid (MF3 ((w.alloc (.cells #[.string (str f1), .slice a xs.length c, .slice b ys.length d] 28)).alloc (.cells #[.string ⟨#[]⟩, .slice none 0 0, .slice none 0 0] 28)) (w.heap.size + 1) (.string ⟨#[]⟩) (.slice none 0 0) (.slice none 0 0)) := by
    have := MF3.new (w.alloc (.cells #[.string (str f1), .slice a xs.length c, .slice b ys.length d] 28)) (.string ⟨#[]⟩) (.slice none 0 0) (.slice none 0 0) 28
    have e : (w.alloc (.cells #[.string (str f1), .slice a xs.length c, .slice b ys.length d] 28)).heap.size = w.heap.size + 1 := by simp
    rw [e] at this; exact this
  have hb0 := nx hbP hbZ
  have hsz : w.heap.size + 1 < ((w.alloc (.cells #[.string (str f1), .slice a xs.length c, .slice b ys.length d] 28)).alloc (.cells #[.string ⟨#[]⟩, .slice none 0 0, .slice none 0 0] 28)).heap.size := by simp
  clear p1 p2 p0 p3 p5 p4 p6 hbP hbZ
  generalize str f1 = s1 at *
  obtain ⟨n1, hn1⟩ : ∃ n, n = xs.length := ⟨_, rfl⟩
  obtain ⟨n2, hn2⟩ : ∃ n, n = ys.length := ⟨_, rfl⟩
  go_enter Tryd.func71, Tryd.ntmps71
  go_wp2_with fail
  generalize hW : (w.alloc (.cells #[.string s1, .slice a xs.length c, .slice b ys.length d] 28)).alloc (.cells #[.string ⟨#[]⟩, .slice none 0 0, .slice none 0 0] 28) = W0 at *
  clear hW
  have HB : Hid (∀ u, Below W0.heap.size W0 u → MK3 u w.heap.size (.string s1) (.slice a xs.length c) (.slice b ys.length d)) := fun u hu => HP.out.below hu
  have D0 : Below W0.heap.size W0 W0.drew := (Below.refl _ _).drew
  have Q1 : Hid (∀ u, Below W0.heap.size W0 u → RdL u a xs.length xs) := fun u hu => P1.out.below (nx hb0 hu)
  have Q2 : Hid (∀ u, Below W0.heap.size W0 u → RdL u b ys.length ys) := fun u hu => P2.out.below (nx hb0 hu)
  refine wp_region_tail (by kernel_rfl) ?_
  refine wpAny_tailW (sbOk W0.heap.size) (fuel := 11) (tf := 1) [11] (by kernel_rfl) ?_
  refine wpAnyW_take (sbOk W0.heap.size) (fuel := 5) [true, true, false, true, true, false, false, true, true] (by kernel_rfl) (by kernel_rfl) (by rfl) (by kernel_rfl) (by kernel_rfl) (by kernel_rfl) ?_
  apply Exists.intro
  refine ⟨fun x => ?_, ?_⟩
  · have hx := x.rel (by exact D0.size)
    have y0 := fun (y : RelT Grow x.val) => (HB.out y.val ((D0.trans hx).trans (y.rel.mono (Nat.le_trans D0.size hx.size)))).1
    have y1 := fun (y : RelT Grow x.val) => (HB.out y.val ((D0.trans hx).trans (y.rel.mono (Nat.le_trans D0.size hx.size)))).2.1
    have y2 := fun (y : RelT Grow x.val) => (HB.out y.val ((D0.trans hx).trans (y.rel.mono (Nat.le_trans D0.size hx.size)))).2.2
    simp only [pickL]
    repeat (go_big_quiet_step (fail))
    exact wpQuiet_nil rfl
  refine wpAnyW_two (m := 2) (n := 6) (by kernel_rfl) (fun u1 g1 => ?_) (fun u1 g1 => ?_)
  · skip
    have E1 : Below W0.heap.size W0 u1 := nx D0 g1
    refine wpOp_at (o := _) (by rfl) (by rfl) ?_
    go_simp
    refine ⟨fun h => ((Below.refl _ _).alloc (Nat.le_refl _) _).mono h, ?_⟩
    try simp only [Act.put, List.setIfInBounds_toArray, List.set_cons_zero, List.set_cons_succ]
    have F1 : Below W0.heap.size W0 (u1.alloc (.cells #[] 9)) := nx E1 ((Below.refl _ _).alloc (Nat.le_refl _) _)
    have R1 : OwnL W0.heap.size (.slice (some ⟨u1.heap.size, 0, none⟩) 0 0) [] (u1.alloc (.cells #[] 9)) := (OwnL.empty u1).base E1.size
    generalize u1.alloc (.cells #[] 9) = V1 at *
    generalize hX1 : u1.heap.size = X1 at R1 ⊢
    clear hX1
    refine wpAnyW_two (m := 5) (n := 6) (by kernel_rfl) (fun u2 g2 => ?_) (fun u2 g2 => ?_)
    · skip
      have E2 : Below W0.heap.size W0 u2 := nx F1 g2
      have T2 := R1.keep g2
      refine wpOp_at (o := _) (by rfl) (by rfl) ?_
      refine wp_append_H _ _ rfl W0.heap.size _ [] xs a xs.length c rfl rfl T2 (Q1.out _ E2) hac E2.size (by simp; omega) ?_
      intro v2 V2 o2 gr2 at2
      have G2 : Below W0.heap.size u2 V2 := grown_below T2 gr2 E2.size
      refine ⟨fun _ => G2, ?_⟩
      have F2 : Below W0.heap.size W0 V2 := E2.trans G2
      replace o2 : OwnL W0.heap.size v2 xs V2 := o2
      have R2 := o2
      obtain ⟨a2x, c2x, rfl, _, _, _⟩ := o2.readc
      clear o2 gr2 at2 G2
      try simp only [Act.put, List.setIfInBounds_toArray]
      refine wpAnyW_one (m := 6) (by kernel_rfl) (fun u3 g3 => ?_)
      have E3 : Below W0.heap.size W0 u3 := nx F2 g3
      have T3 := R2.keep g3
      refine wpOp_at (o := _) (by rfl) (by rfl) ?_
      go_simp
      refine ⟨fun h => ((Below.refl _ _).alloc (Nat.le_refl _) _).mono h, ?_⟩
      try simp only [Act.put, List.setIfInBounds_toArray, List.set_cons_zero, List.set_cons_succ]
      have F3 : Below W0.heap.size W0 (u3.alloc (.cells #[] 9)) := nx E3 ((Below.refl _ _).alloc (Nat.le_refl _) _)
      have R3 := St2.new T3 E3.size
      generalize u3.alloc (.cells #[] 9) = V3 at *
      generalize hX3 : u3.heap.size = X3 at R3 ⊢
      clear hX3
      refine wpAnyW_one (m := 9) (by kernel_rfl) (fun u4 g4 => ?_)
      have E4 : Below W0.heap.size W0 u4 := nx F3 g4
      have T4 := R3.keep g4
      refine wpOp_at (o := _) (by rfl) (by rfl) ?_
      refine wp_append_H _ _ rfl W0.heap.size _ [] ys b ys.length d rfl rfl T4.b (Q2.out _ E4) hbd E4.size (by simp; omega) ?_
      intro v4 V4 o4 gr4 at4
      have G4 : Below W0.heap.size u4 V4 := grown_below T4.b gr4 E4.size
      refine ⟨fun _ => G4, ?_⟩
      have F4 : Below W0.heap.size W0 V4 := E4.trans G4
      replace o4 : OwnL W0.heap.size v4 ys V4 := o4
      have R4 := St2.appR T4 o4 gr4 at4
      obtain ⟨a4x, c4x, rfl, _, _, _⟩ := o4.readc
      clear o4 gr4 at4 G4
      try simp only [Act.put, List.setIfInBounds_toArray]
      refine wpAnyW_one (m := 10) (by kernel_rfl) (fun u5 g5 => ?_)
      have E5 : Below W0.heap.size W0 u5 := nx F4 g5
      have T5 := R4.keep g5
      refine wpOp_at (o := _) (by rfl) (by rfl) ?_
      go_simp
      refine ⟨fun _ => Below.refl _ _, ?_⟩
      try simp only [Act.put, List.setIfInBounds_toArray, List.set_cons_zero, List.set_cons_succ]
      refine wpAnyW_rest (by kernel_rfl) (fun U h9 => ?_)
      have EU : Below W0.heap.size W0 U := nx E5 h9
      have HT := Lib.hid (T5.keep h9)
      have HEU := Lib.hid EU
      obtain ⟨⟨z0, z1, z2⟩, zf⟩ := HZ.out.below EU
      have hzl : w.heap.size + 1 < U.heap.size := Nat.lt_of_lt_of_le hsz EU.size
      refine wpAny_one (m := 11) (by kernel_rfl) ?_
      refine wpOp_at (o := _) (by rfl) (by rfl) ?_
      go_simp
      try simp only [Act.put]
      refine wpAny_end (by kernel_rfl) ?_ _
      go_wp2
      refine bodyPost_ret (v := .agg #[.string s1, .slice a2x xs.length c2x, .slice a4x ys.length c4x]) (by simp [results, Tryd.results71, go_sem, z0, z1, z2]) rfl ?_
      exact HD.out a2x c2x a4x c4x _ (((((HT.out.a).off (g := w.heap.size + 1) (i := 0) (by omega) _).off (g := w.heap.size + 1) (i := 1) (by omega) _).off (g := w.heap.size + 1) (i := 2) (by omega) _).base (by omega)) (((((HT.out.b).off (g := w.heap.size + 1) (i := 0) (by omega) _).off (g := w.heap.size + 1) (i := 1) (by omega) _).off (g := w.heap.size + 1) (i := 2) (by omega) _).base (by omega)) HT.out.ap ((((nx hb0 HEU.out).setCell (p := ⟨w.heap.size + 1, 0, none⟩) (Nat.le_succ _) _).setCell (p := ⟨w.heap.size + 1, 1, none⟩) (Nat.le_succ _) _).setCell (p := ⟨w.heap.size + 1, 2, none⟩) (Nat.le_succ _) _)
    · skip
      have E2 : Below W0.heap.size W0 u2 := nx F1 g2
      have T2 := R1.keep g2
      refine wpOp_at (o := _) (by rfl) (by rfl) ?_
      go_simp
      refine ⟨fun h => ((Below.refl _ _).alloc (Nat.le_refl _) _).mono h, ?_⟩
      try simp only [Act.put, List.setIfInBounds_toArray, List.set_cons_zero, List.set_cons_succ]
      have F2 : Below W0.heap.size W0 (u2.alloc (.cells #[] 9)) := nx E2 ((Below.refl _ _).alloc (Nat.le_refl _) _)
      have R2 := St2.new T2 E2.size
      generalize u2.alloc (.cells #[] 9) = V2 at *
      generalize hX2 : u2.heap.size = X2 at R2 ⊢
      clear hX2
      refine wpAnyW_one (m := 5) (by kernel_rfl) (fun u6 g6 => ?_)
      have E6 : Below W0.heap.size W0 u6 := nx F2 g6
      have T6 := R2.keep g6
      refine wpOp_at (o := _) (by rfl) (by rfl) ?_
      refine wp_append_H _ _ rfl W0.heap.size _ [] xs a xs.length c rfl rfl T6.a (Q1.out _ E6) hac E6.size (by simp; omega) ?_
      intro v6 V6 o6 gr6 at6
      have G6 : Below W0.heap.size u6 V6 := grown_below T6.a gr6 E6.size
      refine ⟨fun _ => G6, ?_⟩
      have F6 : Below W0.heap.size W0 V6 := E6.trans G6
      replace o6 : OwnL W0.heap.size v6 xs V6 := o6
      have R6 := (St2.appR T6.swap o6 gr6 at6).swap
      obtain ⟨a6x, c6x, rfl, _, _, _⟩ := o6.readc
      clear o6 gr6 at6 G6
      try simp only [Act.put, List.setIfInBounds_toArray]
      refine wpAnyW_one (m := 9) (by kernel_rfl) (fun u7 g7 => ?_)
      have E7 : Below W0.heap.size W0 u7 := nx F6 g7
      have T7 := R6.keep g7
      refine wpOp_at (o := _) (by rfl) (by rfl) ?_
      refine wp_append_H _ _ rfl W0.heap.size _ [] ys b ys.length d rfl rfl T7.b (Q2.out _ E7) hbd E7.size (by simp; omega) ?_
      intro v7 V7 o7 gr7 at7
      have G7 : Below W0.heap.size u7 V7 := grown_below T7.b gr7 E7.size
      refine ⟨fun _ => G7, ?_⟩
      have F7 : Below W0.heap.size W0 V7 := E7.trans G7
      replace o7 : OwnL W0.heap.size v7 ys V7 := o7
      have R7 := St2.appR T7 o7 gr7 at7
      obtain ⟨a7x, c7x, rfl, _, _, _⟩ := o7.readc
      clear o7 gr7 at7 G7
      try simp only [Act.put]
      refine wpAnyW_one (m := 10) (by kernel_rfl) (fun u8 g8 => ?_)
      have E8 : Below W0.heap.size W0 u8 := nx F7 g8
      have T8 := R7.keep g8
      refine wpOp_at (o := _) (by rfl) (by rfl) ?_
      go_simp
      refine ⟨fun _ => Below.refl _ _, ?_⟩
      try simp only [Act.put, List.setIfInBounds_toArray, List.set_cons_zero, List.set_cons_succ]
      refine wpAnyW_rest (by kernel_rfl) (fun U h9 => ?_)
      have EU : Below W0.heap.size W0 U := nx E8 h9
      have HT := Lib.hid (T8.keep h9)
      have HEU := Lib.hid EU
      obtain ⟨⟨z0, z1, z2⟩, zf⟩ := HZ.out.below EU
      have hzl : w.heap.size + 1 < U.heap.size := Nat.lt_of_lt_of_le hsz EU.size
      refine wpAny_one (m := 11) (by kernel_rfl) ?_
      refine wpOp_at (o := _) (by rfl) (by rfl) ?_
      go_simp
      try simp only [Act.put]
      refine wpAny_end (by kernel_rfl) ?_ _
      go_wp2
      refine bodyPost_ret (v := .agg #[.string s1, .slice a6x xs.length c6x, .slice a7x ys.length c7x]) (by simp [results, Tryd.results71, go_sem, z0, z1, z2]) rfl ?_
      exact HD.out a6x c6x a7x c7x _ (((((HT.out.a).off (g := w.heap.size + 1) (i := 0) (by omega) _).off (g := w.heap.size + 1) (i := 1) (by omega) _).off (g := w.heap.size + 1) (i := 2) (by omega) _).base (by omega)) (((((HT.out.b).off (g := w.heap.size + 1) (i := 0) (by omega) _).off (g := w.heap.size + 1) (i := 1) (by omega) _).off (g := w.heap.size + 1) (i := 2) (by omega) _).base (by omega)) HT.out.ap ((((nx hb0 HEU.out).setCell (p := ⟨w.heap.size + 1, 0, none⟩) (Nat.le_succ _) _).setCell (p := ⟨w.heap.size + 1, 1, none⟩) (Nat.le_succ _) _).setCell (p := ⟨w.heap.size + 1, 2, none⟩) (Nat.le_succ _) _)
  · skip
    have E1 : Below W0.heap.size W0 u1 := nx D0 g1
    refine wpOp_at (o := _) (by rfl) (by rfl) ?_
    go_simp
    refine ⟨fun h => ((Below.refl _ _).alloc (Nat.le_refl _) _).mono h, ?_⟩
    try simp only [Act.put, List.setIfInBounds_toArray, List.set_cons_zero, List.set_cons_succ]
    have F1 : Below W0.heap.size W0 (u1.alloc (.cells #[] 9)) := nx E1 ((Below.refl _ _).alloc (Nat.le_refl _) _)
    have R1 : OwnL W0.heap.size (.slice (some ⟨u1.heap.size, 0, none⟩) 0 0) [] (u1.alloc (.cells #[] 9)) := (OwnL.empty u1).base E1.size
    generalize u1.alloc (.cells #[] 9) = V1 at *
    generalize hX1 : u1.heap.size = X1 at R1 ⊢
    clear hX1
    refine wpAnyW_one (m := 2) (by kernel_rfl) (fun u9 g9 => ?_)
    have E9 : Below W0.heap.size W0 u9 := nx F1 g9
    have T9 := R1.keep g9
    refine wpOp_at (o := _) (by rfl) (by rfl) ?_
    go_simp
    refine ⟨fun h => ((Below.refl _ _).alloc (Nat.le_refl _) _).mono h, ?_⟩
    try simp only [Act.put, List.setIfInBounds_toArray, List.set_cons_zero, List.set_cons_succ]
    have F9 : Below W0.heap.size W0 (u9.alloc (.cells #[] 9)) := nx E9 ((Below.refl _ _).alloc (Nat.le_refl _) _)
    have R9 := St2.new T9 E9.size
    generalize u9.alloc (.cells #[] 9) = V9 at *
    generalize hX9 : u9.heap.size = X9 at R9 ⊢
    clear hX9
    refine wpAnyW_one (m := 5) (by kernel_rfl) (fun u10 g10 => ?_)
    have E10 : Below W0.heap.size W0 u10 := nx F9 g10
    have T10 := R9.keep g10
    refine wpOp_at (o := _) (by rfl) (by rfl) ?_
    refine wp_append_H _ _ rfl W0.heap.size _ [] xs a xs.length c rfl rfl T10.b (Q1.out _ E10) hac E10.size (by simp; omega) ?_
    intro v10 V10 o10 gr10 at10
    have G10 : Below W0.heap.size u10 V10 := grown_below T10.b gr10 E10.size
    refine ⟨fun _ => G10, ?_⟩
    have F10 : Below W0.heap.size W0 V10 := E10.trans G10
    replace o10 : OwnL W0.heap.size v10 xs V10 := o10
    have R10 := St2.appR T10 o10 gr10 at10
    obtain ⟨a10x, c10x, rfl, _, _, _⟩ := o10.readc
    clear o10 gr10 at10 G10
    try simp only [Act.put, List.setIfInBounds_toArray]
    refine wpAnyW_one (m := 9) (by kernel_rfl) (fun u11 g11 => ?_)
    have E11 : Below W0.heap.size W0 u11 := nx F10 g11
    have T11 := R10.keep g11
    refine wpOp_at (o := _) (by rfl) (by rfl) ?_
    refine wp_append_H _ _ rfl W0.heap.size _ [] ys b ys.length d rfl rfl T11.a (Q2.out _ E11) hbd E11.size (by simp; omega) ?_
    intro v11 V11 o11 gr11 at11
    have G11 : Below W0.heap.size u11 V11 := grown_below T11.a gr11 E11.size
    refine ⟨fun _ => G11, ?_⟩
    have F11 : Below W0.heap.size W0 V11 := E11.trans G11
    replace o11 : OwnL W0.heap.size v11 ys V11 := o11
    have R11 := (St2.appR T11.swap o11 gr11 at11).swap
    obtain ⟨a11x, c11x, rfl, _, _, _⟩ := o11.readc
    clear o11 gr11 at11 G11
    try simp only [Act.put]
    replace R11 := R11.swap
    refine wpAnyW_one (m := 10) (by kernel_rfl) (fun u12 g12 => ?_)
    have E12 : Below W0.heap.size W0 u12 := nx F11 g12
    have T12 := R11.keep g12
    refine wpOp_at (o := _) (by rfl) (by rfl) ?_
    go_simp
    refine ⟨fun _ => Below.refl _ _, ?_⟩
    try simp only [Act.put, List.setIfInBounds_toArray, List.set_cons_zero, List.set_cons_succ]
    refine wpAnyW_rest (by kernel_rfl) (fun U h9 => ?_)
    have EU : Below W0.heap.size W0 U := nx E12 h9
    have HT := Lib.hid (T12.keep h9)
    have HEU := Lib.hid EU
    obtain ⟨⟨z0, z1, z2⟩, zf⟩ := HZ.out.below EU
    have hzl : w.heap.size + 1 < U.heap.size := Nat.lt_of_lt_of_le hsz EU.size
    refine wpAny_one (m := 11) (by kernel_rfl) ?_
    refine wpOp_at (o := _) (by rfl) (by rfl) ?_
    go_simp
    try simp only [Act.put]
    refine wpAny_end (by kernel_rfl) ?_ _
    go_wp2
    refine bodyPost_ret (v := .agg #[.string s1, .slice a10x xs.length c10x, .slice a11x ys.length c11x]) (by simp [results, Tryd.results71, go_sem, z0, z1, z2]) rfl ?_
    exact HD.out a10x c10x a11x c11x _ (((((HT.out.a).off (g := w.heap.size + 1) (i := 0) (by omega) _).off (g := w.heap.size + 1) (i := 1) (by omega) _).off (g := w.heap.size + 1) (i := 2) (by omega) _).base (by omega)) (((((HT.out.b).off (g := w.heap.size + 1) (i := 0) (by omega) _).off (g := w.heap.size + 1) (i := 1) (by omega) _).off (g := w.heap.size + 1) (i := 2) (by omega) _).base (by omega)) HT.out.ap ((((nx hb0 HEU.out).setCell (p := ⟨w.heap.size + 1, 0, none⟩) (Nat.le_succ _) _).setCell (p := ⟨w.heap.size + 1, 1, none⟩) (Nat.le_succ _) _).setCell (p := ⟨w.heap.size + 1, 2, none⟩) (Nat.le_succ _) _)
theorem numM_lit (R p n g : Nat) (xs : List Int) (t : TypeId) (w : World) (hg : w.heap.size = g) (hr : Rd w R p) (hp : p ≤ 1000000000) (hn : xs.length = n) (h0 : 0 < n) (h1 : n ≤ 1000000) :
    Calls Tryd.prog 57 #[.pointer (some ⟨R, 0, none⟩), .slice (some ⟨g, 0, none⟩) n n] (w.alloc (.cells (xs.map (Value.int .i64)).toArray t)) fun e w' => ∃ x, x ∈ xs ∧ e = .returned (.int .i64 x) ∧ Rd w' R (p + 1) ∧ Touch R w w' := by
  subst hg
  have hb : Below w.heap.size w (w.alloc (.cells (xs.map (Value.int .i64)).toArray t)) := (Below.refl _ _).alloc (Nat.le_refl _) _
  refine (num_any R p w.heap.size 0 n n xs _ (hr.below hb) hp (by have := hr.lt; omega) (by simp) h0 h1 hn (fun i hi => ?_)).mono ?_
  · rw [World.cell?_alloc_at _ _ _ _ rfl]; simp [hi]
  · rintro e w' ⟨x, h1, h2, h3, h4⟩
    exact ⟨x, h1, h2, h3, (Touch.of_below hb).trans h4⟩
/-- A mail is drawn. -/
def DrawnM (R p c M : Nat) (w : World) (e : Ending) (w' : World) : Prop := ∃ (x : MlA) (p' : Nat), e = .returned (mlV x) ∧ OwnM w.heap.size w' x ∧ SmallM M x.m ∧ p ≤ p' ∧ p' ≤ p + c ∧ Rd w' R p' ∧ Touch R w w'
theorem drawnM_mk {R p c M p' : Nat} {w w' : World} {s : ByteArray} {a b : Option Addr} {xs ys : List (List UInt8)} {k d : Nat} (hs : s.size ≤ M) (hx : xs.length ≤ M) (hxx : ∀ x ∈ xs, x.length ≤ M) (hy : ys.length ≤ M) (hyy : ∀ x ∈ ys, x.length ≤ M)
    (h : St2 w.heap.size w' (.slice a xs.length k) xs (.slice b ys.length d) ys) (h1 : p ≤ p') (h2 : p' ≤ p + c) (hr : Rd w' R p') (ht : Touch R w w') : DrawnM R p c M w (.returned (.agg #[.string s, .slice a xs.length k, .slice b ys.length d])) w' :=
  ⟨⟨⟨s.data.toList, xs, ys⟩, a, k, b, d⟩, p', by unfold mlV; dsimp only; rw [str_of], ⟨h.a, h.b, h.ap⟩, ⟨hs, hx, hxx, hy, hyy⟩, h1, h2, hr, ht⟩
theorem rd_one {w : World} {g : Nat} {x : ByteArray} (h : w.cell? ⟨g, 0, none⟩ = some (.string x)) : RdL w (some ⟨g, 0, none⟩) 1 [x.data.toList] :=
  ⟨rfl, .inr ⟨g, 0, rfl, lt_of_cell h, fun i hi => by
    obtain rfl : i = 0 := by simpa using hi
    rw [Nat.add_zero, h]; simp [str_of]⟩⟩
theorem touch_set {R g i : Nat} {w w' : World} (h : Touch R w w') (hB : w.heap.size ≤ g) (z : Value) : Touch R w (w'.setCell ⟨g, i, none⟩ z) :=
  ⟨h.os, h.tape, h.output, by simpa [World.setCell] using h.size, fun k hk hr => by rw [Below.heap_setCell _ _ _ _ (by show k ≠ g; omega)]; exact h.block k hk hr⟩
set_option maxRecDepth 100000 in
set_option maxHeartbeats 8000000 in
theorem l10DrawMail_any (R p : Nat) (w : World) (hr : Rd w R p) (hp : p ≤ 999998000) : Calls Tryd.prog 48 #[.pointer (some ⟨R, 0, none⟩)] w (DrawnM R p 9 40 w) := by
  have hRl := hr.lt
  have HZ0 := Lib.hid (MF3.new w (.string ⟨#[]⟩) (.slice none 0 0) (.slice none 0 0) 28)
  have hbZ : Below w.heap.size w (w.alloc (.cells #[.string ⟨#[]⟩, .slice none 0 0, .slice none 0 0] 28)) := (Below.refl _ _).alloc (Nat.le_refl _) _
  have hrZ := hr.below hbZ
  have hzZ : (w.alloc (.cells #[.string ⟨#[]⟩, .slice none 0 0, .slice none 0 0] 28)).heap.size = w.heap.size + 1 := by simp
  go_enter Tryd.func48, Tryd.ntmps48
  go_wp2_with fail
  generalize hW0 : w.alloc (.cells #[.string ⟨#[]⟩, .slice none 0 0, .slice none 0 0] 28) = W0 at *
  clear hW0
  rw [← hzZ]
  refine (of_lit R p 3 40 _ _ W0 hrZ (by omega) (by omega) (by omega) (by decide)).mono ?_
  rintro e w1 ⟨s1, p1, rfl, g1, f1, k1, hr1, ht1⟩
  have hs1 := ht1.size
  have HZ1 := Lib.hid (HZ0.out.touch ht1 (by omega))
  go_wp2_with fail
  refine (of_lit R p1 2 40 _ _ w1 hr1 (by omega) (by omega) (by omega) (by decide)).mono ?_
  rintro e w2 ⟨s2, p2, rfl, g2, f2, k2, hr2, ht2⟩
  have hs2 := ht2.size
  have HZ2 := Lib.hid (HZ1.out.touch ht2 (by omega))
  have hT2 : Touch R w w2 := (Touch.of_below hbZ).trans (ht1.trans ht2)
  have hR1 : OwnL w2.heap.size (.slice (some ⟨w2.heap.size, 0, none⟩) 1 1) [s2.data.toList] (w2.alloc (.cells #[.string s2] 9)) := own_row w2 [s2.data.toList] _ (by simp [strV, str_of]) (by simp)
  have hb3 : Below w2.heap.size w2 (w2.alloc (.cells #[.string s2] 9)) := (Below.refl _ _).alloc (Nat.le_refl _) _
  have hS := St2.new hR1 hb3.size
  have hz3 : (w2.alloc (.cells #[.string s2] 9)).heap.size = w2.heap.size + 1 := by simp
  rw [hz3] at hS
  have hb4 : Below w2.heap.size w2 ((w2.alloc (.cells #[.string s2] 9)).alloc (.cells #[] 9)) := hb3.alloc hb3.size _
  have hz4 : ((w2.alloc (.cells #[.string s2] 9)).alloc (.cells #[] 9)).heap.size = w2.heap.size + 1 + 1 := by simp
  have hb5 : Below w2.heap.size w2 (((w2.alloc (.cells #[.string s2] 9)).alloc (.cells #[] 9)).alloc (.cells #[.string s1, .slice (some ⟨w2.heap.size, 0, none⟩) 1 1, .slice (some ⟨w2.heap.size + 1, 0, none⟩) 0 0] 28)) := hb4.alloc hb4.size _
  have HS4 : Hid (St2 (w.heap.size + 1) (((w2.alloc (.cells #[.string s2] 9)).alloc (.cells #[] 9)).alloc (.cells #[.string s1, .slice (some ⟨w2.heap.size, 0, none⟩) 1 1, .slice (some ⟨w2.heap.size + 1, 0, none⟩) 0 0] 28)) (.slice (some ⟨w2.heap.size, 0, none⟩) 1 1) [s2.data.toList] (.slice (some ⟨w2.heap.size + 1, 0, none⟩) 0 0) []) :=
    (hS.keep ((Below.refl _ _).alloc (Nat.le_refl _) _)).base (by omega)
  have HK4 : Hid (MF3 (((w2.alloc (.cells #[.string s2] 9)).alloc (.cells #[] 9)).alloc (.cells #[.string s1, .slice (some ⟨w2.heap.size, 0, none⟩) 1 1, .slice (some ⟨w2.heap.size + 1, 0, none⟩) 0 0] 28)) (w2.heap.size + 1 + 1) (.string s1) (.slice (some ⟨w2.heap.size, 0, none⟩) 1 1) (.slice (some ⟨w2.heap.size + 1, 0, none⟩) 0 0)) := by
    have := MF3.new ((w2.alloc (.cells #[.string s2] 9)).alloc (.cells #[] 9)) (.string s1) (.slice (some ⟨w2.heap.size, 0, none⟩) 1 1) (.slice (some ⟨w2.heap.size + 1, 0, none⟩) 0 0) 28
    rw [hz4] at this; exact this
  have HZ4 := Lib.hid (HZ2.out.below hb5)
  have hr4 := hr2.below hb5
  have hT4 := hT2.trans (Touch.of_below hb5)
  have hz5 : w2.heap.size + 1 + 1 < (((w2.alloc (.cells #[.string s2] 9)).alloc (.cells #[] 9)).alloc (.cells #[.string s1, .slice (some ⟨w2.heap.size, 0, none⟩) 1 1, .slice (some ⟨w2.heap.size + 1, 0, none⟩) 0 0] 28)).heap.size := by simp
  clear hR1 hb3 hS hz3 hb4 hz4 hb5
  go_wp2_with fail
  generalize ((w2.alloc (.cells #[.string s2] 9)).alloc (.cells #[] 9)).alloc (.cells #[.string s1, .slice (some ⟨w2.heap.size, 0, none⟩) 1 1, .slice (some ⟨w2.heap.size + 1, 0, none⟩) 0 0] 28) = W4 at *
  have HNA : Hid (∀ q, (Value.slice (some ⟨w2.heap.size, 0, none⟩) 1 1).ownBlock = some q → q ≠ w2.heap.size + 1 + 1) := fun q hq => by
    have : some w2.heap.size = some q := hq
    injection this with this; omega
  have HNB : Hid (∀ q, (Value.slice (some ⟨w2.heap.size + 1, 0, none⟩) 0 0).ownBlock = some q → q ≠ w2.heap.size + 1 + 1) := fun q hq => by
    have : some (w2.heap.size + 1) = some q := hq
    injection this with this; omega
  have hKR : w2.heap.size + 1 + 1 ≠ R := by omega
  have hKw : w.heap.size + 1 ≤ w2.heap.size + 1 + 1 := by omega
  generalize w2.heap.size + 1 + 1 = K at *
  generalize hU0 : Value.slice (some ⟨w2.heap.size + 1, 0, none⟩) 0 0 = U0 at *
  obtain ⟨bb, hbb⟩ : ∃ bb : Option Addr, U0 = .slice bb 0 0 := ⟨_, hU0.symm⟩
  subst hbb
  clear hU0
  generalize some (⟨w2.heap.size, 0, none⟩ : Addr) = aa at *
  clear hzZ hs2 ht2 HZ2 HZ1 HZ0 hr2 hrZ hbZ
  refine (pick_any R p2 3 W4 hr4 (by omega) (by omega)).mono ?_
  rintro e w5 ⟨m0, rfl, hm0, hr5, ht5⟩
  have hs5 := ht5.size
  have HZ5 := Lib.hid (HZ4.out.touch ht5 (by omega))
  have HK5 := Lib.hid (HK4.out.touch ht5 hKR)
  have HS5 := Lib.hid (HS4.out.touch ht5 (by omega))
  have hT5 := hT4.trans ht5
  have hK5 : K < w5.heap.size := by omega
  clear HZ4 HK4 HS4
  go_wp2_with fail
  go_loopw [4] (fun i wr => ∃ (m : Int) (acc : List (List UInt8)) (a : Option Addr) (d p' : Nat), 0 ≤ m ∧ m + acc.length ≤ 4 ∧ i = .int .i64 m ∧ p ≤ p' ∧ p' + m ≤ p + 5 ∧ St2 (w.heap.size + 1) wr (.slice a acc.length d) acc (.slice bb 0 0) [] ∧ (∀ q, (Value.slice a acc.length d).ownBlock = some q → q ≠ K) ∧ (∀ x ∈ acc, x.length ≤ 40) ∧ MF3 wr K (.string s1) (.slice a acc.length d) (.slice bb 0 0) ∧ MF3 wr w.heap.size (.string ⟨#[]⟩) (.slice none 0 0) (.slice none 0 0) ∧ Rd wr R p' ∧ Touch R w wr ∧ K < wr.heap.size) (fun i _ => (intOf i).toNat)
  case atStart => exact ⟨_, [s2.data.toList], aa, 1, p2 + 1, by omega, by simp; omega, rfl, by omega, by omega, HS5.out, HNA.out, (fun x hx => by rw [List.mem_singleton.1 hx]; show s2.data.toList.length ≤ 40; rw [size_list]; omega), HK5.out, HZ5.out, hr5, hT5, hK5⟩
  case round =>
    clear hr1 hr4 hr5 ht1 hT2 hT4 ht5 hT5 hs1 hs5 hK5 HZ5 HK5 HS5 hm0
    obtain ⟨m, acc, a, d, p', hm0, hml, rfl, hp1, hp2, hst, hnk, hacc, hk, hz, hrd, ht, hKr⟩ := hrel
    have HACC := Lib.hid hacc
    have HNK := Lib.hid hnk
    have HKK := Lib.hid hk
    have HZZ := Lib.hid hz
    have HST := Lib.hid hst
    have hszr := ht.size
    clear hacc hnk hk hz hst
    by_cases hmp : 0 < m
    · go_wp2_with fail
      have HB : Hid (∀ u, Touch R wr u → u.cell? ⟨K, 1, none⟩ = some (.slice a acc.length d)) := fun u hu => (HKK.out.touch hu hKR).1.2.1
      refine wp_region_tail (by kernel_rfl) ?_
      refine wpAny_tailW (touchOk R) (fuel := 6) (tf := 3) [6, 7, 8] (by kernel_rfl) ?_
      refine wpAnyW_take (touchOk R) (fuel := 3) [true, true, true] (by kernel_rfl) (by kernel_rfl) (by rfl) (by kernel_rfl) (by kernel_rfl) (by kernel_rfl) ?_
      apply Exists.intro
      refine ⟨fun x => ?_, ?_⟩
      · have y0 := fun (y : RelT Grow x.val) => HB.out y.val (((Touch.refl R wr).drew).trans (x.rel.trans (Touch.of_below y.rel)))
        simp only [pickL]
        repeat (go_big_quiet_step (fail))
        exact wpQuiet_nil rfl
      have T0 : Touch R wr wr.drew := (Touch.refl R wr).drew
      have R0 : Rd wr.drew R p' := hrd.below ((Below.refl _ _).drew)
      refine wpAnyW_one (m := 3) (by kernel_rfl) (fun u1 g1 => ?_)
      refine wpOp_at (o := _) (by rfl) (by rfl) ?_
      go_simp
      refine ⟨Touch.of_below ((Below.refl _ _).alloc (Nat.le_refl _) _), ?_⟩
      try simp only [Act.put, List.setIfInBounds_toArray, List.set_cons_zero, List.set_cons_succ]
      have S3 := strs_new u1 #[.string ⟨#[98, 111, 98, 64, 121, 46, 111, 114, 103]⟩, .string ⟨#[99, 121, 64, 120, 46, 111, 114, 103]⟩, .string ⟨#[66, 111, 98, 64, 121, 46, 111, 114, 103]⟩] 9 3 40 (by decide)
      have A3 : Below u1.heap.size u1 (u1.alloc (.cells #[.string ⟨#[98, 111, 98, 64, 121, 46, 111, 114, 103]⟩, .string ⟨#[99, 121, 64, 120, 46, 111, 114, 103]⟩, .string ⟨#[66, 111, 98, 64, 121, 46, 111, 114, 103]⟩] 9)) := (Below.refl _ _).alloc (Nat.le_refl _) _
      have T3 := T0.trans ((Touch.of_below g1).trans (Touch.of_below A3))
      have R3 := (R0.below g1).below A3
      have B3 : u1.heap.size ≠ R := by have := g1.size; have := T0.size; omega
      generalize u1.alloc (.cells #[.string ⟨#[98, 111, 98, 64, 121, 46, 111, 114, 103]⟩, .string ⟨#[99, 121, 64, 120, 46, 111, 114, 103]⟩, .string ⟨#[66, 111, 98, 64, 121, 46, 111, 114, 103]⟩] 9) = V3 at *
      refine wpAnyW_one (m := 4) (by kernel_rfl) (fun u2 g2 => ?_)
      refine wpOp_at (o := _) (by rfl) (by rfl) ?_
      go_simp
      replace S3 := S3.touch (Touch.of_below g2) B3
      refine (of_any R _ u1.heap.size 0 3 3 40 _ (R3.below g2) (by omega) B3 (by omega) (by omega) S3).mono ?_
      rintro e v4 ⟨sA, psA, rfl, gsA, fsA, ksA, RsA, tsA⟩
      refine ⟨tsA, ?_⟩
      try simp only [Act.put, List.setIfInBounds_toArray, List.set_cons_zero, List.set_cons_succ]
      have TsA := T3.trans ((Touch.of_below g2).trans tsA)
      clear S3
      refine wpAnyW_one (m := 5) (by kernel_rfl) (fun u9 g9 => ?_)
      refine wpOp_at (o := _) (by rfl) (by rfl) ?_
      go_simp
      refine ⟨Touch.of_below ((Below.refl _ _).alloc (Nat.le_refl _) _), ?_⟩
      try simp only [Act.put, List.setIfInBounds_toArray, List.set_cons_zero, List.set_cons_succ]
      have N0 : (u9.alloc (.cells #[.string sA] 9)).cell? ⟨u9.heap.size, 0, none⟩ = some (.string sA) := by rw [World.cell?_alloc_at _ _ _ _ rfl]; rfl
      have A9 : Below u9.heap.size u9 (u9.alloc (.cells #[.string sA] 9)) := (Below.refl _ _).alloc (Nat.le_refl _) _
      generalize u9.alloc (.cells #[.string sA] 9) = V9 at *
      refine wpAnyW_rest (by kernel_rfl) (fun u10 g10 => ?_)
      have b10 : Below v4.heap.size v4 u10 := nx (nx g9 A9) g10
      have T10 := TsA.trans (Touch.of_below b10)
      have R10 := RsA.below b10
      have hs10 := T10.size
      have HK10 := Lib.hid (HKK.out.touch T10 hKR)
      have HZ10 := Lib.hid (HZZ.out.touch T10 (by omega))
      have HS10 := Lib.hid (HST.out.touch T10 (by omega))
      have N1 := (below_at g10 (lt_of_cell N0)).trans N0
      refine wpAny_one (m := 6) (by kernel_rfl) ?_
      refine wpOp_at (o := _) (by rfl) (by rfl) ?_
      refine wp_append_H _ _ rfl (w.heap.size + 1) _ acc [sA.data.toList] (some ⟨u9.heap.size, 0, none⟩) 1 1 rfl rfl HS10.out.a (rd_one N1) (fun h => by cases h) (by omega) (by simp; omega) ?_
      intro v11 u11 o11 gr11 at11
      have b11 : Below (w.heap.size + 1) u10 u11 := grown_below HS10.out.a gr11 (by omega)
      have hs11 := b11.size
      have HK11 := Lib.hid (mf3_grown HK10.out gr11 HNK.out)
      have HZ11 := Lib.hid (mf3_grown HZ10.out gr11 (fun q hq => by have := (HS10.out.a.lt q hq).1; omega))
      have HS11 := Lib.hid ((St2.appR HS10.out.swap o11 gr11 at11).swap)
      have T11 := (ht.trans T10).ext (b11.mono (by omega))
      have R11 := R10.belowB b11 (by omega)
      have HN11 : Hid (∀ q, v11.ownBlock = some q → q ≠ K) := fun q hq => by
        rcases at11 with h | h
        · exact HNK.out q (h.symm.trans hq)
        · rw [h] at hq; injection hq with hq; omega
      obtain ⟨zs, hzs⟩ : ∃ zs, zs = acc ++ [sA.data.toList] := ⟨_, rfl⟩
      have hzl : zs.length ≤ acc.length + 1 := by rw [hzs]; simp
      have HZS : Hid (∀ x ∈ zs, x.length ≤ 40) := fun x hx => by
        rw [hzs] at hx
        rcases List.mem_append.1 hx with h | h
        · exact HACC.out x h
        · rw [List.mem_singleton.1 h, size_list]; omega
      rw [← hzs] at HS11 o11
      obtain ⟨a11, c11, rfl, _, _, _⟩ := o11.readc
      clear hzs o11 N0 N1 gr11 at11
      try simp only [Act.put, List.setIfInBounds_toArray]
      obtain ⟨⟨y0, y1, y2⟩, yf⟩ := HK11.out
      refine wpAny_one (m := 7) (by kernel_rfl) ?_
      refine wpOp_at (o := _) (by rfl) (by rfl) ?_
      go_simp
      try simp only [Act.put, List.setIfInBounds_toArray, List.set_cons_zero, List.set_cons_succ]
      refine wpAny_one (m := 8) (by kernel_rfl) ?_
      refine wpOp_at (o := _) (by rfl) (by rfl) ?_
      go_simp
      try simp only [Act.put]
      refine wpAny_end (by kernel_rfl) ?_ _
      have HS12 := Lib.hid (HS11.out.off (g := K) (i := 1) HN11.out HNB.out (.slice a11 zs.length c11))
      have HK12 := Lib.hid (HK11.out.set1 (.slice a11 zs.length c11))
      have HZ12 := Lib.hid (HZ11.out.off (h := K) (i := 1) (by omega) (.slice a11 zs.length c11))
      have T12 : Touch R w (u11.setCell ⟨K, 1, none⟩ (.slice a11 zs.length c11)) := touch_set T11 (by omega) _
      have R12 := R11.belowB ((Below.refl w.heap.size u11).setCell (p := ⟨K, 1, none⟩) (by show w.heap.size ≤ K; omega) (.slice a11 zs.length c11)) hRl
      have hK12 : K < (u11.setCell ⟨K, 1, none⟩ (.slice a11 zs.length c11)).heap.size := by simp; omega
      clear y0 y1 y2 yf
      generalize u11.setCell ⟨K, 1, none⟩ (.slice a11 zs.length c11) = V12 at *
      go_wp2
      go_roundw
      case rel => exact ⟨m - 1, zs, a11, c11, psA, by omega, by omega, by go_num, by omega, by omega, HS12.out, HN11.out, HZS.out, HK12.out, HZ12.out, R12, T12, hK12⟩
      case measure => simp [intOf]; omega
    · have hml1 : acc.length ≤ 4 := by omega
      go_wp2_with fail
      refine (numM_lit R p' 4 wr.heap.size [2, 3, 1, 0] 3 wr rfl hrd (by omega) rfl (by omega) (by omega)).mono ?_
      rintro e w8 ⟨m8, hm8, rfl, hr8, ht8⟩
      have hm8' : 0 ≤ m8 ∧ m8 ≤ 3 := by
        simp only [List.mem_cons, List.not_mem_nil, or_false] at hm8; omega
      have hs8 := ht8.size
      have HZ8 := Lib.hid (HZZ.out.touch ht8 (by omega))
      have HK8 := Lib.hid (HKK.out.touch ht8 hKR)
      have HS8 := Lib.hid (HST.out.touch ht8 (by omega))
      have hT8 := ht.trans ht8
      have hK8 : K < w8.heap.size := by omega
      clear hm8 HZZ HKK HST
      go_wp2_with fail
      go_loopw [5] (fun i wz => ∃ (m : Int) (bcc : List (List UInt8)) (b : Option Addr) (d2 p'' : Nat), 0 ≤ m ∧ m + bcc.length ≤ 3 ∧ i = .int .i64 m ∧ p ≤ p'' ∧ p'' + m ≤ p + 9 ∧ St2 (w.heap.size + 1) wz (.slice a acc.length d) acc (.slice b bcc.length d2) bcc ∧ (∀ q, (Value.slice b bcc.length d2).ownBlock = some q → q ≠ K) ∧ (∀ x ∈ bcc, x.length ≤ 40) ∧ MF3 wz K (.string s1) (.slice a acc.length d) (.slice b bcc.length d2) ∧ MF3 wz w.heap.size (.string ⟨#[]⟩) (.slice none 0 0) (.slice none 0 0) ∧ Rd wz R p'' ∧ Touch R w wz ∧ K < wz.heap.size) (fun i _ => (intOf i).toNat)
      case atStart => exact ⟨m8, [], bb, 0, p' + 1, hm8'.1, by simp; omega, rfl, by omega, by omega, HS8.out, HNB.out, (fun x hx => by cases hx), HK8.out, HZ8.out, hr8, hT8, hK8⟩
      case round =>
        clear hrd ht8 hr8 hT8 hs8 hK8 HZ8 HK8 HS8 hm8' ht hKr hszr hmp hm0 hml hp1 hp2
        obtain ⟨mB, bcc, b, d2, pB, hmB, hmlB, rfl, hpB1, hpB2, hst, hnk, hbcc, hk, hz, hrd, ht, hKr⟩ := hrel
        have HBCC := Lib.hid hbcc
        have HNK2 := Lib.hid hnk
        have HKK := Lib.hid hk
        have HZZ := Lib.hid hz
        have HST := Lib.hid hst
        have hszr := ht.size
        clear hbcc hnk hk hz hst
        by_cases hmp : 0 < mB
        · go_wp2_with fail
          have HB : Hid (∀ u, Touch R wr u → u.cell? ⟨K, 2, none⟩ = some (.slice b bcc.length d2)) := fun u hu => (HKK.out.touch hu hKR).1.2.2
          refine wp_region_tail (by kernel_rfl) ?_
          refine wpAny_tailW (touchOk R) (fuel := 6) (tf := 3) [6, 7, 8] (by kernel_rfl) ?_
          refine wpAnyW_take (touchOk R) (fuel := 3) [true, true, true] (by kernel_rfl) (by kernel_rfl) (by rfl) (by kernel_rfl) (by kernel_rfl) (by kernel_rfl) ?_
          apply Exists.intro
          refine ⟨fun x => ?_, ?_⟩
          · have y0 := fun (y : RelT Grow x.val) => HB.out y.val (((Touch.refl R wr).drew).trans (x.rel.trans (Touch.of_below y.rel)))
            simp only [pickL]
            repeat (go_big_quiet_step (fail))
            exact wpQuiet_nil rfl
          have T0 : Touch R wr wr.drew := (Touch.refl R wr).drew
          have R0 : Rd wr.drew R pB := hrd.below ((Below.refl _ _).drew)
          refine wpAnyW_one (m := 3) (by kernel_rfl) (fun u1 g1 => ?_)
          refine wpOp_at (o := _) (by rfl) (by rfl) ?_
          go_simp
          refine ⟨Touch.of_below ((Below.refl _ _).alloc (Nat.le_refl _) _), ?_⟩
          try simp only [Act.put, List.setIfInBounds_toArray, List.set_cons_zero, List.set_cons_succ]
          have S3 := strs_new u1 #[.string ⟨#[83, 117, 98, 106, 101, 99, 116, 58, 32, 120]⟩, .string ⟨#[]⟩, .string ⟨#[116, 101, 120, 116]⟩, .string ⟨#[46]⟩, .string ⟨#[46, 97]⟩, .string ⟨#[82, 101, 99, 101, 105, 118, 101, 100, 58, 32, 98, 121, 32, 104]⟩] 9 6 40 (by decide)
          have A3 : Below u1.heap.size u1 (u1.alloc (.cells #[.string ⟨#[83, 117, 98, 106, 101, 99, 116, 58, 32, 120]⟩, .string ⟨#[]⟩, .string ⟨#[116, 101, 120, 116]⟩, .string ⟨#[46]⟩, .string ⟨#[46, 97]⟩, .string ⟨#[82, 101, 99, 101, 105, 118, 101, 100, 58, 32, 98, 121, 32, 104]⟩] 9)) := (Below.refl _ _).alloc (Nat.le_refl _) _
          have T3 := T0.trans ((Touch.of_below g1).trans (Touch.of_below A3))
          have R3 := (R0.below g1).below A3
          have B3 : u1.heap.size ≠ R := by have := g1.size; have := T0.size; omega
          generalize u1.alloc (.cells #[.string ⟨#[83, 117, 98, 106, 101, 99, 116, 58, 32, 120]⟩, .string ⟨#[]⟩, .string ⟨#[116, 101, 120, 116]⟩, .string ⟨#[46]⟩, .string ⟨#[46, 97]⟩, .string ⟨#[82, 101, 99, 101, 105, 118, 101, 100, 58, 32, 98, 121, 32, 104]⟩] 9) = V3 at *
          refine wpAnyW_one (m := 4) (by kernel_rfl) (fun u2 g2 => ?_)
          refine wpOp_at (o := _) (by rfl) (by rfl) ?_
          go_simp
          replace S3 := S3.touch (Touch.of_below g2) B3
          refine (of_any R _ u1.heap.size 0 6 6 40 _ (R3.below g2) (by omega) B3 (by omega) (by omega) S3).mono ?_
          rintro e v4 ⟨sA, psA, rfl, gsA, fsA, ksA, RsA, tsA⟩
          refine ⟨tsA, ?_⟩
          try simp only [Act.put, List.setIfInBounds_toArray, List.set_cons_zero, List.set_cons_succ]
          have TsA := T3.trans ((Touch.of_below g2).trans tsA)
          clear S3
          refine wpAnyW_one (m := 5) (by kernel_rfl) (fun u9 g9 => ?_)
          refine wpOp_at (o := _) (by rfl) (by rfl) ?_
          go_simp
          refine ⟨Touch.of_below ((Below.refl _ _).alloc (Nat.le_refl _) _), ?_⟩
          try simp only [Act.put, List.setIfInBounds_toArray, List.set_cons_zero, List.set_cons_succ]
          have N0 : (u9.alloc (.cells #[.string sA] 9)).cell? ⟨u9.heap.size, 0, none⟩ = some (.string sA) := by rw [World.cell?_alloc_at _ _ _ _ rfl]; rfl
          have A9 : Below u9.heap.size u9 (u9.alloc (.cells #[.string sA] 9)) := (Below.refl _ _).alloc (Nat.le_refl _) _
          generalize u9.alloc (.cells #[.string sA] 9) = V9 at *
          refine wpAnyW_rest (by kernel_rfl) (fun u10 g10 => ?_)
          have b10 : Below v4.heap.size v4 u10 := nx (nx g9 A9) g10
          have T10 := TsA.trans (Touch.of_below b10)
          have R10 := RsA.below b10
          have hs10 := T10.size
          have HK10 := Lib.hid (HKK.out.touch T10 hKR)
          have HZ10 := Lib.hid (HZZ.out.touch T10 (by omega))
          have HS10 := Lib.hid (HST.out.touch T10 (by omega))
          have N1 := (below_at g10 (lt_of_cell N0)).trans N0
          refine wpAny_one (m := 6) (by kernel_rfl) ?_
          refine wpOp_at (o := _) (by rfl) (by rfl) ?_
          refine wp_append_H _ _ rfl (w.heap.size + 1) _ bcc [sA.data.toList] (some ⟨u9.heap.size, 0, none⟩) 1 1 rfl rfl HS10.out.b (rd_one N1) (fun h => by cases h) (by omega) (by simp; omega) ?_
          intro v11 u11 o11 gr11 at11
          have b11 : Below (w.heap.size + 1) u10 u11 := grown_below HS10.out.b gr11 (by omega)
          have hs11 := b11.size
          have HK11 := Lib.hid (mf3_grown HK10.out gr11 HNK2.out)
          have HZ11 := Lib.hid (mf3_grown HZ10.out gr11 (fun q hq => by have := (HS10.out.b.lt q hq).1; omega))
          have HS11 := Lib.hid (St2.appR HS10.out o11 gr11 at11)
          have T11 := (ht.trans T10).ext (b11.mono (by omega))
          have R11 := R10.belowB b11 (by omega)
          have HN11 : Hid (∀ q, v11.ownBlock = some q → q ≠ K) := fun q hq => by
            rcases at11 with h | h
            · exact HNK2.out q (h.symm.trans hq)
            · rw [h] at hq; injection hq with hq; omega
          obtain ⟨zs, hzs⟩ : ∃ zs, zs = bcc ++ [sA.data.toList] := ⟨_, rfl⟩
          have hzl : zs.length ≤ bcc.length + 1 := by rw [hzs]; simp
          have HZS : Hid (∀ x ∈ zs, x.length ≤ 40) := fun x hx => by
            rw [hzs] at hx
            rcases List.mem_append.1 hx with h | h
            · exact HBCC.out x h
            · rw [List.mem_singleton.1 h, size_list]; omega
          rw [← hzs] at HS11 o11
          obtain ⟨a11, c11, rfl, _, _, _⟩ := o11.readc
          clear hzs o11 N0 N1 gr11 at11
          try simp only [Act.put, List.setIfInBounds_toArray]
          obtain ⟨⟨y0, y1, y2⟩, yf⟩ := HK11.out
          refine wpAny_one (m := 7) (by kernel_rfl) ?_
          refine wpOp_at (o := _) (by rfl) (by rfl) ?_
          go_simp
          try simp only [Act.put, List.setIfInBounds_toArray, List.set_cons_zero, List.set_cons_succ]
          refine wpAny_one (m := 8) (by kernel_rfl) ?_
          refine wpOp_at (o := _) (by rfl) (by rfl) ?_
          go_simp
          try simp only [Act.put]
          refine wpAny_end (by kernel_rfl) ?_ _
          have HS12 := Lib.hid (HS11.out.off (g := K) (i := 2) HNK.out HN11.out (.slice a11 zs.length c11))
          have HK12 := Lib.hid (HK11.out.set2 (.slice a11 zs.length c11))
          have HZ12 := Lib.hid (HZ11.out.off (h := K) (i := 2) (by omega) (.slice a11 zs.length c11))
          have T12 : Touch R w (u11.setCell ⟨K, 2, none⟩ (.slice a11 zs.length c11)) := touch_set T11 (by omega) _
          have R12 := R11.belowB ((Below.refl w.heap.size u11).setCell (p := ⟨K, 2, none⟩) (by show w.heap.size ≤ K; omega) (.slice a11 zs.length c11)) hRl
          have hK12 : K < (u11.setCell ⟨K, 2, none⟩ (.slice a11 zs.length c11)).heap.size := by simp; omega
          clear y0 y1 y2 yf
          generalize u11.setCell ⟨K, 2, none⟩ (.slice a11 zs.length c11) = V12 at *
          go_wp2
          go_roundw
          case rel => exact ⟨mB - 1, zs, a11, c11, psA, by omega, by omega, by go_num, by omega, by omega, HS12.out, HN11.out, HZS.out, HK12.out, HZ12.out, R12, T12, hK12⟩
          case measure => simp [intOf]; omega
        · obtain ⟨⟨y0, y1, y2⟩, yf⟩ := HKK.out
          obtain ⟨⟨z0, z1, z2⟩, zf⟩ := HZZ.out
          have hzl : w.heap.size < wr.heap.size := by omega
          go_wp2
          refine bodyPost_ret (v := .agg #[.string s1, .slice a acc.length d, .slice b bcc.length d2]) (by simp [results, Tryd.results48, go_sem, z0, z1, z2]) rfl (drawnM_mk (p' := pB) (by omega) (by omega) HACC.out (by omega) HBCC.out ?_ (by omega) (by omega) ?_ ?_)
          · exact (((((HST.out.off (g := w.heap.size) (i := 0) (fun q hq => by have := (HST.out.a.lt q hq).1; omega) (fun q hq => by have := (HST.out.b.lt q hq).1; omega) _)).off (g := w.heap.size) (i := 1) (fun q hq => by have := (HST.out.a.lt q hq).1; omega) (fun q hq => by have := (HST.out.b.lt q hq).1; omega) _)).off (g := w.heap.size) (i := 2) (fun q hq => by have := (HST.out.a.lt q hq).1; omega) (fun q hq => by have := (HST.out.b.lt q hq).1; omega) _).base (by omega)
          · exact hrd.belowB ((((Below.refl w.heap.size wr).setCell (p := ⟨w.heap.size, 0, none⟩) (Nat.le_refl _) _).setCell (p := ⟨w.heap.size, 1, none⟩) (Nat.le_refl _) _).setCell (p := ⟨w.heap.size, 2, none⟩) (Nat.le_refl _) _) hRl
          · exact touch_set (touch_set (touch_set ht (Nat.le_refl _) _) (Nat.le_refl _) _) (Nat.le_refl _) _
end Go.Proofs.YtbfjbabpeigloabDoor
end

section
namespace Go.Proofs.YtbfjbabpeigloabDoor
open Go.RowKit

theorem two_malsC (w : World) (v0 v1 v2 u0 u1 u2 : Value) (t : TypeId) : Below w.heap.size w ((w.alloc (.cells #[v0, v1, v2] t)).alloc (.cells #[u0, u1, u2] t)) ∧ MK3 ((w.alloc (.cells #[v0, v1, v2] t)).alloc (.cells #[u0, u1, u2] t)) w.heap.size v0 v1 v2 ∧ MF3 ((w.alloc (.cells #[v0, v1, v2] t)).alloc (.cells #[u0, u1, u2] t)) (w.heap.size + 1) u0 u1 u2 ∧ w.heap.size + 1 < ((w.alloc (.cells #[v0, v1, v2] t)).alloc (.cells #[u0, u1, u2] t)).heap.size := by
  have hA : Below w.heap.size w (w.alloc (.cells #[v0, v1, v2] t)) := (Below.refl _ _).alloc (Nat.le_refl _) _
  have hB : Below (w.alloc (.cells #[v0, v1, v2] t)).heap.size (w.alloc (.cells #[v0, v1, v2] t)) ((w.alloc (.cells #[v0, v1, v2] t)).alloc (.cells #[u0, u1, u2] t)) := (Below.refl _ _).alloc (Nat.le_refl _) _
  have e : (w.alloc (.cells #[v0, v1, v2] t)).heap.size = w.heap.size + 1 := by simp
  have h := MF3.new (w.alloc (.cells #[v0, v1, v2] t)) u0 u1 u2 t
  rw [e] at h
  exact ⟨nx hA hB, (MK3.new w v0 v1 v2 t).below hB, h, by simp⟩
set_option maxRecDepth 100000 in
set_option maxHeartbeats 2000000 in
theorem copyMail_any (x : MlA) (w : World) (h : RdM 1048576 w x) :
    Calls Tryd.prog 78 #[.agg #[.string (str x.m.frm), .slice x.a1 x.m.to.length x.c1, .slice x.a2 x.m.lines.length x.c2]] w (MalRet x.m w) := by
  have HD : Hid (∀ (a1 : Option Addr) (c1 : Nat) (a2 : Option Addr) (c2 : Nat) (w' : World), OwnL w.heap.size (.slice a1 x.m.to.length c1) x.m.to w' → OwnL w.heap.size (.slice a2 x.m.lines.length c2) x.m.lines w' → (∀ g, (Value.slice a1 x.m.to.length c1).ownBlock = some g → (Value.slice a2 x.m.lines.length c2).ownBlock ≠ some g) → Below w.heap.size w w' → MalRet x.m w (.returned (.agg #[.string (str x.m.frm), .slice a1 x.m.to.length c1, .slice a2 x.m.lines.length c2])) w') :=
    fun a1 c1 a2 c2 w' h1 h2 h3 h4 => ⟨⟨x.m, a1, c1, a2, c2⟩, rfl, rfl, ⟨h1, h2, h3⟩, h4⟩
  have HT : Hid (∀ u, Below w.heap.size w u → Calls Tryd.prog 88 #[.slice x.a1 x.m.to.length x.c1] u fun e w' => ∃ a2 c2, e = .returned (.slice a2 x.m.to.length c2) ∧ OwnL u.heap.size (.slice a2 x.m.to.length c2) x.m.to w' ∧ Below u.heap.size u w') := fun u hb => cloneS_any _ _ _ x.m.to u (h.1.1.below hb) h.1.2.2 h.2.2.2.1
  have HL : Hid (∀ u, Below w.heap.size w u → Calls Tryd.prog 88 #[.slice x.a2 x.m.lines.length x.c2] u fun e w' => ∃ a2 c2, e = .returned (.slice a2 x.m.lines.length c2) ∧ OwnL u.heap.size (.slice a2 x.m.lines.length c2) x.m.lines w' ∧ Below u.heap.size u w') := fun u hb => cloneS_any _ _ _ x.m.lines u (h.2.1.1.below hb) h.2.1.2.2 h.2.2.2.2.2.1
  clear h
  generalize hxm : x.m = m at *
  clear hxm
  generalize str m.frm = s at *
  generalize m.to.length = n at *
  generalize m.lines.length = k at *
  generalize x.a1 = a at *
  generalize x.a2 = b at *
  generalize x.c1 = c at *
  generalize x.c2 = d at *
  obtain ⟨hb0, hx0, hz0, hzl⟩ := two_malsC w (.string s) (.slice a n c) (.slice b k d) (.string ⟨#[]⟩) (.slice none 0 0) (.slice none 0 0) 28
  have HX := Lib.hid hx0
  have HZ := Lib.hid hz0
  clear hx0 hz0
  go_enter Tryd.func78, Tryd.ntmps78
  go_wp2_with fail
  generalize ((w.alloc (.cells #[.string s, .slice a n c, .slice b k d] 28)).alloc (.cells #[.string ⟨#[]⟩, .slice none 0 0, .slice none 0 0] 28)) = W0 at *
  refine wp_region_tail (by kernel_rfl) ?_
  refine wpAny_tail (fuel := 9) (tf := 1) [9] (by kernel_rfl) ?_
  refine wpAnyZ_take (fuel := 3) [true, true, true, true, false, true, true] (by kernel_rfl) (by kernel_rfl) (by rfl) (by kernel_rfl) (by kernel_rfl) (by kernel_rfl) ?_
  apply Exists.intro
  refine ⟨fun x => ?_, ?_⟩
  · have y0 := fun (y : BelowT x.val) => (HX.out.below (nx ((Below.refl _ _).drew) (nx x.below y.below))).1
    have y1 := fun (y : BelowT x.val) => (HX.out.below (nx ((Below.refl _ _).drew) (nx x.below y.below))).2.1
    have y2 := fun (y : BelowT x.val) => (HX.out.below (nx ((Below.refl _ _).drew) (nx x.below y.below))).2.2
    simp only [pickL]
    repeat (go_big_quiet_step (fail))
    exact wpQuiet_nil rfl
  refine wpAnyZ_one (m := 4) (by kernel_rfl) (fun ua g1 => ?_)
  refine wpOp_at (o := _) (by rfl) (by rfl) ?_
  go_simp
  have hga : Below W0.heap.size W0 ua := nx ((Below.refl _ _).drew) g1
  refine (HT.out _ (nx hb0 hga)).mono ?_
  rintro e w1 ⟨p, q, rfl, ho1, hb1⟩
  refine ⟨hb1, ?_⟩
  try simp only [Act.put, List.setIfInBounds_toArray, List.set_cons_zero, List.set_cons_succ]
  refine wpAnyZ_one (m := 7) (by kernel_rfl) (fun ub g2 => ?_)
  refine wpOp_at (o := _) (by rfl) (by rfl) ?_
  go_simp
  have hgb : Below W0.heap.size W0 ub := nx hga (nx hb1 g2)
  refine (HL.out _ (nx hb0 hgb)).mono ?_
  rintro e w2 ⟨p2, q2, rfl, ho2, hb2⟩
  refine ⟨hb2, ?_⟩
  try simp only [Act.put, List.setIfInBounds_toArray, List.set_cons_zero, List.set_cons_succ]
  refine wpAnyZ_take (fuel := 0) [false, false, false, false, false, false, false, false, true] (by kernel_rfl) (by kernel_rfl) (by rfl) (by kernel_rfl) (by kernel_rfl) (by kernel_rfl) ?_
  apply Exists.intro
  refine ⟨fun x => ?_, ?_⟩
  · skip
    simp only [pickL]
    repeat (go_big_quiet_step (fail))
    exact wpQuiet_nil rfl
  refine wpAnyZ_rest (by kernel_rfl) (fun uc g3 => ?_)
  have hgc : Below W0.heap.size W0 uc := nx hgb (nx hb2 g3)
  have HO1 : Hid (OwnL W0.heap.size (.slice p n q) m.to uc) := ((ho1.keep (nx g2 (nx hb2 g3))).base hga.size)
  have HO2 : Hid (OwnL W0.heap.size (.slice p2 k q2) m.lines uc) := (ho2.keep g3).base hgb.size
  have HAP : Hid (∀ g, (Value.slice p n q).ownBlock = some g → (Value.slice p2 k q2).ownBlock ≠ some g) := own_apart ho1 ho2 g2.size
  have hb0c := nx hb0 hgc
  obtain ⟨⟨q0, q1', q2'⟩, qf⟩ := HZ.out.below hgc
  clear g1 g2 g3 ho1 ho2 hb1 hb2 hga hgb hgc
  refine wpAny_one (m := 9) (by kernel_rfl) ?_
  refine wpOp_at (o := _) (by rfl) (by rfl) ?_
  go_simp
  try simp only [Act.put]
  refine wpAny_end (by kernel_rfl) ?_ _
  go_wp2
  refine bodyPost_ret (v := .agg #[.string s, .slice p n q, .slice p2 k q2]) (by simp [results, Tryd.results78, go_sem, q0, q1', q2']) rfl ?_
  exact HD.out p q p2 q2 _ ((((HO1.out.off (g := w.heap.size + 1) (i := 0) (by omega) _).off (g := w.heap.size + 1) (i := 1) (by omega) _).off (g := w.heap.size + 1) (i := 2) (by omega) _).base (by omega)) ((((HO2.out.off (g := w.heap.size + 1) (i := 0) (by omega) _).off (g := w.heap.size + 1) (i := 1) (by omega) _).off (g := w.heap.size + 1) (i := 2) (by omega) _).base (by omega)) HAP.out (((hb0c.setCell (by show w.heap.size ≤ w.heap.size + 1; omega) _).setCell (by show w.heap.size ≤ w.heap.size + 1; omega) _).setCell (by show w.heap.size ≤ w.heap.size + 1; omega) _)
theorem mlInfoC : (Tryd.prog.info? 28).map (fun i => (i.zero, i.size, i.bytes)) = some (some (.agg #[.string ⟨#[]⟩, .slice none 0 0, .slice none 0 0]), 3, 64) := by kernel_rfl
/-- Two mails that share no row. -/
def ApM (x y : MlA) : Prop := ∀ g, ((Value.slice x.a1 x.m.to.length x.c1).ownBlock = some g ∨ (Value.slice x.a2 x.m.lines.length x.c2).ownBlock = some g) → ¬ ((Value.slice y.a1 y.m.to.length y.c1).ownBlock = some g ∨ (Value.slice y.a2 y.m.lines.length y.c2).ownBlock = some g)
theorem apM_new {B C : Nat} {u w : World} {x y : MlA} (hx : OwnM B u x) (hy : OwnM C w y) (hc : u.heap.size ≤ C) : ApM x y := fun g h h' => by
  have h1 : g < u.heap.size := by
    rcases h with h | h
    · exact (hx.1.lt g h).2
    · exact (hx.2.1.lt g h).2
  have h2 : C ≤ g := by
    rcases h' with h' | h'
    · exact (hy.1.lt g h').1
    · exact (hy.2.1.lt g h').1
  omega
/-- A row of mails of the call's own, each with rows of its own. -/
def OwnMs (B : Nat) (v : Value) (xs : List MlA) (w : World) : Prop := OwnR 28 3 mlC B v xs w ∧ (∀ x ∈ xs, OwnM B w x) ∧ xs.Pairwise ApM
theorem OwnMs.keep {B : Nat} {v : Value} {xs : List MlA} {w w' : World} (h : OwnMs B v xs w) (k : Below w.heap.size w w') : OwnMs B v xs w' := ⟨h.1.keep k, fun x hx => (h.2.1 x hx).keep k, h.2.2⟩
theorem OwnMs.base {B C : Nat} {v : Value} {xs : List MlA} {w : World} (h : OwnMs B v xs w) (k : C ≤ B) : OwnMs C v xs w := ⟨h.1.base k, fun x hx => (h.2.1 x hx).base k, h.2.2⟩
theorem OwnMs.nil (B : Nat) (w : World) : OwnMs B (.slice none 0 0) [] w := ⟨OwnR.nil _ _ _ _ _, (fun x hx => by cases hx), List.Pairwise.nil⟩
theorem OwnMs.new {B C : Nat} {v : Value} {xs : List MlA} {u w : World} {y : MlA} (h : OwnMs B v xs u) (hy : OwnM C w y) (hc : u.heap.size ≤ C) : ∀ x ∈ xs, ApM x y := fun x hx => apM_new (h.2.1 x hx) hy hc
theorem OwnMs.read {B M : Nat} {v : Value} {xs : List MlA} {w : World} (h : OwnMs B v xs w) (hs : ∀ x ∈ xs, SmallM M x.m) : ∃ a c, v = .slice a xs.length c ∧ RdMs M w a xs ∧ xs.length ≤ maxLen ∧ xs.length ≤ c := by
  obtain ⟨a, c, e, h1, h2, h3⟩ := h.1.read mlC_len
  exact ⟨a, c, e, ⟨h1, fun x hx => (h.2.1 x hx).rd (hs x hx)⟩, h2, h3⟩
/-- A row of strings lies in no block of mails. -/
theorem strs_mails {B C : Nat} {v u : Value} {xs : List MlA} {ys : List (List UInt8)} {w : World} (h : OwnR 28 3 mlC B v xs w) (h' : OwnL C u ys w) : ∀ g, u.ownBlock = some g → v.ownBlock ≠ some g := fun g hu hv => by
  rcases h.2 with ⟨e, _⟩ | ⟨g1, cap1, cur1, e1, _, hg1, _⟩
  · rw [e] at hv; cases hv
  · rcases h'.2 with ⟨e, _⟩ | ⟨g2, cap2, cur2, e2, _, hg2, _⟩
    · rw [e] at hu; cases hu
    · subst e1 e2
      have a1 : some g1 = some g := hv
      have a2 : some g2 = some g := hu
      injection a1 with a1
      injection a2 with a2
      subst a1 a2
      rw [hg1] at hg2
      injection hg2 with hg2
      injection hg2 with _ ht
      exact absurd ht (by decide)
theorem OwnM.grown {B : Nat} {w w' : World} {x : MlA} {o : Option Nat} (h : OwnM B w x) (hg : w.grownBy w' o) (h1 : ∀ g, (Value.slice x.a1 x.m.to.length x.c1).ownBlock = some g → o ≠ some g) (h2 : ∀ g, (Value.slice x.a2 x.m.lines.length x.c2).ownBlock = some g → o ≠ some g) : OwnM B w' x :=
  ⟨h.1.grown hg h1, h.2.1.grown hg h2, h.2.2⟩
set_option maxRecDepth 100000 in
set_option maxHeartbeats 400000 in
/-- One mail behind a row of the call's own. -/
theorem wpList_append_M {ops : Array Oper} {rest : List Oper} {o : Oper} {Q : Exit → Act → World → Prop} {a : Act} {w : World} (hg : Region.wanted o (yielded ops a.tmps) = true) (s x : Operand)
    (ho : o.op = .call { callee := .builtin .append, args := #[s, x], argTypes := #[33, 33] })
    (B : Nat) (v : Value) (xs : List MlA) (y : MlA) (b : Nat) (hs : a.eval s = v) (hx : a.eval x = .slice (some ⟨b, 0, none⟩) 1 1) (hown : OwnMs B v xs w) (hy : OwnM B w y) (hc : MK3 w b (.string (str y.m.frm)) (.slice y.a1 y.m.to.length y.c1) (.slice y.a2 y.m.lines.length y.c2)) (hB : B ≤ w.heap.size) (hl : xs.length ≤ 1000000) (hap : ∀ x ∈ xs, ApM x y)
    (h : ∀ v' w', OwnMs B v' (xs ++ [y]) w' → Below B w w' → wpList Tryd.prog ops Q rest (a.put o.dst v') w') : wpList Tryd.prog ops Q (o :: rest) a w := by
  obtain ⟨i0, hi, hz0, hz1, hz2⟩ := info_parts mlInfoC
  refine wpList_unguardL hg ?_
  have hown1 := hown.1
  unfold OwnR at hown1
  refine wpList_append_own_at w rfl s x 33 ho B 28 i0 (.agg #[.string ⟨#[]⟩, .slice none 0 0, .slice none 0 0]) 3 64 Tryd.underlying33 hi hz0 hz1 hz2 rfl (by decide) v xs.length (xs.flatMap mlC) hs hown1 ⟨b, 0, none⟩ 1 1 (mlC y) hx (mlC_len y) ?_ ?_ ?_ ?_ hB ?_
  · intro j z hj
    rw [addr_add]
    match j, hj with
    | 0, hj => injection hj with hj; subst hj; exact hc.1
    | 1, hj => injection hj with hj; subst hj; exact hc.2.1
    | 2, hj => injection hj with hj; subst hj; exact hc.2.2
    | j + 3, hj => cases hj
  · intro z hz
    unfold mlC at hz
    simp at hz
    rcases hz with rfl | rfl | rfl <;> rfl
  · unfold maxLen; omega
  · omega
  · intro v' w' ho' hgr _ hat
    have hb : Below B w w' := (Below.refl _ _).grown hgr hB (fun k hk => (World.ownsRow.lt hown1 k hk).1)
    have key : ∀ z : MlA, OwnM B w z → OwnM B w' z := fun z hz => hz.grown hgr (fun g hq => strs_mails hown.1 hz.1 g hq) (fun g hq => strs_mails hown.1 hz.2.1 g hq)
    refine h v' w' ⟨OwnR.snoc ho', fun z hz => ?_, List.pairwise_append.2 ⟨hown.2.2, List.pairwise_singleton _ _, fun z hz u hu => by rw [List.mem_singleton.1 hu]; exact hap z hz⟩⟩ hb
    rcases List.mem_append.1 hz with hz | hz
    · exact key z (hown.2.1 z hz)
    · rw [List.mem_singleton.1 hz]; exact key y hy
/-- A row of mails of the call's own is returned. -/
def MlsRet (ms : List Ml) (w : World) (e : Ending) (w' : World) : Prop := ∃ (v : Value) (ys : List MlA), e = .returned v ∧ ys.map (·.m) = ms ∧ OwnMs w.heap.size v ys w' ∧ Below w.heap.size w w'
theorem mlsRet_mk {ms : List Ml} {w w' : World} {v : Value} {ys : List MlA} (h : ys.map (·.m) = ms) (h1 : OwnMs w.heap.size v ys w') (hb : Below w.heap.size w w') : MlsRet ms w (.returned v) w' := ⟨v, ys, rfl, h, h1, hb⟩
set_option maxRecDepth 100000 in
set_option maxHeartbeats 4000000 in
theorem copyMails_any (a : Option Addr) (n c : Nat) (xs : List MlA) (w : World) (hx : xs.length = n) (h1 : RdMs 1048576 w a xs) (hn : n ≤ 1000000) :
    Calls Tryd.prog 61 #[.slice a n c] w (MlsRet (xs.map (·.m)) w) := by
  have L1 := Lib.hid hx
  have X1 := Lib.hid h1
  clear hx h1
  go_enter Tryd.func61, Tryd.ntmps61
  go_wp2_with fail
  go_loopw [3, 8] (fun v i wr => ∃ (k : Nat) (ys : List MlA), k ≤ n ∧ i = .int .i64 k ∧ ys.length = k ∧ ys.map (·.m) = (xs.take k).map (·.m) ∧ OwnMs w.heap.size v ys wr ∧ Below w.heap.size w wr) (fun _ i _ => n - (intOf i).toNat)
  case atStart => exact ⟨0, [], Nat.zero_le _, rfl, rfl, by simp, OwnMs.nil _ _, Below.refl _ _⟩
  case round =>
    obtain ⟨k, ys, hk, rfl, hyl, hym, hown, hb⟩ := hrel
    obtain ⟨a3, c3, hv3, _⟩ := hown.1.read mlC_len
    rw [hyl] at hv3
    subst hv3
    have HO := Lib.hid hown
    have HYM := Lib.hid hym
    have HYL := Lib.hid hyl
    clear hown hym hyl
    have hsz := hb.size
    by_cases hlt : k < n
    · have j1 : k < xs.length := by rw [L1.out]; exact hlt
      obtain ⟨b1, o1, rfl, hb1, p0, p1, p2, p3⟩ := (X1.out.below hb).at j1
      have hkn : (k : Int) < (n : Int) := by omega
      have hk0 : (0 : Int) ≤ (k : Int) := by omega
      have hA : Below wr.heap.size wr (wr.alloc (.cells #[.string (str xs[k].m.frm), .slice xs[k].a1 xs[k].m.to.length xs[k].c1, .slice xs[k].a2 xs[k].m.lines.length xs[k].c2] 28)) := (Below.refl _ _).alloc (Nat.le_refl _) _
      have HC : Hid (∀ u, Below wr.heap.size wr u → Calls Tryd.prog 78 #[.agg #[.string (str xs[k].m.frm), .slice xs[k].a1 xs[k].m.to.length xs[k].c1, .slice xs[k].a2 xs[k].m.lines.length xs[k].c2]] u (MalRet xs[k].m u)) := fun u hu => copyMail_any xs[k] u (p3.below hu)
      have HT := Lib.hid (take_mls j1)
      clear p3
      generalize xs[k] = x at *
      go_wp2_with fail
      refine (HC.out _ hA).mono ?_
      rintro e w5 ⟨y, hyx, rfl, hoy, hb5⟩
      have hb05 := nx hb (nx hA hb5)
      have hsz5 := hb05.size
      have hA5 : Below w5.heap.size w5 (w5.alloc (.cells #[.string (str y.m.frm), .slice y.a1 y.m.to.length y.c1, .slice y.a2 y.m.lines.length y.c2] 28)) := (Below.refl _ _).alloc (Nat.le_refl _) _
      have HO5 : Hid (OwnMs w.heap.size (.slice a3 k c3) ys (w5.alloc (.cells #[.string (str y.m.frm), .slice y.a1 y.m.to.length y.c1, .slice y.a2 y.m.lines.length y.c2] 28))) := HO.out.keep (nx (nx hA hb5) hA5)
      have HY5 : Hid (OwnM w.heap.size (w5.alloc (.cells #[.string (str y.m.frm), .slice y.a1 y.m.to.length y.c1, .slice y.a2 y.m.lines.length y.c2] 28)) y) := (hoy.keep hA5).base (by have := hA.size; omega)
      have HK5 := Lib.hid (MK3.new w5 (.string (str y.m.frm)) (.slice y.a1 y.m.to.length y.c1) (.slice y.a2 y.m.lines.length y.c2) 28)
      have HYX : Hid ((ys ++ [y]).map (·.m) = (xs.take (k + 1)).map (·.m)) := by show _ = _; rw [HT.out, List.map_append, HYM.out]; show _ ++ [y.m] = _; rw [hyx]
      have hmV : mlV y = .agg #[.string (str y.m.frm), .slice y.a1 y.m.to.length y.c1, .slice y.a2 y.m.lines.length y.c2] := rfl
      rw [hmV]
      have HNW := Lib.hid (HO.out.new hoy hA.size)
      have hb06 := nx hb05 hA5
      clear hyx hoy hmV p0 p1 p2
      go_wp2_with (at_builtin; refine wpList_append_M rfl _ _ rfl w.heap.size _ ys y w5.heap.size rfl rfl HO5.out HY5.out HK5.out ?c2 ?c3 HNW.out ?_)
      case c2 => simp; omega
      case c3 => have := HYL.out; omega
      intro v' w6 hO6 hb6
      have hb7 : Below w.heap.size w w6 := hb06.trans hb6
      obtain ⟨a6, c6, hv6, _⟩ := hO6.1.read mlC_len
      have hyl6 : (ys ++ [y]).length = k + 1 := by rw [List.length_append, HYL.out]; rfl
      rw [hyl6] at hv6
      subst hv6
      have HYL6 := Lib.hid hyl6
      have HO6 := Lib.hid hO6
      clear hO6 hb6 hyl6
      go_wp2
      go_roundw
      case rel => exact ⟨k + 1, ys ++ [y], by omega, by go_num, HYL6.out, HYX.out, HO6.out, hb7⟩
      case measure => simp [intOf]; omega
    · have HE : Hid (ys.map (·.m) = xs.map (·.m)) := by show _ = _; rw [HYM.out, List.take_of_length_le (by have := L1.out; omega)]
      go_wp2
      go_ret
      exact mlsRet_mk HE.out HO.out hb
end Go.Proofs.YtbfjbabpeigloabDoor
end

section
namespace Go.Proofs.YtbfjbabpeigloabDoor
open Go.RowKit

theorem bxInfoC : (Tryd.prog.info? 35).map (fun i => (i.zero, i.size, i.bytes)) = some (some (.agg #[.string ⟨#[]⟩, .slice none 0 0]), 2, 40) := by kernel_rfl
/-- Two boxes that share no row. -/
def ApB (x y : BxA) : Prop := (∀ g, (Value.slice x.a x.xs.length x.c).ownBlock = some g → (Value.slice y.a y.xs.length y.c).ownBlock ≠ some g) ∧ ∀ m ∈ x.xs, ∀ m' ∈ y.xs, ApM m m'
theorem apB_new {B C : Nat} {u w : World} {x y : BxA} (hx : OwnMs B (.slice x.a x.xs.length x.c) x.xs u) (hy : OwnMs C (.slice y.a y.xs.length y.c) y.xs w) (hc : u.heap.size ≤ C) : ApB x y :=
  ⟨fun g h h' => by
    have h1 := (hx.1.lt g h).2
    have h2 := (hy.1.lt g h').1
    omega, fun m hm m' hm' => apM_new (hx.2.1 m hm) (hy.2.1 m' hm') hc⟩
/-- A row of boxes of the call's own, each with a row of mails of its own. -/
def OwnBs (B : Nat) (v : Value) (xs : List BxA) (w : World) : Prop := OwnR 35 2 bxC B v xs w ∧ (∀ x ∈ xs, OwnMs B (.slice x.a x.xs.length x.c) x.xs w) ∧ xs.Pairwise ApB
theorem OwnBs.keep {B : Nat} {v : Value} {xs : List BxA} {w w' : World} (h : OwnBs B v xs w) (k : Below w.heap.size w w') : OwnBs B v xs w' := ⟨h.1.keep k, fun x hx => (h.2.1 x hx).keep k, h.2.2⟩
theorem OwnBs.base {B C : Nat} {v : Value} {xs : List BxA} {w : World} (h : OwnBs B v xs w) (k : C ≤ B) : OwnBs C v xs w := ⟨h.1.base k, fun x hx => (h.2.1 x hx).base k, h.2.2⟩
theorem OwnBs.nil (B : Nat) (w : World) : OwnBs B (.slice none 0 0) [] w := ⟨OwnR.nil _ _ _ _ _, (fun x hx => by cases hx), List.Pairwise.nil⟩
theorem OwnBs.new {B C : Nat} {v : Value} {xs : List BxA} {u w : World} {y : BxA} (h : OwnBs B v xs u) (hy : OwnMs C (.slice y.a y.xs.length y.c) y.xs w) (hc : u.heap.size ≤ C) : ∀ x ∈ xs, ApB x y := fun x hx => apB_new (h.2.1 x hx) hy hc
theorem OwnMs.rd {B M : Nat} {a : Option Addr} {n c : Nat} {xs : List MlA} {w : World} (h : OwnMs B (.slice a n c) xs w) (hs : ∀ x ∈ xs, SmallM M x.m) : RdMs M w a xs ∧ xs.length = n := by
  obtain ⟨a', c', e, h1, _⟩ := h.read hs
  injection e with e1 e2 e3
  subst e1
  exact ⟨h1, e2.symm⟩
/-- No row of mails lies in a block of boxes. -/
theorem mails_boxes {B C : Nat} {v u : Value} {xs : List BxA} {ys : List MlA} {w : World} (h : OwnR 35 2 bxC B v xs w) (h' : OwnR 28 3 mlC C u ys w) : ∀ g, u.ownBlock = some g → v.ownBlock ≠ some g := fun g hu hv => by
  rcases h.2 with ⟨e, _⟩ | ⟨g1, cap1, cur1, e1, _, hg1, _⟩
  · rw [e] at hv; cases hv
  · rcases h'.2 with ⟨e, _⟩ | ⟨g2, cap2, cur2, e2, _, hg2, _⟩
    · rw [e] at hu; cases hu
    · subst e1 e2
      have a1 : some g1 = some g := hv
      have a2 : some g2 = some g := hu
      injection a1 with a1
      injection a2 with a2
      subst a1 a2
      rw [hg1] at hg2
      injection hg2 with hg2
      injection hg2 with _ ht
      exact absurd ht (by decide)
/-- No row of strings lies in a block of boxes. -/
theorem strs_boxes {B C : Nat} {v u : Value} {xs : List BxA} {ys : List (List UInt8)} {w : World} (h : OwnR 35 2 bxC B v xs w) (h' : OwnL C u ys w) : ∀ g, u.ownBlock = some g → v.ownBlock ≠ some g := fun g hu hv => by
  rcases h.2 with ⟨e, _⟩ | ⟨g1, cap1, cur1, e1, _, hg1, _⟩
  · rw [e] at hv; cases hv
  · rcases h'.2 with ⟨e, _⟩ | ⟨g2, cap2, cur2, e2, _, hg2, _⟩
    · rw [e] at hu; cases hu
    · subst e1 e2
      have a1 : some g1 = some g := hv
      have a2 : some g2 = some g := hu
      injection a1 with a1
      injection a2 with a2
      subst a1 a2
      rw [hg1] at hg2
      injection hg2 with hg2
      injection hg2 with _ ht
      exact absurd ht (by decide)
theorem OwnMs.grownBx {B C : Nat} {v u : Value} {xs : List BxA} {ys : List MlA} {w w' : World} (h : OwnR 35 2 bxC B v xs w) (hy : OwnMs C u ys w) (hg : w.grownBy w' v.ownBlock) : OwnMs C u ys w' := by
  refine ⟨?_, fun y hyy => (hy.2.1 y hyy).grown hg (fun g hq => strs_boxes h (hy.2.1 y hyy).1 g hq) (fun g hq => strs_boxes h (hy.2.1 y hyy).2.1 g hq), hy.2.2⟩
  have h1 := hy.1
  unfold OwnR at h1 ⊢
  exact World.ownsRow.kept h1 hg (by
    cases hub : u.ownBlock with
    | none => exact .inl rfl
    | some g => exact .inr (fun e => mails_boxes h hy.1 g hub e.symm))
set_option maxRecDepth 100000 in
set_option maxHeartbeats 400000 in
/-- One box behind a row of the call's own. -/
theorem wp_append_B {o : Oper} {Q : Exit → Act → World → Prop} {K : Act → World → Prop} {a : Act} {w : World} (s x : Operand)
    (ho : o.op = .call { callee := .builtin .append, args := #[s, x], argTypes := #[23, 23] })
    (B : Nat) (v : Value) (xs : List BxA) (y : BxA) (b : Nat) (hs : a.eval s = v) (hx : a.eval x = .slice (some ⟨b, 0, none⟩) 1 1) (hown : OwnBs B v xs w) (hy : OwnMs B (.slice y.a y.xs.length y.c) y.xs w) (hc : MK2 w b (.string (str y.path)) (.slice y.a y.xs.length y.c)) (hB : B ≤ w.heap.size) (hl : xs.length ≤ 1000000) (hap : ∀ x ∈ xs, ApB x y)
    (h : ∀ v' w', OwnBs B v' (xs ++ [y]) w' → Below B w w' → K (a.put o.dst v') w') : o.wp Tryd.prog a w K Q := by
  obtain ⟨i0, hi, hz0, hz1, hz2⟩ := info_parts bxInfoC
  have hown1 := hown.1
  unfold OwnR at hown1
  obtain ⟨v', w', hr, h2, h3, _, _⟩ := run_append_own_at (P := Tryd.prog) w B 23 o.type 35 i0 (.agg #[.string ⟨#[]⟩, .slice none 0 0]) 2 40 Tryd.underlying23 hi hz0 hz1 hz2 rfl (by decide) v xs.length (xs.flatMap bxC) hown1 ⟨b, 0, none⟩ 1 1 (bxC y) (bxC_len y)
    (fun j u hu => by
      rw [addr_add]
      match j, hu with
      | 0, hu => injection hu with hu; subst hu; exact hc.1
      | 1, hu => injection hu with hu; subst hu; exact hc.2
      | j + 2, hu => cases hu)
    (fun z hz => by
      unfold bxC at hz
      simp at hz
      rcases hz with rfl | rfl <;> rfl) (by unfold maxLen; omega) (by omega) hB
  have hb : Below B w w' := (Below.refl _ _).grown h3 hB (fun k hk => (World.ownsRow.lt hown1 k hk).1)
  unfold Oper.wp execOp
  simp only [ho, resolve, invoke, builtin, Sem.run_bind, Sem.run_pure, Result.andThen_ok, List.map_toArray, List.map_cons, List.map_nil, hs, hx, hr]
  refine h v' w' ⟨OwnR.snoc h2, fun z hz => ?_, List.pairwise_append.2 ⟨hown.2.2, List.pairwise_singleton _ _, fun z hz u hu => by rw [List.mem_singleton.1 hu]; exact hap z hz⟩⟩ hb
  rcases List.mem_append.1 hz with hz | hz
  · exact OwnMs.grownBx hown.1 (hown.2.1 z hz) h3
  · rw [List.mem_singleton.1 hz]; exact OwnMs.grownBx hown.1 hy h3
/-- A row of boxes of the call's own is returned. -/
def BxsRet (bs : List Bx) (w : World) (e : Ending) (w' : World) : Prop := ∃ (v : Value) (ys : List BxA), e = .returned v ∧ ys.map BxA.b = bs ∧ OwnBs w.heap.size v ys w' ∧ Below w.heap.size w w'
theorem bxsRet_mk {bs : List Bx} {w w' : World} {v : Value} {ys : List BxA} (h : ys.map BxA.b = bs) (h1 : OwnBs w.heap.size v ys w') (hb : Below w.heap.size w w') : BxsRet bs w (.returned v) w' := ⟨v, ys, rfl, h, h1, hb⟩
set_option maxRecDepth 100000 in
set_option maxHeartbeats 4000000 in
theorem copyBoxes_any (a : Option Addr) (n c : Nat) (xs : List BxA) (w : World) (hx : xs.length = n) (h1 : RdBs 1000000 w a xs) (hn : n ≤ 1000000) :
    Calls Tryd.prog 34 #[.slice a n c] w (BxsRet (xs.map BxA.b) w) := by
  have L1 := Lib.hid hx
  have X1 := Lib.hid h1
  clear hx h1
  go_enter Tryd.func34, Tryd.ntmps34
  go_wp2_with fail
  go_loopw [3, 8] (fun v i wr => ∃ (k : Nat) (ys : List BxA), k ≤ n ∧ i = .int .i64 k ∧ ys.length = k ∧ ys.map BxA.b = (xs.take k).map BxA.b ∧ OwnBs w.heap.size v ys wr ∧ Below w.heap.size w wr) (fun _ i _ => n - (intOf i).toNat)
  case atStart => exact ⟨0, [], Nat.zero_le _, rfl, rfl, by simp, OwnBs.nil _ _, Below.refl _ _⟩
  case round =>
    obtain ⟨k, ys, hk, rfl, hyl, hym, hown, hb⟩ := hrel
    obtain ⟨a3, c3, hv3, _⟩ := hown.1.read bxC_len
    rw [hyl] at hv3
    subst hv3
    have HO := Lib.hid hown
    have HYM := Lib.hid hym
    have HYL := Lib.hid hyl
    clear hown hym hyl
    have hsz := hb.size
    by_cases hlt : k < n
    · have j1 : k < xs.length := by rw [L1.out]; exact hlt
      obtain ⟨b1, o1, rfl, hb1, p0, p1, p3⟩ := (X1.out.below hb).at j1
      have hkn : (k : Int) < (n : Int) := by omega
      have hk0 : (0 : Int) ≤ (k : Int) := by omega
      have hA : Below wr.heap.size wr (wr.alloc (.cells #[.string (str xs[k].path), .slice xs[k].a xs[k].xs.length xs[k].c] 35)) := (Below.refl _ _).alloc (Nat.le_refl _) _
      have HKX := Lib.hid (MK2.new wr (.string (str xs[k].path)) (.slice xs[k].a xs[k].xs.length xs[k].c) 35)
      have HC : Hid (∀ u, Below wr.heap.size wr u → Calls Tryd.prog 61 #[.slice xs[k].a xs[k].xs.length xs[k].c] u (MlsRet xs[k].b.mails u)) := fun u hu => copyMails_any _ _ _ xs[k].xs u rfl ((p3.below hu).1.up (fun y hy => ((p3.1.2 y hy).2.2).up (by omega))) p3.2.2.1
      have HT := Lib.hid (take_bxs j1)
      have HSM : Hid (∀ m ∈ xs[k].b.mails, SmallM 1000000 m) := fun m hm => by
        obtain ⟨y, hy, rfl⟩ := List.mem_map.1 hm
        exact (p3.1.2 y hy).2.2
      have HPB : Hid (xs[k].b.path = xs[k].path) := rfl
      clear p3
      generalize xs[k].b = bb at *
      generalize xs[k].path = pp at *
      generalize xs[k].xs.length = nn at *
      generalize xs[k].a = aa at *
      generalize xs[k].c = cc at *
      go_wp2_with fail
      generalize hU : wr.alloc (.cells #[.string (str pp), .slice aa nn cc] 35) = U1 at *
      clear hU p0 p1
      refine wp_region_tail (by kernel_rfl) ?_
      refine wpAny_tail (fuel := 8) (tf := 2) [8, 9] (by kernel_rfl) ?_
      refine wpAnyZ_take (fuel := 3) [true, true, true, true, true] (by kernel_rfl) (by kernel_rfl) (by rfl) (by kernel_rfl) (by kernel_rfl) (by kernel_rfl) ?_
      apply Exists.intro
      refine ⟨fun x => ?_, ?_⟩
      · have y0 := fun (y : BelowT x.val) => (HKX.out.below (nx ((Below.refl _ _).drew) (nx x.below y.below))).1
        have y1 := fun (y : BelowT x.val) => (HKX.out.below (nx ((Below.refl _ _).drew) (nx x.below y.below))).2
        simp only [pickL]
        repeat (go_big_quiet_step (fail))
        exact wpQuiet_nil rfl
      refine wpAnyZ_one (m := 5) (by kernel_rfl) (fun ua g1 => ?_)
      refine wpOp_at (o := _) (by rfl) (by rfl) ?_
      go_simp
      have hga : Below wr.heap.size wr ua := nx hA (nx ((Below.refl _ _).drew) g1)
      refine (HC.out _ hga).mono ?_
      rintro e w5 ⟨v5, ms, rfl, hms, ho5, hb5⟩
      refine ⟨hb5, ?_⟩
      obtain ⟨a5, c5, hv5, _⟩ := ho5.1.read mlC_len
      subst hv5
      have HNW : Hid (∀ x ∈ ys, ApB x ⟨pp, ms, a5, c5⟩) := HO.out.new (y := ⟨pp, ms, a5, c5⟩) ho5 hga.size
      try simp only [Act.put, List.setIfInBounds_toArray, List.set_cons_zero, List.set_cons_succ]
      refine wpAnyZ_take (fuel := 1) [false, false, false, false, false, false, true] (by kernel_rfl) (by kernel_rfl) (by rfl) (by kernel_rfl) (by kernel_rfl) (by kernel_rfl) ?_
      apply Exists.intro
      refine ⟨fun x => ?_, ?_⟩
      · skip
        simp only [pickL]
        repeat (go_big_quiet_step (fail))
        exact wpQuiet_nil rfl
      refine wpAnyZ_one (m := 7) (by kernel_rfl) (fun ub g2 => ?_)
      refine wpOp_at (o := _) (by rfl) (by rfl) ?_
      go_simp
      refine ⟨(Below.refl _ _).alloc (Nat.le_refl _) _, ?_⟩
      try simp only [Act.put, List.setIfInBounds_toArray, List.set_cons_zero, List.set_cons_succ]
      have HK7 := MK2.new ub (.string (str pp)) (.slice a5 ms.length c5) 35
      have hg7 : Below wr.heap.size wr (ub.alloc (.cells #[.string (str pp), .slice a5 ms.length c5] 35)) := nx (nx hga (nx hb5 g2)) ((Below.refl _ _).alloc (Nat.le_refl _) _)
      have HM7 : OwnMs w.heap.size (.slice a5 ms.length c5) ms (ub.alloc (.cells #[.string (str pp), .slice a5 ms.length c5] 35)) := ((ho5.keep g2).keep ((Below.refl _ _).alloc (Nat.le_refl _) _)).base (by have := hga.size; omega)
      generalize ub.alloc (.cells #[.string (str pp), .slice a5 ms.length c5] 35) = V7 at *
      generalize ub.heap.size = X7 at HK7 ⊢
      refine wpAnyZ_rest (by kernel_rfl) (fun uc g3 => ?_)
      have hg8 : Below wr.heap.size wr uc := nx hg7 g3
      have HYX : Hid ((ys ++ [(⟨pp, ms, a5, c5⟩ : BxA)]).map BxA.b = (xs.take (k + 1)).map BxA.b) := by
        show _ = _
        rw [HT.out, List.map_append, HYM.out]
        have : BxA.b (⟨pp, ms, a5, c5⟩ : BxA) = bb := by show Bx.mk pp (ms.map (·.m)) = bb; rw [hms, ← HPB.out]
        simp only [List.map_cons, List.map_nil, this]
      refine wpAny_one (m := 8) (by kernel_rfl) ?_
      refine wpOp_at (o := _) (by rfl) (by rfl) ?_
      refine wp_append_B _ _ rfl w.heap.size _ ys ⟨pp, ms, a5, c5⟩ X7 rfl rfl (HO.out.keep hg8) (HM7.keep g3) (HK7.below g3) (Nat.le_trans hsz hg8.size) (by have := HYL.out; omega) HNW.out ?_
      intro v8 w8 hO8 hb8
      have hb08 : Below w.heap.size w w8 := (nx hb hg8).trans hb8
      obtain ⟨a8, c8, hv8, _⟩ := hO8.1.read bxC_len
      have hyl8 : (ys ++ [(⟨pp, ms, a5, c5⟩ : BxA)]).length = k + 1 := by rw [List.length_append, HYL.out]; rfl
      rw [hyl8] at hv8
      subst hv8
      have HYL8 := Lib.hid hyl8
      have HO8 := Lib.hid hO8
      clear hO8 hb8 hyl8 hms ho5 hb5 g1 g2 g3 hga hg7 hg8 HM7 HK7
      try simp only [Act.put, List.setIfInBounds_toArray]
      refine wpAny_one (m := 9) (by kernel_rfl) ?_
      refine wpOp_at (o := _) (by rfl) (by rfl) ?_
      go_simp
      try simp only [Act.put]
      refine wpAny_end (by kernel_rfl) ?_ _
      go_wp2
      go_roundw
      case rel => exact ⟨k + 1, ys ++ [⟨pp, ms, a5, c5⟩], by omega, by go_num, HYL8.out, HYX.out, HO8.out, hb08⟩
      case measure => simp [intOf]; omega
    · have HE : Hid (ys.map BxA.b = xs.map BxA.b) := by show _ = _; rw [HYM.out, List.take_of_length_le (by have := L1.out; omega)]
      go_wp2
      go_ret
      exact bxsRet_mk HE.out HO.out hb
end Go.Proofs.YtbfjbabpeigloabDoor
end

section
namespace Go.Proofs.YtbfjbabpeigloabDoor
open Go.RowKit

/-- A mail laid twice, both places open for stores. -/
theorem two_malsF (w : World) (v0 v1 v2 u0 u1 u2 : Value) (t : TypeId) : Below w.heap.size w ((w.alloc (.cells #[v0, v1, v2] t)).alloc (.cells #[u0, u1, u2] t)) ∧ MF3 ((w.alloc (.cells #[v0, v1, v2] t)).alloc (.cells #[u0, u1, u2] t)) w.heap.size v0 v1 v2 ∧ MF3 ((w.alloc (.cells #[v0, v1, v2] t)).alloc (.cells #[u0, u1, u2] t)) (w.heap.size + 1) u0 u1 u2 ∧ w.heap.size + 1 < ((w.alloc (.cells #[v0, v1, v2] t)).alloc (.cells #[u0, u1, u2] t)).heap.size := by
  obtain ⟨h1, _, h3, h4⟩ := two_malsC w v0 v1 v2 u0 u1 u2 t
  exact ⟨h1, (MF3.new w v0 v1 v2 t).below ((Below.refl _ _).alloc (Nat.le_refl _) _), h3, h4⟩
set_option maxRecDepth 100000 in
set_option maxHeartbeats 2000000 in
theorem ownMail_any (x : MlA) (w : World) (h : RdM 1048576 w x) :
    Calls Tryd.prog 38 #[.agg #[.string (str x.m.frm), .slice x.a1 x.m.to.length x.c1, .slice x.a2 x.m.lines.length x.c2]] w (MalRet x.m w) := by
  have HD : Hid (∀ (a1 : Option Addr) (c1 : Nat) (a2 : Option Addr) (c2 : Nat) (w' : World), OwnL w.heap.size (.slice a1 x.m.to.length c1) x.m.to w' → OwnL w.heap.size (.slice a2 x.m.lines.length c2) x.m.lines w' → (∀ g, (Value.slice a1 x.m.to.length c1).ownBlock = some g → (Value.slice a2 x.m.lines.length c2).ownBlock ≠ some g) → Below w.heap.size w w' → MalRet x.m w (.returned (.agg #[.string (str x.m.frm), .slice a1 x.m.to.length c1, .slice a2 x.m.lines.length c2])) w') :=
    fun a1 c1 a2 c2 w' h1 h2 h3 h4 => ⟨⟨x.m, a1, c1, a2, c2⟩, rfl, rfl, ⟨h1, h2, h3⟩, h4⟩
  have Q1 : Hid (∀ u, Below w.heap.size w u → RdL u x.a1 x.m.to.length x.m.to) := fun u hu => h.1.1.below hu
  have Q2 : Hid (∀ u, Below w.heap.size w u → RdL u x.a2 x.m.lines.length x.m.lines) := fun u hu => h.2.1.1.below hu
  have N1 := Lib.hid h.1.2.2
  have N2 := Lib.hid h.2.1.2.2
  have Z1 : Hid (x.m.to.length ≤ 1048576) := h.2.2.2.1
  have Z2 : Hid (x.m.lines.length ≤ 1048576) := h.2.2.2.2.2.1
  clear h
  generalize hxm : x.m = m at *
  clear hxm
  generalize str m.frm = s at *
  generalize hn : m.to.length = n at *
  generalize hk : m.lines.length = k at *
  have HN := Lib.hid hn
  have HK := Lib.hid hk
  clear hn hk
  generalize x.a1 = a at *
  generalize x.a2 = b at *
  generalize x.c1 = c at *
  generalize x.c2 = d at *
  obtain ⟨hb0, hx0, hz0, hzl⟩ := two_malsF w (.string s) (.slice a n c) (.slice b k d) (.string ⟨#[]⟩) (.slice none 0 0) (.slice none 0 0) 28
  have HX := Lib.hid hx0
  have HZ := Lib.hid hz0
  clear hx0 hz0
  go_enter Tryd.func38, Tryd.ntmps38
  go_upto_region 1 with fail
  generalize ((w.alloc (.cells #[.string s, .slice a n c, .slice b k d] 28)).alloc (.cells #[.string ⟨#[]⟩, .slice none 0 0, .slice none 0 0] 28)) = W0 at *
  have hA0 : Below W0.heap.size W0 (W0.alloc (.cells #[] 9)) := (Below.refl _ _).alloc (Nat.le_refl _) _
  have HO0 := Lib.hid (OwnL.empty W0)
  obtain ⟨⟨x0, x1, x2⟩, xf⟩ := HX.out.below hA0
  go_wp2_with (at_builtin; refine wpList_append_RL rfl _ _ rfl W0.heap.size _ [] m.to a n c rfl rfl HO0.out (Q1.out _ (nx hb0 hA0)) N1.out ?c2 ?c3 ?_)
  case c2 => simp
  case c3 => have := HN.out; have := Z1.out; simp; omega
  intro v1 w1 ho1 hg1 _
  have hb1 : Below W0.heap.size W0 w1 := hA0.grown hg1 (by simp) (fun g hg => (HO0.out.lt g hg).1)
  obtain ⟨a1, c1, hv1, _⟩ := ho1.readc
  replace ho1 : OwnL W0.heap.size v1 m.to w1 := ho1
  replace hv1 : v1 = .slice a1 m.to.length c1 := hv1
  rw [HN.out] at hv1
  subst hv1
  have HO1 := Lib.hid ho1
  have HX1 := Lib.hid (HX.out.below hb1)
  have HZ1 := Lib.hid (HZ.out.below hb1)
  clear ho1 hg1 hA0 x0 x1 x2 xf
  obtain ⟨⟨x0, x1, x2⟩, xf⟩ := HX1.out
  go_upto_region 2 with fail
  clear x0 x1 x2 xf
  have HX2 := Lib.hid (HX1.out.set1 (.slice a1 n c1))
  have HZ2 := Lib.hid (HZ1.out.off (h := w.heap.size) (i := 1) (by omega) (.slice a1 n c1))
  have HO2 := Lib.hid (HO1.out.off (g := w.heap.size) (i := 1) (by omega) (.slice a1 n c1))
  have hb2 : Below w.heap.size w (w1.setCell ⟨w.heap.size, 1, none⟩ (.slice a1 n c1)) := (nx hb0 hb1).setCell (Nat.le_refl _) _
  have hs2 : W0.heap.size ≤ (w1.setCell ⟨w.heap.size, 1, none⟩ (.slice a1 n c1)).heap.size := by have := hb1.size; simpa [World.setCell] using this
  generalize w1.setCell ⟨w.heap.size, 1, none⟩ (.slice a1 n c1) = w2 at *
  clear HX1 HZ1 HO1 hb1
  have hA2 : Below w2.heap.size w2 (w2.alloc (.cells #[] 9)) := (Below.refl _ _).alloc (Nat.le_refl _) _
  have HO20 := Lib.hid (OwnL.empty w2)
  obtain ⟨⟨x0, x1, x2⟩, xf⟩ := HX2.out.below hA2
  go_wp2_with (at_builtin; refine wpList_append_RL rfl _ _ rfl w2.heap.size _ [] m.lines b k d rfl rfl HO20.out (Q2.out _ (nx hb2 hA2)) N2.out ?d2 ?d3 ?_)
  case d2 => simp
  case d3 => have := HK.out; have := Z2.out; simp; omega
  intro v3 w3 ho3 hg3 _
  have hb3 : Below w2.heap.size w2 w3 := hA2.grown hg3 (by simp) (fun g hg => (HO20.out.lt g hg).1)
  obtain ⟨a3, c3, hv3, _⟩ := ho3.readc
  replace ho3 : OwnL w2.heap.size v3 m.lines w3 := ho3
  replace hv3 : v3 = .slice a3 m.lines.length c3 := hv3
  rw [HK.out] at hv3
  subst hv3
  have HO3 := Lib.hid ho3
  have HAP := Lib.hid (own_apart HO2.out ho3 (Nat.le_refl _))
  have HX3 := Lib.hid (HX2.out.below hb3)
  have HZ3 := Lib.hid (HZ2.out.below hb3)
  have HO23 := Lib.hid (HO2.out.keep hb3)
  clear ho3 hg3 hA2 x0 x1 x2 xf
  obtain ⟨⟨x0, x1, x2⟩, xf⟩ := HX3.out
  go_upto_region 3 with fail
  clear x0 x1 x2 xf
  have HX4 := Lib.hid (HX3.out.set2 (.slice a3 k c3))
  have HZ4 := Lib.hid (HZ3.out.off (h := w.heap.size) (i := 2) (by omega) (.slice a3 k c3))
  have HO4 := Lib.hid (HO23.out.off (g := w.heap.size) (i := 2) (by omega) (.slice a3 k c3))
  have HO34 := Lib.hid ((HO3.out.base hs2).off (g := w.heap.size) (i := 2) (by omega) (.slice a3 k c3))
  have hb4 : Below w.heap.size w (w3.setCell ⟨w.heap.size, 2, none⟩ (.slice a3 k c3)) := (nx hb2 hb3).setCell (Nat.le_refl _) _
  generalize w3.setCell ⟨w.heap.size, 2, none⟩ (.slice a3 k c3) = w4 at *
  clear HX3 HZ3 HO23 HO3 hb3
  obtain ⟨⟨x0, x1, x2⟩, xf⟩ := HX4.out
  obtain ⟨⟨q0, q1, q2⟩, qf⟩ := HZ4.out
  go_wp2
  refine bodyPost_ret (v := .agg #[.string s, .slice a1 n c1, .slice a3 k c3]) (by simp [results, Tryd.results38, go_sem, q0, q1, q2]) rfl ?_
  exact HD.out a1 c1 a3 c3 _ ((((HO4.out.off (g := w.heap.size + 1) (i := 0) (by omega) _).off (g := w.heap.size + 1) (i := 1) (by omega) _).off (g := w.heap.size + 1) (i := 2) (by omega) _).base (by omega)) ((((HO34.out.off (g := w.heap.size + 1) (i := 0) (by omega) _).off (g := w.heap.size + 1) (i := 1) (by omega) _).off (g := w.heap.size + 1) (i := 2) (by omega) _).base (by omega)) HAP.out (((hb4.setCell (by show w.heap.size ≤ w.heap.size + 1; omega) _).setCell (by show w.heap.size ≤ w.heap.size + 1; omega) _).setCell (by show w.heap.size ≤ w.heap.size + 1; omega) _)
set_option maxRecDepth 100000 in
set_option maxHeartbeats 4000000 in
theorem ownListMail_any (a : Option Addr) (n c : Nat) (xs : List MlA) (w : World) (hx : xs.length = n) (h1 : RdMs 1048576 w a xs) (hn : n ≤ 1000000) :
    Calls Tryd.prog 79 #[.slice a n c] w (MlsRet (xs.map (·.m)) w) := by
  have L1 := Lib.hid hx
  have X1 := Lib.hid h1
  clear hx h1
  go_enter Tryd.func79, Tryd.ntmps79
  go_wp2_with fail
  go_loopw [3, 9] (fun v i wr => ∃ (k : Nat) (ys : List MlA), k ≤ n ∧ i = .int .i64 k ∧ ys.length = k ∧ ys.map (·.m) = (xs.take k).map (·.m) ∧ OwnMs w.heap.size v ys wr ∧ Below w.heap.size w wr) (fun _ i _ => n - (intOf i).toNat)
  case atStart => exact ⟨0, [], Nat.zero_le _, rfl, rfl, by simp, ⟨OwnR.empty _ _ _ w, (fun x hx => by cases hx), List.Pairwise.nil⟩, (Below.refl _ _).alloc (Nat.le_refl _) _⟩
  case round =>
    obtain ⟨k, ys, hk, rfl, hyl, hym, hown, hb⟩ := hrel
    obtain ⟨a3, c3, hv3, _⟩ := hown.1.read mlC_len
    rw [hyl] at hv3
    subst hv3
    have HO := Lib.hid hown
    have HYM := Lib.hid hym
    have HYL := Lib.hid hyl
    clear hown hym hyl
    have hsz := hb.size
    by_cases hlt : k < n
    · have j1 : k < xs.length := by rw [L1.out]; exact hlt
      obtain ⟨b1, o1, rfl, hb1, p0, p1, p2, p3⟩ := (X1.out.below hb).at j1
      have hkn : (k : Int) < (n : Int) := by omega
      have hk0 : (0 : Int) ≤ (k : Int) := by omega
      have hA : Below wr.heap.size wr (wr.alloc (.cells #[.string (str xs[k].m.frm), .slice xs[k].a1 xs[k].m.to.length xs[k].c1, .slice xs[k].a2 xs[k].m.lines.length xs[k].c2] 28)) := (Below.refl _ _).alloc (Nat.le_refl _) _
      have HC : Hid (∀ u, Below wr.heap.size wr u → Calls Tryd.prog 38 #[.agg #[.string (str xs[k].m.frm), .slice xs[k].a1 xs[k].m.to.length xs[k].c1, .slice xs[k].a2 xs[k].m.lines.length xs[k].c2]] u (MalRet xs[k].m u)) := fun u hu => ownMail_any xs[k] u (p3.below hu)
      have HT := Lib.hid (take_mls j1)
      clear p3
      generalize xs[k] = x at *
      go_wp2_with fail
      refine (HC.out _ hA).mono ?_
      rintro e w5 ⟨y, hyx, rfl, hoy, hb5⟩
      have hb05 := nx hb (nx hA hb5)
      have hsz5 := hb05.size
      have hA5 : Below w5.heap.size w5 (w5.alloc (.cells #[.string (str y.m.frm), .slice y.a1 y.m.to.length y.c1, .slice y.a2 y.m.lines.length y.c2] 28)) := (Below.refl _ _).alloc (Nat.le_refl _) _
      have HO5 : Hid (OwnMs w.heap.size (.slice a3 k c3) ys (w5.alloc (.cells #[.string (str y.m.frm), .slice y.a1 y.m.to.length y.c1, .slice y.a2 y.m.lines.length y.c2] 28))) := HO.out.keep (nx (nx hA hb5) hA5)
      have HY5 : Hid (OwnM w.heap.size (w5.alloc (.cells #[.string (str y.m.frm), .slice y.a1 y.m.to.length y.c1, .slice y.a2 y.m.lines.length y.c2] 28)) y) := (hoy.keep hA5).base (by have := hA.size; omega)
      have HK5 := Lib.hid (MK3.new w5 (.string (str y.m.frm)) (.slice y.a1 y.m.to.length y.c1) (.slice y.a2 y.m.lines.length y.c2) 28)
      have HYX : Hid ((ys ++ [y]).map (·.m) = (xs.take (k + 1)).map (·.m)) := by show _ = _; rw [HT.out, List.map_append, HYM.out]; show _ ++ [y.m] = _; rw [hyx]
      have hmV : mlV y = .agg #[.string (str y.m.frm), .slice y.a1 y.m.to.length y.c1, .slice y.a2 y.m.lines.length y.c2] := rfl
      rw [hmV]
      have HNW := Lib.hid (HO.out.new hoy hA.size)
      have hb06 := nx hb05 hA5
      clear hyx hoy hmV p0 p1 p2
      go_wp2_with (at_builtin; refine wpList_append_M rfl _ _ rfl w.heap.size _ ys y w5.heap.size rfl rfl HO5.out HY5.out HK5.out ?c2 ?c3 HNW.out ?_)
      case c2 => simp; omega
      case c3 => have := HYL.out; omega
      intro v' w6 hO6 hb6
      have hb7 : Below w.heap.size w w6 := hb06.trans hb6
      obtain ⟨a6, c6, hv6, _⟩ := hO6.1.read mlC_len
      have hyl6 : (ys ++ [y]).length = k + 1 := by rw [List.length_append, HYL.out]; rfl
      rw [hyl6] at hv6
      subst hv6
      have HYL6 := Lib.hid hyl6
      have HO6 := Lib.hid hO6
      clear hO6 hb6 hyl6
      go_wp2
      go_roundw
      case rel => exact ⟨k + 1, ys ++ [y], by omega, by go_num, HYL6.out, HYX.out, HO6.out, hb7⟩
      case measure => simp [intOf]; omega
    · have HE : Hid (ys.map (·.m) = xs.map (·.m)) := by show _ = _; rw [HYM.out, List.take_of_length_le (by have := L1.out; omega)]
      go_wp2
      go_ret
      exact mlsRet_mk HE.out HO.out hb
set_option maxRecDepth 100000 in
set_option maxHeartbeats 400000 in
/-- One box behind a row of the call's own, in a list of operations. -/
theorem wpList_append_BL {ops : Array Oper} {rest : List Oper} {o : Oper} {Q : Exit → Act → World → Prop} {a : Act} {w : World} (hg : Region.wanted o (yielded ops a.tmps) = true) (s x : Operand)
    (ho : o.op = .call { callee := .builtin .append, args := #[s, x], argTypes := #[23, 23] })
    (B : Nat) (v : Value) (xs : List BxA) (y : BxA) (b : Nat) (hs : a.eval s = v) (hx : a.eval x = .slice (some ⟨b, 0, none⟩) 1 1) (hown : OwnBs B v xs w) (hy : OwnMs B (.slice y.a y.xs.length y.c) y.xs w) (hc : MK2 w b (.string (str y.path)) (.slice y.a y.xs.length y.c)) (hB : B ≤ w.heap.size) (hl : xs.length ≤ 1000000) (hap : ∀ x ∈ xs, ApB x y)
    (h : ∀ v' w', OwnBs B v' (xs ++ [y]) w' → Below B w w' → wpList Tryd.prog ops Q rest (a.put o.dst v') w') : wpList Tryd.prog ops Q (o :: rest) a w := by
  obtain ⟨i0, hi, hz0, hz1, hz2⟩ := info_parts bxInfoC
  refine wpList_unguardL hg ?_
  have hown1 := hown.1
  unfold OwnR at hown1
  refine wpList_append_own_at w rfl s x 23 ho B 35 i0 (.agg #[.string ⟨#[]⟩, .slice none 0 0]) 2 40 Tryd.underlying23 hi hz0 hz1 hz2 rfl (by decide) v xs.length (xs.flatMap bxC) hs hown1 ⟨b, 0, none⟩ 1 1 (bxC y) hx (bxC_len y) ?_ ?_ ?_ ?_ hB ?_
  · intro j z hj
    rw [addr_add]
    match j, hj with
    | 0, hj => injection hj with hj; subst hj; exact hc.1
    | 1, hj => injection hj with hj; subst hj; exact hc.2
    | j + 2, hj => cases hj
  · intro z hz
    unfold bxC at hz
    simp at hz
    rcases hz with rfl | rfl <;> rfl
  · unfold maxLen; omega
  · omega
  · intro v' w' ho' hgr _ hat
    have hb : Below B w w' := (Below.refl _ _).grown hgr hB (fun k hk => (World.ownsRow.lt hown1 k hk).1)
    refine h v' w' ⟨OwnR.snoc ho', fun z hz => ?_, List.pairwise_append.2 ⟨hown.2.2, List.pairwise_singleton _ _, fun z hz u hu => by rw [List.mem_singleton.1 hu]; exact hap z hz⟩⟩ hb
    rcases List.mem_append.1 hz with hz | hz
    · exact OwnMs.grownBx hown.1 (hown.2.1 z hz) hgr
    · rw [List.mem_singleton.1 hz]; exact OwnMs.grownBx hown.1 hy hgr
/-- Two cells of a block that can be written. -/
def FB2 (w : World) (g : Nat) (v0 v1 : Value) : Prop := MK2 w g v0 v1 ∧ ∀ i, w.frozen? ⟨g, i, none⟩ = false
theorem FB2.new (w : World) (v0 v1 : Value) (t : TypeId) : FB2 (w.alloc (.cells #[v0, v1] t)) w.heap.size v0 v1 := ⟨MK2.new w v0 v1 t, fun i => by rw [World.frozen?_alloc_at _ _ _ _ rfl]⟩
theorem FB2.below {w w' : World} {g : Nat} {v0 v1 : Value} (h : FB2 w g v0 v1) (hb : Below w.heap.size w w') : FB2 w' g v0 v1 := ⟨h.1.below hb, fun i => (below_fz hb (lt_of_cell h.1.1)).trans (h.2 i)⟩
/-- A box whose row of mails is the call's own. -/
def BxOwn (b : Bx) (w : World) (e : Ending) (w' : World) : Prop := ∃ y : BxA, y.b = b ∧ e = .returned (.agg #[.string (str y.path), .slice y.a y.xs.length y.c]) ∧ OwnMs w.heap.size (.slice y.a y.xs.length y.c) y.xs w' ∧ Below w.heap.size w w'
theorem OwnMs.off {B g i : Nat} {w : World} {v : Value} {xs : List MlA} (h : OwnMs B v xs w) (hg : g < B) (u : Value) : OwnMs B v xs (w.setCell ⟨g, i, none⟩ u) := by
  exact ⟨h.1.touch (Touch.setCell w g i u) hg, fun x hx => ⟨(h.2.1 x hx).1.off hg u, (h.2.1 x hx).2.1.off hg u, (h.2.1 x hx).2.2⟩, h.2.2⟩
set_option maxRecDepth 100000 in
set_option maxHeartbeats 2000000 in
theorem ownBox_any (x : BxA) (w : World) (h : RdBx 1000000 w x) :
    Calls Tryd.prog 63 #[.agg #[.string (str x.path), .slice x.a x.xs.length x.c]] w (BxOwn x.b w) := by
  have HD : Hid (∀ (a' : Option Addr) (ys : List MlA) (c' : Nat) (w' : World), ys.map (·.m) = x.xs.map (·.m) → OwnMs w.heap.size (.slice a' ys.length c') ys w' → Below w.heap.size w w' → BxOwn x.b w (.returned (.agg #[.string (str x.path), .slice a' ys.length c'])) w') := fun a' ys c' w' h1 h2 h3 => ⟨⟨x.path, ys, a', c'⟩, by unfold BxA.b; dsimp only; rw [h1], rfl, h2, h3⟩
  have HM : Hid (∀ u, Below w.heap.size w u → Calls Tryd.prog 79 #[.slice x.a x.xs.length x.c] u (MlsRet (x.xs.map (·.m)) u)) := fun u hb => ownListMail_any x.a x.xs.length x.c x.xs u rfl ((h.below hb).1.up (fun y hy => ((h.1.2 y hy).2.2).up (by omega))) h.2.2.1
  clear h
  generalize x.b = bb at *
  generalize x.xs.map (·.m) = ms at *
  generalize x.xs.length = n1 at *
  generalize str x.path = s1 at *
  generalize x.a = a1 at *
  generalize x.c = c1 at *
  have hbP : Below w.heap.size w (w.alloc (.cells #[.string s1, .slice a1 n1 c1] 35)) := (Below.refl _ _).alloc (Nat.le_refl _) _
  have hbZ : Below (w.alloc (.cells #[.string s1, .slice a1 n1 c1] 35)).heap.size (w.alloc (.cells #[.string s1, .slice a1 n1 c1] 35)) ((w.alloc (.cells #[.string s1, .slice a1 n1 c1] 35)).alloc (.cells #[.string ⟨#[]⟩, .slice none 0 0] 35)) := (Below.refl _ _).alloc (Nat.le_refl _) _
  have hz1 : (w.alloc (.cells #[.string s1, .slice a1 n1 c1] 35)).heap.size = w.heap.size + 1 := by simp
  have HP := Lib.hid ((FB2.new w (.string s1) (.slice a1 n1 c1) 35).below hbZ)
  have HZ : Hid (FB2 ((w.alloc (.cells #[.string s1, .slice a1 n1 c1] 35)).alloc (.cells #[.string ⟨#[]⟩, .slice none 0 0] 35)) (w.heap.size + 1) (.string ⟨#[]⟩) (.slice none 0 0)) := by
    have := FB2.new (w.alloc (.cells #[.string s1, .slice a1 n1 c1] 35)) (.string ⟨#[]⟩) (.slice none 0 0) 35
    rw [hz1] at this; exact this
  have hb0 := nx hbP hbZ
  have hsz : w.heap.size + 1 < ((w.alloc (.cells #[.string s1, .slice a1 n1 c1] 35)).alloc (.cells #[.string ⟨#[]⟩, .slice none 0 0] 35)).heap.size := by simp
  clear hbP hbZ hz1
  obtain ⟨⟨p0, p1⟩, pf⟩ := HP.out
  go_enter Tryd.func63, Tryd.ntmps63
  go_wp2_with fail
  generalize (w.alloc (.cells #[.string s1, .slice a1 n1 c1] 35)).alloc (.cells #[.string ⟨#[]⟩, .slice none 0 0] 35) = W0 at *
  refine (HM.out W0 hb0).mono ?_
  rintro e w1 ⟨v1, ys, rfl, hy1, hy2, hb1⟩
  obtain ⟨a2, c2, hv2, _⟩ := hy2.1.read mlC_len
  subst hv2
  have HY1 := Lib.hid hy1
  have HY2 := Lib.hid hy2
  have hb01 := nx hb0 hb1
  have HP1 := Lib.hid (HP.out.below hb1)
  have HZ1 := Lib.hid (HZ.out.below hb1)
  clear hy1 hy2 hb1 p0 p1 pf
  generalize hL : ys.length = L at *
  have HL := Lib.hid hL
  clear hL
  obtain ⟨⟨p0, p1⟩, pf⟩ := HP1.out
  obtain ⟨⟨q0, q1⟩, qf⟩ := HZ1.out
  go_wp2
  refine bodyPost_ret (v := .agg #[.string s1, .slice a2 L c2]) (by simp [results, Tryd.results63, go_sem, q0, q1]) rfl ?_
  have h := HD.out a2 ys c2 _ HY1.out (by rw [HL.out]; exact (((HY2.out.off (g := w.heap.size) (i := 1) (by omega) (.slice a2 L c2)).off (g := w.heap.size + 1) (i := 0) (by omega) (.string s1)).off (g := w.heap.size + 1) (i := 1) (by omega) (.slice a2 L c2)).base (by omega)) (((hb01.setCell (p := ⟨w.heap.size, 1, none⟩) (Nat.le_refl _) (.slice a2 L c2)).setCell (p := ⟨w.heap.size + 1, 0, none⟩) (by show w.heap.size ≤ w.heap.size + 1; omega) (.string s1)).setCell (p := ⟨w.heap.size + 1, 1, none⟩) (by show w.heap.size ≤ w.heap.size + 1; omega) (.slice a2 L c2))
  rw [HL.out] at h
  exact h
set_option maxRecDepth 100000 in
set_option maxHeartbeats 4000000 in
theorem ownListBox_any (a : Option Addr) (n c : Nat) (xs : List BxA) (w : World) (hx : xs.length = n) (h1 : RdBs 1000000 w a xs) (hn : n ≤ 1000000) :
    Calls Tryd.prog 37 #[.slice a n c] w (BxsRet (xs.map BxA.b) w) := by
  have L1 := Lib.hid hx
  have X1 := Lib.hid h1
  clear hx h1
  go_enter Tryd.func37, Tryd.ntmps37
  go_wp2_with fail
  go_loopw [3, 9] (fun v i wr => ∃ (k : Nat) (ys : List BxA), k ≤ n ∧ i = .int .i64 k ∧ ys.length = k ∧ ys.map BxA.b = (xs.take k).map BxA.b ∧ OwnBs w.heap.size v ys wr ∧ Below w.heap.size w wr) (fun _ i _ => n - (intOf i).toNat)
  case atStart => exact ⟨0, [], Nat.zero_le _, rfl, rfl, by simp, ⟨OwnR.empty _ _ _ w, (fun x hx => by cases hx), List.Pairwise.nil⟩, (Below.refl _ _).alloc (Nat.le_refl _) _⟩
  case round =>
    obtain ⟨k, ys, hk, rfl, hyl, hym, hown, hb⟩ := hrel
    obtain ⟨a3, c3, hv3, _⟩ := hown.1.read bxC_len
    rw [hyl] at hv3
    subst hv3
    have HO := Lib.hid hown
    have HYM := Lib.hid hym
    have HYL := Lib.hid hyl
    clear hown hym hyl
    have hsz := hb.size
    by_cases hlt : k < n
    · have j1 : k < xs.length := by rw [L1.out]; exact hlt
      obtain ⟨b1, o1, rfl, hb1, p0, p1, p3⟩ := (X1.out.below hb).at j1
      have hkn : (k : Int) < (n : Int) := by omega
      have hk0 : (0 : Int) ≤ (k : Int) := by omega
      have hA : Below wr.heap.size wr (wr.alloc (.cells #[.string (str xs[k].path), .slice xs[k].a xs[k].xs.length xs[k].c] 35)) := (Below.refl _ _).alloc (Nat.le_refl _) _
      have HC : Hid (∀ u, Below wr.heap.size wr u → Calls Tryd.prog 63 #[.agg #[.string (str xs[k].path), .slice xs[k].a xs[k].xs.length xs[k].c]] u (BxOwn xs[k].b u)) := fun u hu => ownBox_any xs[k] u (p3.below hu)
      have HT := Lib.hid (take_bxs j1)
      clear p3
      generalize xs[k].b = bb at *
      generalize str xs[k].path = ps at *
      generalize xs[k].xs.length = nn at *
      generalize xs[k].a = aa at *
      generalize xs[k].c = cc at *
      go_wp2_with fail
      refine (HC.out _ hA).mono ?_
      rintro e w5 ⟨y, hyx, rfl, hoy, hb5⟩
      have hb05 := nx hb (nx hA hb5)
      have hsz5 := hb05.size
      have hA5 : Below w5.heap.size w5 (w5.alloc (.cells #[.string (str y.path), .slice y.a y.xs.length y.c] 35)) := (Below.refl _ _).alloc (Nat.le_refl _) _
      have HO5 : Hid (OwnBs w.heap.size (.slice a3 k c3) ys (w5.alloc (.cells #[.string (str y.path), .slice y.a y.xs.length y.c] 35))) := HO.out.keep (nx (nx hA hb5) hA5)
      have HY5 : Hid (OwnMs w.heap.size (.slice y.a y.xs.length y.c) y.xs (w5.alloc (.cells #[.string (str y.path), .slice y.a y.xs.length y.c] 35))) := (hoy.keep hA5).base (by have := hA.size; omega)
      have HK5 := Lib.hid (MK2.new w5 (.string (str y.path)) (.slice y.a y.xs.length y.c) 35)
      have HYX : Hid ((ys ++ [y]).map BxA.b = (xs.take (k + 1)).map BxA.b) := by show _ = _; rw [HT.out, List.map_append, HYM.out]; show _ ++ [y.b] = _; rw [hyx]
      have HNW := Lib.hid (HO.out.new hoy hA.size)
      have hb06 := nx hb05 hA5
      clear hyx hoy p0 p1
      go_wp2_with (at_builtin; refine wpList_append_BL rfl _ _ rfl w.heap.size _ ys y w5.heap.size rfl rfl HO5.out HY5.out HK5.out ?c2 ?c3 HNW.out ?_)
      case c2 => simp; omega
      case c3 => have := HYL.out; omega
      intro v' w6 hO6 hb6
      have hb7 : Below w.heap.size w w6 := hb06.trans hb6
      obtain ⟨a6, c6, hv6, _⟩ := hO6.1.read bxC_len
      have hyl6 : (ys ++ [y]).length = k + 1 := by rw [List.length_append, HYL.out]; rfl
      rw [hyl6] at hv6
      subst hv6
      have HYL6 := Lib.hid hyl6
      have HO6 := Lib.hid hO6
      clear hO6 hb6 hyl6
      go_wp2
      go_roundw
      case rel => exact ⟨k + 1, ys ++ [y], by omega, by go_num, HYL6.out, HYX.out, HO6.out, hb7⟩
      case measure => simp [intOf]; omega
    · have HE : Hid (ys.map BxA.b = xs.map BxA.b) := by show _ = _; rw [HYM.out, List.take_of_length_le (by have := L1.out; omega)]
      go_wp2
      go_ret
      exact bxsRet_mk HE.out HO.out hb
end Go.Proofs.YtbfjbabpeigloabDoor
end

section
namespace Go.Proofs.YtbfjbabpeigloabDoor
open Go.RowKit

set_option maxRecDepth 100000 in
set_option maxHeartbeats 400000 in
/-- One mail behind a row of the call's own, in any order. -/
theorem wp_append_Mo {o : Oper} {Q : Exit → Act → World → Prop} {K : Act → World → Prop} {a : Act} {w : World} (s x : Operand)
    (ho : o.op = .call { callee := .builtin .append, args := #[s, x], argTypes := #[33, 33] })
    (B : Nat) (v : Value) (xs : List MlA) (y : MlA) (b : Nat) (hs : a.eval s = v) (hx : a.eval x = .slice (some ⟨b, 0, none⟩) 1 1) (hown : OwnMs B v xs w) (hy : OwnM B w y) (hc : MK3 w b (.string (str y.m.frm)) (.slice y.a1 y.m.to.length y.c1) (.slice y.a2 y.m.lines.length y.c2)) (hB : B ≤ w.heap.size) (hl : xs.length ≤ 1000000) (hap : ∀ x ∈ xs, ApM x y)
    (h : ∀ v' w', OwnMs B v' (xs ++ [y]) w' → Below B w w' → K (a.put o.dst v') w') : o.wp Tryd.prog a w K Q := by
  obtain ⟨i0, hi, hz0, hz1, hz2⟩ := info_parts mlInfoC
  have hown1 := hown.1
  unfold OwnR at hown1
  obtain ⟨v', w', hr, h2, hgr, _, _⟩ := run_append_own_at (P := Tryd.prog) w B 33 o.type 28 i0 (.agg #[.string ⟨#[]⟩, .slice none 0 0, .slice none 0 0]) 3 64 Tryd.underlying33 hi hz0 hz1 hz2 rfl (by decide) v xs.length (xs.flatMap mlC) hown1 ⟨b, 0, none⟩ 1 1 (mlC y) (mlC_len y)
    (fun j u hu => by
      rw [addr_add]
      match j, hu with
      | 0, hu => injection hu with hu; subst hu; exact hc.1
      | 1, hu => injection hu with hu; subst hu; exact hc.2.1
      | 2, hu => injection hu with hu; subst hu; exact hc.2.2
      | j + 3, hu => cases hu)
    (fun z hz => by
      unfold mlC at hz
      simp at hz
      rcases hz with rfl | rfl | rfl <;> rfl) (by unfold maxLen; omega) (by omega) hB
  have hb : Below B w w' := (Below.refl _ _).grown hgr hB (fun k hk => (World.ownsRow.lt hown1 k hk).1)
  have key : ∀ z : MlA, OwnM B w z → OwnM B w' z := fun z hz => hz.grown hgr (fun g hq => strs_mails hown.1 hz.1 g hq) (fun g hq => strs_mails hown.1 hz.2.1 g hq)
  unfold Oper.wp execOp
  simp only [ho, resolve, invoke, builtin, Sem.run_bind, Sem.run_pure, Result.andThen_ok, List.map_toArray, List.map_cons, List.map_nil, hs, hx, hr]
  refine h v' w' ⟨OwnR.snoc h2, fun z hz => ?_, List.pairwise_append.2 ⟨hown.2.2, List.pairwise_singleton _ _, fun z hz u hu => by rw [List.mem_singleton.1 hu]; exact hap z hz⟩⟩ hb
  rcases List.mem_append.1 hz with hz | hz
  · exact key z (hown.2.1 z hz)
  · rw [List.mem_singleton.1 hz]; exact key y hy
theorem FB2.set1 {w : World} {g : Nat} {v0 v1 : Value} (h : FB2 w g v0 v1) (u : Value) : FB2 (w.setCell ⟨g, 1, none⟩ u) g v0 u :=
  ⟨⟨(cell_off (by omega) _).trans h.1.1, cell_same h.1.2 _⟩, fun i => (World.frozen?_setCell _ _ _ _).trans (h.2 i)⟩
theorem FB2.low {B g : Nat} {w w' : World} {v0 v1 : Value} (h : FB2 w g v0 v1) (t : Below B w w') (hg : g < B) : FB2 w' g v0 v1 :=
  ⟨⟨(below_at t hg).trans h.1.1, (below_at t hg).trans h.1.2⟩, fun i => (below_fz t hg).trans (h.2 i)⟩
set_option maxRecDepth 100000 in
set_option maxHeartbeats 8000000 in
theorem l11Copy_any (a : Option Addr) (n c : Nat) (xs : List BxA) (w : World) (hx : xs.length = n) (h1 : RdBs 1000000 w a xs) (hn : n ≤ 1000000) :
    Calls Tryd.prog 56 #[.slice a n c] w (BxsRet (xs.map BxA.b) w) := by
  have L1 := Lib.hid hx
  have X1 := Lib.hid h1
  clear hx h1
  go_enter Tryd.func56, Tryd.ntmps56
  go_wp2_with fail
  go_loopw [3, 4] (fun v i wr => ∃ (k : Nat) (ys : List BxA), k ≤ n ∧ i = .int .i64 k ∧ ys.length = k ∧ ys.map BxA.b = (xs.take k).map BxA.b ∧ OwnBs w.heap.size v ys wr ∧ Below w.heap.size w wr) (fun _ i _ => n - (intOf i).toNat)
  case atStart => exact ⟨0, [], Nat.zero_le _, rfl, rfl, by simp, ⟨OwnR.empty _ _ _ w, (fun x hx => by cases hx), List.Pairwise.nil⟩, (Below.refl _ _).alloc (Nat.le_refl _) _⟩
  case round =>
    obtain ⟨k, ys, hk, rfl, hyl, hym, hown, hb⟩ := hrel
    obtain ⟨a3, c3, hv3, _⟩ := hown.1.read bxC_len
    rw [hyl] at hv3
    subst hv3
    have HO := Lib.hid hown
    have HYM := Lib.hid hym
    have HYL := Lib.hid hyl
    clear hown hym hyl
    have hsz := hb.size
    by_cases hlt : k < n
    · have j1 : k < xs.length := by rw [L1.out]; exact hlt
      obtain ⟨b1, o1, rfl, hl1, p0, p1, p3⟩ := (X1.out.below hb).at j1
      have hkn : (k : Int) < (n : Int) := by omega
      have hk0 : (0 : Int) ≤ (k : Int) := by omega
      have HB := Lib.hid hb
      have HF5 := Lib.hid (FB2.new wr (.string (str xs[k].path)) (.slice none 0 0) 35)
      have hA : Below wr.heap.size wr (wr.alloc (.cells #[.string (str xs[k].path), .slice none 0 0] 35)) := (Below.refl _ _).alloc (Nat.le_refl _) _
      have hz5 : (wr.alloc (.cells #[.string (str xs[k].path), .slice none 0 0] 35)).heap.size = wr.heap.size + 1 := by simp
      have HXR := Lib.hid p3
      have HT := Lib.hid (take_bxs j1)
      have HCELL : Hid (∀ u, Below wr.heap.size wr u → u.cell? ⟨b1, o1 + k * 2 + 1, none⟩ = some (.slice xs[k].a xs[k].xs.length xs[k].c)) := fun u hu => (below_at hu hl1).trans p1
      have HPB : Hid (xs[k].b = ⟨xs[k].path, xs[k].xs.map (·.m)⟩) := rfl
      have hnn : xs[k].xs.length ≤ 1000000 := p3.2.2.1
      clear p3 p1
      generalize xs[k] = x at *
      generalize hN : x.xs.length = nn at *
      have HN := Lib.hid hN
      clear hN
      go_upto_region 6 with fail
      clear p0
      have hs5 : wr.heap.size + 1 ≤ (wr.alloc (.cells #[.string (str x.path), .slice none 0 0] 35)).heap.size := by rw [hz5]; exact Nat.le_refl _
      clear hz5
      generalize wr.alloc (.cells #[.string (str x.path), .slice none 0 0] 35) = W5 at *
      go_wp2_with fail
      go_loopw [6] (fun i wi => ∃ (j : Nat) (ms : List MlA) (a5 : Option Addr) (c5 : Nat), j ≤ nn ∧ i = .int .i64 j ∧ ms.length = j ∧ ms.map (·.m) = (x.xs.take j).map (·.m) ∧ FB2 wi wr.heap.size (.string (str x.path)) (.slice a5 j c5) ∧ OwnMs (wr.heap.size + 1) (.slice a5 j c5) ms wi ∧ Below wr.heap.size wr wi ∧ wr.heap.size + 1 ≤ wi.heap.size) (fun i _ => nn - (intOf i).toNat)
      case atStart => exact ⟨0, [], none, 0, Nat.zero_le _, rfl, rfl, by simp, HF5.out, OwnMs.nil _ _, hA, hs5⟩
      case round =>
        obtain ⟨j, ms, a5, c5, hj, rfl, hml, hmt, hfb, hom, hbi, hszi⟩ := hrel
        have HFB := Lib.hid hfb
        have HOM := Lib.hid hom
        have HMT := Lib.hid hmt
        have HML := Lib.hid hml
        clear hfb hom hmt hml
        have v1 := HCELL.out _ hbi
        by_cases hjn : j < nn
        · have j1' : j < x.xs.length := by rw [HN.out]; exact hjn
          obtain ⟨b3, o3, ha3, hl3, r0, r1, r2, r3⟩ := ((HXR.out.below hbi).1).at j1'
          rw [ha3] at v1
          have hjn' : (j : Int) < (nn : Int) := by omega
          have hj0 : (0 : Int) ≤ (j : Int) := by omega
          have HC : Hid (∀ u, Below wr.heap.size wr u → Calls Tryd.prog 71 #[.agg #[.string (str x.xs[j].m.frm), .slice x.xs[j].a1 x.xs[j].m.to.length x.xs[j].c1, .slice x.xs[j].a2 x.xs[j].m.lines.length x.xs[j].c2]] u (MalRet x.xs[j].m u)) := fun u hu => l10Mail_any 1000000 x.xs[j] u (r3.below hu) (by omega)
          have HTM := Lib.hid (take_mls j1')
          have HCA : Hid (∀ u, Below wr.heap.size wr u → (u.cell? ⟨b1, o1 + k * 2 + 1, none⟩ = some (.slice (some ⟨b3, o3, none⟩) nn x.c) ∧ u.cell? ⟨wr.heap.size, 0, none⟩ = u.cell? ⟨wr.heap.size, 0, none⟩) ∧ u.cell? ⟨b3, o3 + j * 3, none⟩ = some (.string (str x.xs[j].m.frm)) ∧ u.cell? ⟨b3, o3 + j * 3 + 1, none⟩ = some (.slice x.xs[j].a1 x.xs[j].m.to.length x.xs[j].c1) ∧ u.cell? ⟨b3, o3 + j * 3 + 2, none⟩ = some (.slice x.xs[j].a2 x.xs[j].m.lines.length x.xs[j].c2)) := fun u hu => ⟨⟨(below_at hu (lt_of_cell v1)).trans v1, rfl⟩, (below_at hu hl3).trans r0, (below_at hu hl3).trans r1, (below_at hu hl3).trans r2⟩
          clear r0 r1 r2 r3 ha3
          generalize x.xs[j] = mm at *
          go_upto_region 9 with fail
          clear v1
          refine wp_region_tail (by kernel_rfl) ?_
          refine wpAny_tail (fuel := 12) (tf := 3) [12, 13, 14] (by kernel_rfl) ?_
          refine wpAnyZ_take (fuel := 2) [true, true, true, true, true, true, true, true, true, true] (by kernel_rfl) (by kernel_rfl) (by rfl) (by kernel_rfl) (by kernel_rfl) (by kernel_rfl) ?_
          apply Exists.intro
          refine ⟨fun x => ?_, ?_⟩
          · have y0 := fun (y : BelowT x.val) => (HCA.out y.val (nx ((Below.refl _ _).drew) (nx x.below y.below))).1.1
            have y1 := fun (y : BelowT x.val) => (HFB.out.below (nx ((Below.refl _ _).drew) (nx x.below y.below))).1.2
            have y2 := fun (y : BelowT x.val) => (HCA.out y.val (nx ((Below.refl _ _).drew) (nx x.below y.below))).2.1
            have y3 := fun (y : BelowT x.val) => (HCA.out y.val (nx ((Below.refl _ _).drew) (nx x.below y.below))).2.2.1
            have y4 := fun (y : BelowT x.val) => (HCA.out y.val (nx ((Below.refl _ _).drew) (nx x.below y.below))).2.2.2
            simp only [pickL]
            repeat (go_big_quiet_step (fail))
            exact wpQuiet_nil rfl
          refine wpAnyZ_one (m := 10) (by kernel_rfl) (fun ua g1 => ?_)
          refine wpOp_at (o := _) (by rfl) (by rfl) ?_
          go_simp
          have hga : Below wr.heap.size wr ua := nx ((Below.refl _ _).drew) g1
          refine (HC.out _ hga).mono ?_
          rintro e w5 ⟨z, hzx, rfl, hoz, hb5⟩
          have HZX := Lib.hid hzx
          clear hzx
          refine ⟨hb5, ?_⟩
          have hmV : mlV z = .agg #[.string (str z.m.frm), .slice z.a1 z.m.to.length z.c1, .slice z.a2 z.m.lines.length z.c2] := rfl
          rw [hmV]
          try simp only [Act.put, List.setIfInBounds_toArray, List.set_cons_zero, List.set_cons_succ]
          refine wpAnyZ_one (m := 11) (by kernel_rfl) (fun ub g2 => ?_)
          refine wpOp_at (o := _) (by rfl) (by rfl) ?_
          go_simp
          refine ⟨(Below.refl _ _).alloc (Nat.le_refl _) _, ?_⟩
          try simp only [Act.put, List.setIfInBounds_toArray, List.set_cons_zero, List.set_cons_succ]
          have HK7 := MK3.new ub (.string (str z.m.frm)) (.slice z.a1 z.m.to.length z.c1) (.slice z.a2 z.m.lines.length z.c2) 28
          have hg7 : Below wr.heap.size wr (ub.alloc (.cells #[.string (str z.m.frm), .slice z.a1 z.m.to.length z.c1, .slice z.a2 z.m.lines.length z.c2] 28)) := nx (nx hga (nx hb5 g2)) ((Below.refl _ _).alloc (Nat.le_refl _) _)
          have HM7 : OwnM ua.heap.size (ub.alloc (.cells #[.string (str z.m.frm), .slice z.a1 z.m.to.length z.c1, .slice z.a2 z.m.lines.length z.c2] 28)) z := (hoz.keep g2).keep ((Below.refl _ _).alloc (Nat.le_refl _) _)
          have hgu : wr.heap.size ≤ ua.heap.size := hga.size
          have HNW := Lib.hid (HOM.out.new hoz hgu)
          generalize ub.alloc (.cells #[.string (str z.m.frm), .slice z.a1 z.m.to.length z.c1, .slice z.a2 z.m.lines.length z.c2] 28) = V7 at *
          generalize ub.heap.size = X7 at HK7 ⊢
          refine wpAnyZ_rest (by kernel_rfl) (fun uc g3 => ?_)
          have hg8 : Below wr.heap.size wr uc := nx hg7 g3
          have HYX : Hid ((ms ++ [z]).map (·.m) = (x.xs.take (j + 1)).map (·.m)) := by show _ = _; rw [HTM.out, List.map_append, HMT.out]; show _ ++ [z.m] = _; rw [HZX.out]
          refine wpAny_one (m := 12) (by kernel_rfl) ?_
          refine wpOp_at (o := _) (by rfl) (by rfl) ?_
          refine wp_append_Mo _ _ rfl _ _ ms z X7 rfl rfl (HOM.out.keep hg8) ((HM7.keep g3).base (by omega)) (HK7.below g3) (by have := hg8.size; omega) (by have := HML.out; omega) HNW.out ?_
          intro v8 w8 hO8 hb8
          have hf8 := (HFB.out.below hg8).low hb8 (Nat.lt_succ_self _)
          have hb08 := (nx hbi hg8).trans (hb8.mono (Nat.le_succ _))
          have hs9 := Nat.le_trans hszi (Nat.le_trans hg8.size hb8.size)
          obtain ⟨a8, c8, hv8, _⟩ := hO8.1.read mlC_len
          have hml8 : (ms ++ [z]).length = j + 1 := by rw [List.length_append, HML.out]; rfl
          rw [hml8] at hv8
          subst hv8
          have HML8 := Lib.hid hml8
          have HF9 := Lib.hid (hf8.set1 (.slice a8 (j + 1) c8))
          have HO9 := Lib.hid (hO8.off (i := 1) (Nat.lt_succ_self _) (.slice a8 (j + 1) c8))
          have HB9 := Lib.hid (hb08.setCell (p := ⟨_, 1, none⟩) (Nat.le_refl _) (.slice a8 (j + 1) c8))
          obtain ⟨⟨f0, f1⟩, ff⟩ := hf8
          clear hO8 hb8 hb08 hml8 hoz hb5 g1 g2 g3 hga hg7 hg8 HM7 HK7 hmV
          try simp only [Act.put, List.setIfInBounds_toArray]
          refine wpAny_one (m := 13) (by kernel_rfl) ?_
          refine wpOp_at (o := _) (by rfl) (by rfl) ?_
          go_simp
          try simp only [Act.put, List.setIfInBounds_toArray, List.set_cons_zero, List.set_cons_succ]
          refine wpAny_one (m := 14) (by kernel_rfl) ?_
          refine wpOp_at (o := _) (by rfl) (by rfl) ?_
          go_simp
          try simp only [Act.put]
          refine wpAny_end (by kernel_rfl) ?_ _
          clear f0 f1 ff
          go_wp2
          go_roundw
          case rel => exact ⟨j + 1, ms ++ [z], a8, c8, by omega, by go_num, HML8.out, HYX.out, HF9.out, HO9.out, HB9.out, by simpa [World.setCell] using hs9⟩
          case measure => simp [intOf]; omega
        · have hA9 : Below wr.heap.size wr (wr.alloc (.cells #[.string (str x.path), .slice a5 j c5] 35)) := (Below.refl _ _).alloc (Nat.le_refl _) _
          have HO9 : Hid (OwnBs w.heap.size (.slice a3 k c3) ys (wr.alloc (.cells #[.string (str x.path), .slice a5 j c5] 35))) := HO.out.keep (nx hbi hA9)
          have HY9 : Hid (OwnMs w.heap.size (.slice a5 ms.length c5) ms (wr.alloc (.cells #[.string (str x.path), .slice a5 j c5] 35))) := by
            have h := (HOM.out.keep hA9).base (C := w.heap.size) (by omega)
            show OwnMs _ _ _ _
            rw [HML.out]; exact h
          have HK9 : Hid (MK2 (wr.alloc (.cells #[.string (str x.path), .slice a5 j c5] 35)) wr.heap.size (.string (str x.path)) (.slice a5 ms.length c5)) := by
            have h := MK2.new wr (.string (str x.path)) (.slice a5 j c5) 35
            show MK2 _ _ _ _
            rw [HML.out]; exact h
          have HYX : Hid ((ys ++ [(⟨x.path, ms, a5, c5⟩ : BxA)]).map BxA.b = (xs.take (k + 1)).map BxA.b) := by
            show _ = _
            rw [HT.out, List.map_append, HYM.out]
            have : BxA.b (⟨x.path, ms, a5, c5⟩ : BxA) = x.b := by
              show Bx.mk x.path (ms.map (·.m)) = x.b
              rw [HPB.out, HMT.out, List.take_of_length_le (by have := HN.out; omega)]
            simp only [List.map_cons, List.map_nil, this]
          have HNB : Hid (∀ q ∈ ys, ApB q ⟨x.path, ms, a5, c5⟩) := HO.out.new (y := ⟨x.path, ms, a5, c5⟩) (w := wr) (by have h := HOM.out; rw [← HML.out] at h; exact h) (Nat.le_succ _)
          have hb06 := nx HB.out (nx hbi hA9)
          have hszw : w.heap.size ≤ wr.heap.size := by omega
          obtain ⟨⟨f0, f1⟩, ff⟩ := HFB.out
          go_wp2_with (at_builtin; refine wpList_append_BL rfl _ _ rfl w.heap.size _ ys ⟨x.path, ms, a5, c5⟩ wr.heap.size rfl rfl HO9.out HY9.out HK9.out ?c2 ?c3 HNB.out ?_)
          case c2 => omega
          case c3 => have := HYL.out; omega
          intro v' w6 hO6 hb6
          have hb7 : Below w.heap.size w w6 := hb06.trans hb6
          obtain ⟨a6, c6, hv6, _⟩ := hO6.1.read bxC_len
          have hyl6 : (ys ++ [(⟨x.path, ms, a5, c5⟩ : BxA)]).length = k + 1 := by rw [List.length_append, HYL.out]; rfl
          rw [hyl6] at hv6
          subst hv6
          have HYL6 := Lib.hid hyl6
          have HO6 := Lib.hid hO6
          clear hO6 hb6 hyl6 f0 f1 ff v1
          go_wp2
          go_roundw
          case rel => exact ⟨k + 1, ys ++ [⟨x.path, ms, a5, c5⟩], by omega, by go_num, HYL6.out, HYX.out, HO6.out, hb7⟩
          case measure => simp [intOf]; omega
    · have HE : Hid (ys.map BxA.b = xs.map BxA.b) := by show _ = _; rw [HYM.out, List.take_of_length_le (by have := L1.out; omega)]
      go_wp2
      go_ret
      exact bxsRet_mk HE.out HO.out hb
/-- Where a path is first. -/
def fndP (p : List UInt8) : List (List UInt8) → Option Nat
  | [] => none
  | q :: ps => if q = p then some 0 else (fndP p ps).map (· + 1)
theorem fnd_at {p : List UInt8} : ∀ {ps : List (List UInt8)} {k : Nat} (h : k < ps.length), ps[k] = p → (∀ j, j < k → (hj : j < ps.length) → ps[j] ≠ p) → fndP p ps = some k
  | [], k, h, _, _ => by simp at h
  | q :: ps, 0, _, h1, _ => by rw [fndP]; exact if_pos h1
  | q :: ps, k + 1, h, h1, h2 => by
    rw [fndP, if_neg (show q ≠ p from h2 0 (Nat.succ_pos _) (by simp)), fnd_at (ps := ps) (k := k) (by simpa using h) (by simpa using h1) (fun j hj hl => by
      have := h2 (j + 1) (by omega) (by simpa using hl)
      simpa using this)]
    rfl
theorem fnd_none {p : List UInt8} : ∀ {ps : List (List UInt8)}, (∀ q ∈ ps, q ≠ p) → fndP p ps = none
  | [], _ => rfl
  | q :: ps, h => by rw [fndP, if_neg (h q (by simp)), fnd_none (fun x hx => h x (by simp [hx]))]; rfl
def fndI (o : Option Nat) : Int := match o with | some k => k | none => -1
set_option maxRecDepth 100000 in
set_option maxHeartbeats 2000000 in
theorem l11Find_any (M : Nat) (a : Option Addr) (n c : Nat) (xs : List BxA) (p : List UInt8) (w : World) (hx : xs.length = n) (h1 : RdBs M w a xs) (hn : n ≤ 1073741000) :
    Calls Tryd.prog 62 #[.slice a n c, .string (str p)] w fun e w' => e = .returned (.int .i64 (fndI (fndP p (xs.map (·.path))))) ∧ Below w.heap.size w w' := by
  have X1 := Lib.hid h1
  have L1 := Lib.hid hx
  clear h1 hx
  obtain ⟨Y, hY⟩ : ∃ Y, Y = str p := ⟨_, rfl⟩
  have HY := Lib.hid hY
  rw [← hY]
  clear hY
  go_enter Tryd.func62, Tryd.ntmps62
  go_wp2_with fail
  go_loopw [5] (fun i wr => ∃ (k : Nat), k ≤ n ∧ i = .int .i64 k ∧ Below w.heap.size w wr ∧ ∀ j, j < k → (hj : j < xs.length) → xs[j].path ≠ p) (fun i _ => n - (intOf i).toNat)
  case atStart => exact ⟨0, Nat.zero_le _, rfl, Below.refl _ _, fun j h => by omega⟩
  case round =>
    obtain ⟨k, hk, rfl, hb, hall⟩ := hrel
    have HA := Lib.hid hall
    clear hall
    by_cases hlt : k < n
    · have hkx : k < xs.length := by rw [L1.out]; exact hlt
      obtain ⟨b1, o1, rfl, hl1, p0, p1, p3⟩ := (X1.out.below hb).at hkx
      have hkn : (k : Int) < (n : Int) := by omega
      have hk0 : (0 : Int) ≤ (k : Int) := by omega
      have HQ : Hid ((str xs[k].path = Y) = (xs[k].path = p)) := by
        show _ = _
        rw [HY.out]
        exact propext ⟨fun h => by rw [← str_list xs[k].path, h, str_list], fun h => by rw [h]⟩
      clear p1 p3
      by_cases hq : xs[k].path = p
      · have HF : Hid (fndI (fndP p (xs.map (·.path))) = (k : Int)) := by
          show _ = _
          rw [fnd_at (k := k) (by simpa using hkx) (by simpa using hq) (fun j hj hl => by
            have := HA.out j hj (by simpa using hl)
            simpa using this)]
          rfl
        have e2 : ((str xs[k].path).toList == Y.toList) = true := by rw [beq_dec, decide_eq_true_iff]; exact (HQ.out.symm ▸ hq : str xs[k].path = Y)
        clear hq HQ
        generalize str xs[k].path = X at *
        go_wp2
        go_ret
        exact ⟨ret_int HF.out.symm, hb⟩
      · have e2 : ((str xs[k].path).toList == Y.toList) = false := by rw [beq_dec, decide_eq_false_iff_not]; intro h; exact hq (HQ.out ▸ h)
        have HN := Lib.hid hq
        clear hq HQ
        generalize str xs[k].path = X at *
        go_wp2
        go_roundw
        case rel => exact ⟨k + 1, by omega, by go_num, hb, fun j hj hjx => by
          by_cases e : j = k
          · subst e; exact HN.out
          · exact HA.out j (by omega) hjx⟩
        case measure => simp [intOf]; omega
    · have HF : Hid (fndI (fndP p (xs.map (·.path))) = -1) := by
        show _ = _
        rw [fnd_none (fun q hq => by
          obtain ⟨x, hx, rfl⟩ := List.mem_map.1 hq
          obtain ⟨j, hj, rfl⟩ := List.getElem_of_mem hx
          exact HA.out j (by have := L1.out; omega) hj)]
        rfl
      go_wp2
      go_ret
      exact ⟨ret_int HF.out.symm, hb⟩
end Go.Proofs.YtbfjbabpeigloabDoor
end

section
namespace Go.Proofs.YtbfjbabpeigloabDoor
open Go.RowKit

theorem ltP_dec (a b : List UInt8) : ltP a b = decide (a < b) := by
  unfold ltP
  rw [bytesLess_eq, ByteArray.toList_eq, ByteArray.toList_eq, str_list, str_list]
theorem ltP_iff {a b : List UInt8} : ltP a b = true ↔ a < b := by rw [ltP_dec, decide_eq_true_iff]
theorem ltP_no {a b : List UInt8} : ltP a b = false ↔ ¬ a < b := by rw [ltP_dec, decide_eq_false_iff_not]
/-- How many of the first ones lie ahead of a path. -/
def cntP (p : List UInt8) (ps : List (List UInt8)) : Nat := (ps.takeWhile (fun q => ltP q p)).length
theorem cntP_le (p : List UInt8) (ps : List (List UInt8)) : cntP p ps ≤ ps.length := by
  unfold cntP
  exact (List.takeWhile_prefix _).length_le
theorem cntP_eq {p : List UInt8} : ∀ {ps : List (List UInt8)} {i : Nat}, i ≤ ps.length → (∀ j, j < i → (h : j < ps.length) → ltP ps[j] p = true) → (∀ h : i < ps.length, ltP ps[i] p = false) → cntP p ps = i
  | [], i, hi, _, _ => by
    have : i = 0 := by simpa using hi
    subst this; rfl
  | q :: ps, 0, _, _, h2 => by
    have h := h2 (by simp)
    have h' : ltP q p = false := h
    unfold cntP; rw [List.takeWhile_cons_of_neg (p := fun q => ltP q p) (by rw [h']; decide)]; rfl
  | q :: ps, i + 1, hi, h1, h2 => by
    have h : ltP q p = true := h1 0 (by omega) (by simp)
    have := cntP_eq (p := p) (ps := ps) (i := i) (by simpa using hi) (fun j hj hl => by
      have := h1 (j + 1) (by omega) (by simpa using hl)
      simpa using this) (fun hl => by
      have := h2 (by simpa using hl)
      simpa using this)
    unfold cntP at this ⊢
    rw [List.takeWhile_cons_of_pos (p := fun q => ltP q p) h, List.length_cons, this]
theorem up_pair {bs : List Bx} (h : upBx bs = true) : ∀ i j, i < j → (hi : i < bs.length) → (hj : j < bs.length) → bs[i].path < bs[j].path := by
  intro i j hij hi hj
  obtain ⟨d, rfl⟩ : ∃ d, j = i + 1 + d := ⟨j - i - 1, by omega⟩
  clear hij
  induction d with
  | zero => exact ltP_iff.1 ((upBx_iff bs).1 h i hj)
  | succ d ih =>
    have h1 := ih (by omega)
    have h2 := ltP_iff.1 ((upBx_iff bs).1 h (i + 1 + d) (by omega))
    exact List.lt_trans h1 h2
/-- In a row in order, what lies ahead of one that lies ahead of p lies ahead of p. -/
theorem up_mono {bs : List Bx} {p : List UInt8} (h : upBx bs = true) {i j : Nat} (hij : i ≤ j) (hj : j < bs.length) (hp : ltP bs[j].path p = true) : ltP (bs[i]'(by omega)).path p = true := by
  rcases Nat.lt_or_ge i j with h1 | h1
  · exact ltP_iff.2 (List.lt_trans (up_pair h i j h1 (by omega) hj) (ltP_iff.1 hp))
  · have : i = j := by omega
    subst this; exact hp
theorem ltP_self (p : List UInt8) : ltP p p = false := ltP_no.2 (List.lt_irrefl p)
theorem ltP_tri {p q : List UInt8} (h : ltP q p = false) (hne : q ≠ p) : ltP p q = true := by
  rw [ltP_iff]
  rw [ltP_no] at h
  rcases Std.lt_trichotomy p q with h1 | h1 | h1
  · exact h1
  · exact absurd h1.symm hne
  · exact absurd h1 h
theorem ltP_asym {p q : List UInt8} (h : ltP q p = true) : ltP p q = false := ltP_no.2 (fun h1 => List.lt_irrefl p (List.lt_trans h1 (ltP_iff.1 h)))
/-- The first that does not lie ahead of p is p's place, where p is there. -/
theorem cnt_fnd {bs : List Bx} {p : List UInt8} (h : upBx bs = true) {i : Nat} (hi : i < bs.length) (hp : bs[i].path = p) : cntP p (bs.map (·.path)) = i := by
  refine cntP_eq (by rw [List.length_map]; omega) (fun j hj hl => ?_) (fun hl => ?_)
  · rw [List.getElem_map]
    have := up_pair h j i hj (by omega) hi
    rw [ltP_iff, ← hp]; exact this
  · rw [List.getElem_map, hp]; exact ltP_self p
/-- A row with one more box. -/
def addB (p : List UInt8) (bs : List Bx) : List Bx := bs.take (cntP p (bs.map (·.path))) ++ ⟨p, []⟩ :: bs.drop (cntP p (bs.map (·.path)))
def addOk (p : List UInt8) (bs : List Bx) : Bool := isBxs bs && (isPath p && (decide (fndP p (bs.map (·.path)) = none) && decide (bs.length ≠ 8)))
def addO (p : List UInt8) (bs : List Bx) : List Bx := if addOk p bs then addB p bs else []
theorem isBxs_upBx {bs : List Bx} (h : isBxs bs = true) : upBx bs = true ∧ bs.length ≤ 8 ∧ bs.all isBx = true := by
  unfold isBxs at h
  rw [Bool.and_eq_true, Bool.and_eq_true, decide_eq_true_iff] at h
  exact ⟨h.2.2, h.1, h.2.1⟩
theorem fndP_none {p : List UInt8} {ps : List (List UInt8)} (h : fndP p ps = none) : ∀ q ∈ ps, q ≠ p := by
  induction ps with
  | nil => intro q hq; cases hq
  | cons x xs ih =>
    rw [fndP] at h
    by_cases e : x = p
    · rw [if_pos e] at h; cases h
    · rw [if_neg e] at h
      intro q hq
      rcases List.mem_cons.1 hq with rfl | hq
      · exact e
      · exact ih (by cases hf : fndP p xs with
          | none => rfl
          | some k => rw [hf] at h; cases h) q hq
theorem fndP_some {p : List UInt8} {ps : List (List UInt8)} {k : Nat} (h : fndP p ps = some k) : ∃ hk : k < ps.length, ps[k] = p := by
  induction ps generalizing k with
  | nil => cases h
  | cons x xs ih =>
    rw [fndP] at h
    by_cases e : x = p
    · rw [if_pos e] at h; injection h with h; subst h; exact ⟨by simp, e⟩
    · rw [if_neg e] at h
      cases hf : fndP p xs with
      | none => rw [hf] at h; cases h
      | some j =>
        rw [hf] at h; injection h with h; subst h
        obtain ⟨h1, h2⟩ := ih hf
        exact ⟨by simp; omega, by simpa using h2⟩
/-- The first that does not lie ahead of p is p, just where p is there at all. -/
theorem cnt_iff {bs : List Bx} {p : List UInt8} (h : upBx bs = true) : (fndP p (bs.map (·.path)) = none) ↔ ¬ ∃ hk : cntP p (bs.map (·.path)) < bs.length, bs[cntP p (bs.map (·.path))].path = p := by
  constructor
  · rintro hn ⟨hk, he⟩
    exact fndP_none hn _ (List.mem_map.2 ⟨_, List.getElem_mem hk, rfl⟩) he
  · intro hn
    cases hf : fndP p (bs.map (·.path)) with
    | none => rfl
    | some k =>
      obtain ⟨h1, h2⟩ := fndP_some hf
      rw [List.getElem_map] at h2
      have hk : k < bs.length := by simpa using h1
      have e := cnt_fnd h hk h2
      exact absurd ⟨by rw [e]; exact hk, by simp only [e]; exact h2⟩ hn
theorem fnd_cnt {bs : List Bx} {p : List UInt8} (h : upBx bs = true) {k : Nat} (hf : fndP p (bs.map (·.path)) = some k) : cntP p (bs.map (·.path)) = k := by
  obtain ⟨h1, h2⟩ := fndP_some hf
  rw [List.getElem_map] at h2
  exact cnt_fnd h (by simpa using h1) h2
end Go.Proofs.YtbfjbabpeigloabDoor
end

section
namespace Go.Proofs.YtbfjbabpeigloabDoor
open Go.RowKit

theorem cmpB_neg : ∀ (a b : List UInt8), Lib.compareBytes a b < 0 ↔ a < b
  | [], [] => by simp [Lib.compareBytes]
  | [], _ :: _ => by simp [Lib.compareBytes]
  | _ :: _, [] => by simp [Lib.compareBytes]
  | a :: ps, b :: qs => by
    rw [Lib.compareBytes, List.cons_lt_cons_iff]
    by_cases h1 : a < b
    · rw [if_pos h1]; exact ⟨fun _ => .inl h1, fun _ => by omega⟩
    · rw [if_neg h1]
      by_cases h2 : b < a
      · rw [if_pos h2]
        refine ⟨fun h => by omega, fun h => ?_⟩
        rcases h with h | ⟨h, _⟩
        · exact absurd h h1
        · subst h; exact absurd h2 h1
      · rw [if_neg h2, cmpB_neg ps qs]
        have e : a = b := UInt8.le_antisymm (UInt8.not_lt.1 h2) (UInt8.not_lt.1 h1)
        exact ⟨fun h => .inr ⟨e, h⟩, fun h => by
          rcases h with h | ⟨_, h⟩
          · exact absurd h h1
          · exact h⟩
theorem cmpB_zero : ∀ (a b : List UInt8), Lib.compareBytes a b = 0 ↔ a = b
  | [], [] => by simp [Lib.compareBytes]
  | [], _ :: _ => by simp [Lib.compareBytes]
  | _ :: _, [] => by simp [Lib.compareBytes]
  | a :: ps, b :: qs => by
    rw [Lib.compareBytes]
    by_cases h1 : a < b
    · rw [if_pos h1]
      exact ⟨fun h => by omega, fun h => by injection h with h _; subst h; exact absurd h1 (UInt8.lt_irrefl a)⟩
    · rw [if_neg h1]
      by_cases h2 : b < a
      · rw [if_pos h2]
        exact ⟨fun h => by omega, fun h => by injection h with h _; subst h; exact absurd h2 (UInt8.lt_irrefl a)⟩
      · rw [if_neg h2, cmpB_zero ps qs]
        have e : a = b := UInt8.le_antisymm (UInt8.not_lt.1 h2) (UInt8.not_lt.1 h1)
        subst e
        exact ⟨fun h => by rw [h], fun h => by injection h⟩
set_option maxRecDepth 100000 in
set_option maxHeartbeats 1000000 in
theorem findBox1_any (q p : List UInt8) (v : Value) (w : World) (hv : v.oneCell' = true) (n c : Nat) (a : Option Addr) (hv' : v = .slice a n c) :
    Calls Tryd.prog 59 #[.agg #[.string (str q), v], .string (str p)] w fun e w' => e = .returned (.int .i64 (Lib.compareBytes q p)) ∧ Below w.heap.size w w' := by
  subst hv'
  have HC : Hid (∀ u, Calls Tryd.prog 60 #[.string (str q), .string (str p)] u fun e w' => e = .returned (.int .i64 (Lib.compareBytes q p)) ∧ w' = u) := fun u => by
    have := Tryd.strings_Compare (str q) (str p) u
    rw [str_list, str_list] at this; exact this
  generalize Lib.compareBytes q p = K at *
  generalize str q = s at *
  generalize str p = t at *
  go_enter Tryd.func59, Tryd.ntmps59
  go_wp2_with fail
  refine (HC.out _).mono ?_
  rintro e w1 ⟨rfl, rfl⟩
  go_wp2
  go_ret
  exact ⟨rfl, (Below.refl _ _).alloc (Nat.le_refl _) _⟩
set_option maxRecDepth 100000 in
set_option maxHeartbeats 4000000 in
theorem searchBox_any (M : Nat) (a : Option Addr) (n c : Nat) (xs : List BxA) (p : List UInt8) (w : World) (hx : xs.length = n) (h1 : RdBs M w a xs) (hn : n ≤ 1073741000) (hup : upBx (xs.map BxA.b) = true) :
    Calls Tryd.prog 58 #[.slice a n c, .string (str p), .func (.func 59) #[] #[]] w fun e w' =>
      e = .returned (.tuple #[.int .i64 (cntP p ((xs.map BxA.b).map (·.path)) : Nat), .bool (decide (fndP p ((xs.map BxA.b).map (·.path)) ≠ none))]) ∧ Below w.heap.size w w' := by
  have X1 := Lib.hid h1
  have L1 := Lib.hid hx
  have HMONO : Hid (∀ i j (hi : i < xs.length) (hj : j < xs.length), i ≤ j → ltP xs[j].path p = true → ltP xs[i].path p = true) := fun i j hi hj hij h => by
    have := up_mono (p := p) hup hij (by rw [List.length_map]; exact hj) (by rw [List.getElem_map]; exact h)
    rw [List.getElem_map] at this; exact this
  have HCNT : Hid (∀ i, i ≤ xs.length → (∀ t, t < i → (h : t < xs.length) → ltP xs[t].path p = true) → (∀ h : i < xs.length, ltP xs[i].path p = false) → cntP p ((xs.map BxA.b).map (·.path)) = i) := fun i hi k1 k2 =>
    cntP_eq (by simpa using hi) (fun j hj hl => by
      have := k1 j hj (by simpa using hl)
      simpa [BxA.b] using this) (fun hl => by
      have := k2 (by simpa using hl)
      simpa [BxA.b] using this)
  have HFD : Hid (decide (fndP p ((xs.map BxA.b).map (·.path)) ≠ none) = decide (∃ hk : cntP p ((xs.map BxA.b).map (·.path)) < xs.length, (xs[cntP p ((xs.map BxA.b).map (·.path))]'hk).path = p)) := by
    refine decide_eq_decide.2 ?_
    rw [Ne, cnt_iff hup, Classical.not_not]
    constructor
    · rintro ⟨hk, he⟩
      refine ⟨by simpa using hk, ?_⟩
      rw [List.getElem_map] at he; exact he
    · rintro ⟨hk, he⟩
      refine ⟨by simpa using hk, ?_⟩
      rw [List.getElem_map]; exact he
  generalize cntP p ((xs.map BxA.b).map (·.path)) = cnt at *
  generalize decide (fndP p ((xs.map BxA.b).map (·.path)) ≠ none) = fd at *
  clear h1 hx hup
  go_enter Tryd.func58, Tryd.ntmps58
  go_wp2_with fail
  go_loopw [9, 10] (fun s9 s10 wr => ∃ lo hi : Nat, s9 = .int .i64 lo ∧ s10 = .int .i64 hi ∧ lo ≤ hi ∧ hi ≤ n ∧ Below w.heap.size w wr ∧ Hid ((∀ t, t < lo → (h : t < xs.length) → ltP xs[t].path p = true) ∧ (∀ t, hi ≤ t → (h : t < xs.length) → ltP xs[t].path p = false))) (fun s9 s10 _ => (intOf s10).toNat - (intOf s9).toNat)
  case atStart => exact ⟨0, n, rfl, rfl, Nat.zero_le _, Nat.le_refl _, Below.refl _ _, ⟨fun t ht => absurd ht (Nat.not_lt_zero _), fun t h1 h2 => by have := L1.out; omega⟩⟩
  case round =>
    obtain ⟨lo, hi, rfl, rfl, hlh, hin, hb, I⟩ := hrel
    by_cases hlt : lo < hi
    · have kx : (lo + hi) / 2 < xs.length := by rw [L1.out]; omega
      have hmid : (((lo + hi) / 2 : Nat) : Int) = ((lo : Int) + (hi : Int)) / 2 := by omega
      obtain ⟨b1, o1, rfl, hb1, p0, p1, p3⟩ := (X1.out.below hb).at kx
      have HC : Hid (∀ u, Calls Tryd.prog 59 #[.agg #[.string (str xs[(lo + hi) / 2].path), .slice xs[(lo + hi) / 2].a xs[(lo + hi) / 2].xs.length xs[(lo + hi) / 2].c], .string (str p)] u fun e w' => e = .returned (.int .i64 (Lib.compareBytes xs[(lo + hi) / 2].path p)) ∧ Below u.heap.size u w') := fun u => findBox1_any _ _ _ u rfl _ _ _ rfl
      have HL : Hid (Lib.compareBytes xs[(lo + hi) / 2].path p < 0 → ltP xs[(lo + hi) / 2].path p = true) := fun h => ltP_iff.2 ((cmpB_neg _ _).1 h)
      have HG : Hid (¬ Lib.compareBytes xs[(lo + hi) / 2].path p < 0 → ltP xs[(lo + hi) / 2].path p = false) := fun h => ltP_no.2 (fun h' => h ((cmpB_neg _ _).2 h'))
      have HI1 : Hid (ltP xs[(lo + hi) / 2].path p = true → ∀ t, t < (lo + hi) / 2 + 1 → (h : t < xs.length) → ltP xs[t].path p = true) := fun h t ht hl => HMONO.out t ((lo + hi) / 2) hl kx (by omega) h
      have HI2 : Hid (ltP xs[(lo + hi) / 2].path p = false → ∀ t, (lo + hi) / 2 ≤ t → (h : t < xs.length) → ltP xs[t].path p = false) := fun h t ht hl => by
        cases hc : ltP xs[t].path p with
        | false => rfl
        | true => rw [HMONO.out ((lo + hi) / 2) t kx hl ht hc] at h; cases h
      generalize ltP xs[(lo + hi) / 2].path p = LT at *
      generalize Lib.compareBytes xs[(lo + hi) / 2].path p = K at *
      generalize xs[(lo + hi) / 2].xs.length = n1 at *
      generalize xs[(lo + hi) / 2].a = a1 at *
      generalize xs[(lo + hi) / 2].c = c1 at *
      generalize xs[(lo + hi) / 2].path = q1 at *
      by_cases hK : K < 0
      · go_wp2_with fail
        refine (HC.out _).mono ?_
        rintro e w1 ⟨rfl, hb1'⟩
        have hb2 := nx hb hb1'
        have HN : Hid ((∀ t, t < (lo + hi) / 2 + 1 → (h : t < xs.length) → ltP xs[t].path p = true) ∧ (∀ t, hi ≤ t → (h : t < xs.length) → ltP xs[t].path p = false)) := ⟨HI1.out (HL.out hK), I.out.2⟩
        clear p0 p1 hb1'
        go_wp2
        go_roundw
        case rel => exact ⟨(lo + hi) / 2 + 1, hi, by rw [show ((lo : Int) + (hi : Int)) / 2 + 1 = (((lo + hi) / 2 + 1 : Nat) : Int) by omega], rfl, by omega, hin, hb2, HN.out⟩
        case measure => simp [intOf]; omega
      · go_wp2_with fail
        refine (HC.out _).mono ?_
        rintro e w1 ⟨rfl, hb1'⟩
        have hb2 := nx hb hb1'
        have HN : Hid ((∀ t, t < lo → (h : t < xs.length) → ltP xs[t].path p = true) ∧ (∀ t, (lo + hi) / 2 ≤ t → (h : t < xs.length) → ltP xs[t].path p = false)) := ⟨I.out.1, HI2.out (HG.out hK)⟩
        clear p0 p1 hb1'
        go_wp2
        go_roundw
        case rel => exact ⟨lo, (lo + hi) / 2, rfl, by rw [show ((lo : Int) + (hi : Int)) / 2 = (((lo + hi) / 2 : Nat) : Int) by omega], by omega, by omega, hb2, HN.out⟩
        case measure => simp [intOf]; omega
    · obtain rfl : hi = lo := by omega
      have hcnt : cnt = hi := HCNT.out hi (by have := L1.out; omega) I.out.1 (fun h => I.out.2 hi (Nat.le_refl _) h)
      clear HCNT
      subst hcnt
      by_cases hn' : cnt < n
      · have kx : cnt < xs.length := by rw [L1.out]; omega
        obtain ⟨b1, o1, rfl, hb1, p0, p1, p3⟩ := (X1.out.below hb).at kx
        have HC : Hid (∀ u, Calls Tryd.prog 59 #[.agg #[.string (str xs[cnt].path), .slice xs[cnt].a xs[cnt].xs.length xs[cnt].c], .string (str p)] u fun e w' => e = .returned (.int .i64 (Lib.compareBytes xs[cnt].path p)) ∧ Below u.heap.size u w') := fun u => findBox1_any _ _ _ u rfl _ _ _ rfl
        have HF : Hid (fd = decide (Lib.compareBytes xs[cnt].path p = 0)) := by
          show _ = _
          rw [HFD.out]
          refine decide_eq_decide.2 ?_
          rw [cmpB_zero]
          exact ⟨fun ⟨_, h⟩ => h, fun h => ⟨kx, h⟩⟩
        clear HFD
        generalize Lib.compareBytes xs[cnt].path p = K at *
        generalize xs[cnt].xs.length = n1 at *
        generalize xs[cnt].a = a1 at *
        generalize xs[cnt].c = c1 at *
        generalize xs[cnt].path = q1 at *
        go_wp2_with fail
        refine (HC.out _).mono ?_
        rintro e w1 ⟨rfl, hb1'⟩
        have hb2 := nx hb hb1'
        clear p0 p1 hb1'
        go_wp2
        go_ret2
        refine ⟨?_, hb2⟩
        rw [HF.out]
        congr
      · have HF : Hid (fd = false) := by
          show _ = _
          rw [HFD.out]
          exact decide_eq_false (fun ⟨h, _⟩ => by have := L1.out; omega)
        clear HFD
        go_wp2
        go_ret2
        exact ⟨by rw [HF.out]; rfl, hb⟩
set_option maxRecDepth 100000 in
set_option maxHeartbeats 1000000 in
theorem findBox_any (M : Nat) (a : Option Addr) (n c : Nat) (xs : List BxA) (p : List UInt8) (w : World) (hx : xs.length = n) (h1 : RdBs M w a xs) (hn : n ≤ 1073741000) (hup : upBx (xs.map BxA.b) = true) :
    Calls Tryd.prog 33 #[.slice a n c, .string (str p)] w fun e w' =>
      e = .returned (.tuple #[.int .i64 (cntP p ((xs.map BxA.b).map (·.path)) : Nat), .bool (decide (fndP p ((xs.map BxA.b).map (·.path)) ≠ none))]) ∧ Below w.heap.size w w' := by
  have HC := Lib.hid (searchBox_any M a n c xs p w hx h1 hn hup)
  generalize cntP p ((xs.map BxA.b).map (·.path)) = cnt at *
  generalize decide (fndP p ((xs.map BxA.b).map (·.path)) ≠ none) = fd at *
  clear h1 hx hup
  go_enter Tryd.func33, Tryd.ntmps33
  go_wp2_with fail
  refine HC.out.mono ?_
  rintro e w1 ⟨rfl, hb1⟩
  go_wp2
  go_ret2
  exact ⟨rfl, hb1⟩
end Go.Proofs.YtbfjbabpeigloabDoor
end

section
namespace Go.Proofs.YtbfjbabpeigloabDoor
open Go.RowKit

/-- All blocks that were there read as they did, but those that P names. -/
structure Turn (P : Nat → Prop) (w w' : World) : Prop where
  os : w'.os = w.os
  tape : w'.tape = w.tape
  output : w'.output = w.output
  size : w.heap.size ≤ w'.heap.size
  block : ∀ k, k < w.heap.size → ¬ P k → w'.heap[k]? = w.heap[k]?
theorem Turn.refl (P : Nat → Prop) (w : World) : Turn P w w := ⟨rfl, rfl, rfl, Nat.le_refl _, fun _ _ _ => rfl⟩
theorem Turn.trans {P : Nat → Prop} {a b c : World} (h : Turn P a b) (k : Turn P b c) : Turn P a c :=
  ⟨k.os.trans h.os, k.tape.trans h.tape, k.output.trans h.output, Nat.le_trans h.size k.size, fun i hi hr => (k.block i (Nat.lt_of_lt_of_le hi h.size) hr).trans (h.block i hi hr)⟩
theorem Turn.of_below {P : Nat → Prop} {w w' : World} (h : Below w.heap.size w w') : Turn P w w' := ⟨h.os, h.tape, h.output, h.size, fun k hk _ => h.block k hk⟩
theorem Turn.ext {P : Nat → Prop} {w wr w' : World} (h : Turn P w wr) (k : Below wr.heap.size wr w') : Turn P w w' := h.trans (Turn.of_below k)
theorem Turn.setCell {P : Nat → Prop} {g i : Nat} {w w' : World} (h : Turn P w w') (hg : P g) (v : Value) : Turn P w (w'.setCell ⟨g, i, none⟩ v) :=
  ⟨h.os, h.tape, h.output, by have := h.size; simpa [World.setCell] using this, fun k hk hr => by rw [Below.heap_setCell _ _ _ _ (by show k ≠ g; intro e; exact hr (by rw [e]; exact hg))]; exact h.block k hk hr⟩
theorem Turn.mono {P Q : Nat → Prop} {w w' : World} (h : Turn P w w') (k : ∀ g, P g → Q g) : Turn Q w w' := ⟨h.os, h.tape, h.output, h.size, fun i hi hr => h.block i hi (fun e => hr (k i e))⟩
theorem Turn.only {P : Nat → Prop} {o : Option Nat} {w w' : World} (h : Only o w w') (k : ∀ g, o = some g → P g) : Turn P w w' := ⟨h.os, h.tape, h.output, h.size, fun i hi hr => h.block i hi (fun e => hr (k i e.symm))⟩
theorem Turn.below {P : Nat → Prop} {B : Nat} {w w' : World} (h : Turn P w w') (hB : ∀ g, P g → B ≤ g) (hs : B ≤ w.heap.size) : Below B w w' :=
  ⟨h.os, h.tape, h.output, h.size, fun k hk => h.block k (by omega) (fun e => by have := hB k e; omega)⟩
theorem OwnL.turned {P : Nat → Prop} {B : Nat} {v : Value} {xs : List (List UInt8)} {w w' : World} (h : OwnL B v xs w) (t : Turn P w w') (hne : ∀ q, v.ownBlock = some q → ¬ P q) : OwnL B v xs w' := by
  refine ⟨h.1, ?_⟩
  rcases h.2 with hn | ⟨g, cap, cur, hv, hg1, hg2, rest⟩
  · exact .inl hn
  · exact .inr ⟨g, cap, cur, hv, hg1, by rw [t.block g (lt_of_block hg2) (hne g (by rw [hv]; rfl)), hg2], rest⟩
theorem OwnR.turned {α : Type} {T : TypeId} {k : Nat} {f : α → List Value} {P : Nat → Prop} {B : Nat} {v : Value} {xs : List α} {w w' : World} (h : OwnR T k f B v xs w) (t : Turn P w w') (hne : ∀ q, v.ownBlock = some q → ¬ P q) : OwnR T k f B v xs w' := by
  refine ⟨h.1, ?_⟩
  rcases h.2 with hn | ⟨g, cap, cur, hv, hg1, hg2, rest⟩
  · exact .inl hn
  · exact .inr ⟨g, cap, cur, hv, hg1, by rw [t.block g (lt_of_block hg2) (hne g (by rw [hv]; rfl)), hg2], rest⟩
/-- The blocks of a mail's two rows. -/
def blk1 (x : MlA) (g : Nat) : Prop := (Value.slice x.a1 x.m.to.length x.c1).ownBlock = some g ∨ (Value.slice x.a2 x.m.lines.length x.c2).ownBlock = some g
/-- The blocks of a row of mails. -/
def blkM (v : Value) (xs : List MlA) (g : Nat) : Prop := v.ownBlock = some g ∨ ∃ x ∈ xs, blk1 x g
theorem OwnM.turned {P : Nat → Prop} {B : Nat} {x : MlA} {w w' : World} (h : OwnM B w x) (t : Turn P w w') (hne : ∀ g, blk1 x g → ¬ P g) : OwnM B w' x :=
  ⟨h.1.turned t (fun q hq => hne q (.inl hq)), h.2.1.turned t (fun q hq => hne q (.inr hq)), h.2.2⟩
theorem OwnM.lt {B : Nat} {x : MlA} {w : World} (h : OwnM B w x) {g : Nat} (hg : blk1 x g) : B ≤ g ∧ g < w.heap.size := by
  rcases hg with hg | hg
  · exact OwnL.lt h.1 g hg
  · exact OwnL.lt h.2.1 g hg
theorem OwnMs.turned {P : Nat → Prop} {B : Nat} {v : Value} {xs : List MlA} {w w' : World} (h : OwnMs B v xs w) (t : Turn P w w') (hne : ∀ g, blkM v xs g → ¬ P g) : OwnMs B v xs w' :=
  ⟨h.1.turned t (fun q hq => hne q (.inl hq)), fun x hx => (h.2.1 x hx).turned t (fun g hg => hne g (.inr ⟨x, hx, hg⟩)), h.2.2⟩
theorem OwnMs.lt {B : Nat} {v : Value} {xs : List MlA} {w : World} (h : OwnMs B v xs w) {g : Nat} (hg : blkM v xs g) : B ≤ g ∧ g < w.heap.size := by
  rcases hg with hg | ⟨x, hx, hg⟩
  · exact h.1.lt g hg
  · exact (h.2.1 x hx).lt hg
/-- The blocks of a box's row of mails. -/
def blkX (x : BxA) (g : Nat) : Prop := blkM (.slice x.a x.xs.length x.c) x.xs g
/-- The blocks of a row of boxes. -/
def blkB (v : Value) (xs : List BxA) (g : Nat) : Prop := v.ownBlock = some g ∨ ∃ x ∈ xs, blkX x g
theorem OwnBs.turned {P : Nat → Prop} {B : Nat} {v : Value} {xs : List BxA} {w w' : World} (h : OwnBs B v xs w) (t : Turn P w w') (hne : ∀ g, blkB v xs g → ¬ P g) : OwnBs B v xs w' :=
  ⟨h.1.turned t (fun q hq => hne q (.inl hq)), fun x hx => (h.2.1 x hx).turned t (fun g hg => hne g (.inr ⟨x, hx, hg⟩)), h.2.2⟩
theorem OwnBs.lt {B : Nat} {v : Value} {xs : List BxA} {w : World} (h : OwnBs B v xs w) {g : Nat} (hg : blkB v xs g) : B ≤ g ∧ g < w.heap.size := by
  rcases hg with hg | ⟨x, hx, hg⟩
  · exact h.1.lt g hg
  · exact (h.2.1 x hx).lt hg
/-- Two boxes that share no row share no block. -/
theorem apB_blk {B : Nat} {w : World} {x y : BxA} (h : ApB x y) (hx : OwnMs B (.slice x.a x.xs.length x.c) x.xs w) (hy : OwnMs B (.slice y.a y.xs.length y.c) y.xs w) {g : Nat} (h1 : blkX x g) (h2 : blkX y g) : False := by
  rcases h1 with h1 | ⟨m, hm, h1⟩
  · rcases h2 with h2 | ⟨m', hm', h2⟩
    · exact h.1 g h1 h2
    · rcases h2 with h2 | h2
      · exact strs_mails hx.1 (hy.2.1 m' hm').1 g h2 h1
      · exact strs_mails hx.1 (hy.2.1 m' hm').2.1 g h2 h1
  · rcases h2 with h2 | ⟨m', hm', h2⟩
    · rcases h1 with h1 | h1
      · exact strs_mails hy.1 (hx.2.1 m hm).1 g h1 h2
      · exact strs_mails hy.1 (hx.2.1 m hm).2.1 g h1 h2
    · exact h.2 m hm m' hm' g h1 h2
theorem ApB.symm {x y : BxA} (h : ApB x y) : ApB y x := ⟨fun g h1 h2 => h.1 g h2 h1, fun m hm m' hm' g h1 h2 => h.2 m' hm' m hm g h2 h1⟩
/-- The row of boxes itself shares no block with what is in its boxes. -/
theorem own_row_mails {B : Nat} {v : Value} {xs : List BxA} {w : World} (h : OwnBs B v xs w) {x : BxA} (hx : x ∈ xs) {g : Nat} (h1 : v.ownBlock = some g) (h2 : blkX x g) : False := by
  rcases h2 with h2 | ⟨m, hm, h2⟩
  · exact mails_boxes h.1 (h.2.1 x hx).1 g h2 h1
  · rcases h2 with h2 | h2
    · exact strs_boxes h.1 ((h.2.1 x hx).2.1 m hm).1 g h2 h1
    · exact strs_boxes h.1 ((h.2.1 x hx).2.1 m hm).2.1 g h2 h1
/-- Two boxes at the same places. -/
def SameB (x y : BxA) : Prop := x.a = y.a ∧ x.c = y.c ∧ x.xs.length = y.xs.length ∧ ∀ g, (∃ m ∈ x.xs, blk1 m g) → ∃ m ∈ y.xs, blk1 m g
theorem SameB.refl (x : BxA) : SameB x x := ⟨rfl, rfl, rfl, fun _ h => h⟩
theorem SameB.ap {x y x' y' : BxA} (h : ApB x y) (hx : SameB x' x) (hy : SameB y' y) : ApB x' y' := by
  refine ⟨fun g => ?_, fun m hm m' hm' g h1 h2 => ?_⟩
  · rw [hx.1, hx.2.1, hx.2.2.1, hy.1, hy.2.1, hy.2.2.1]; exact h.1 g
  · obtain ⟨p, hp, k1⟩ := hx.2.2.2 g ⟨m, hm, h1⟩
    obtain ⟨q, hq, k2⟩ := hy.2.2.2 g ⟨m', hm', h2⟩
    exact h.2 p hp q hq g k1 k2
theorem pair_setB {xs : List BxA} {k : Nat} {x' : BxA} (h : xs.Pairwise ApB) (hk : k < xs.length) (hs : SameB x' xs[k]) : (xs.set k x').Pairwise ApB := by
  rw [List.pairwise_iff_getElem] at h ⊢
  intro i j hi hj hij
  have hi' : i < xs.length := by simpa using hi
  have hj' : j < xs.length := by simpa using hj
  have key : ∀ (t : Nat) (ht : t < xs.length) (ht' : t < (xs.set k x').length), SameB (xs.set k x')[t] xs[t] := fun t ht ht' => by
    by_cases e : k = t
    · subst e
      rw [List.getElem_set_self]; exact hs
    · rw [List.getElem_set_ne e]; exact SameB.refl _
  exact SameB.ap (h i j hi' hj' hij) (key i hi' hi) (key j hj' hj)
theorem flat_setB {xs : List BxA} {k : Nat} {x' : BxA} (hk : k < xs.length) : (xs.set k x').flatMap bxC = ((xs.flatMap bxC).set (k * 2) (.string (str x'.path))).set (k * 2 + 1) (.slice x'.a x'.xs.length x'.c) := by
  induction xs generalizing k with
  | nil => simp at hk
  | cons x xs ih =>
    cases k with
    | zero => simp [bxC]
    | succ k =>
      have h := ih (k := k) (by simpa using hk)
      have e0 : (k + 1) * 2 = k * 2 + 2 := by omega
      simp only [List.set_cons_succ, List.flatMap_cons, h, e0]
      simp [bxC]
theorem flat_cellsB {xs : List BxA} {k : Nat} (hk : k < xs.length) : (xs.flatMap bxC)[k * 2]? = some (.string (str xs[k].path)) ∧ (xs.flatMap bxC)[k * 2 + 1]? = some (.slice xs[k].a xs[k].xs.length xs[k].c) :=
  ⟨(flat_at bxC 2 bxC_len xs k 0 (by omega) hk).trans rfl, (flat_at bxC 2 bxC_len xs k 1 (by omega) hk).trans rfl⟩
theorem set_self2 {L : List Value} {i : Nat} {v : Value} (h : L[i]? = some v) : L.set i v = L := by
  obtain ⟨hi, h⟩ := List.getElem?_eq_some_iff.1 h
  rw [← h]; exact List.set_getElem_self hi
def BxA.path' (x : BxA) (s : List UInt8) : BxA := ⟨s, x.xs, x.a, x.c⟩
def BxA.mails' (x : BxA) (ys : List MlA) : BxA := ⟨x.path, ys, x.a, x.c⟩
theorem OwnBs.setPath {B g c n k : Nat} {xs : List BxA} {w : World} {y : BxA} (h : OwnBs B (.slice (some ⟨g, 0, none⟩) n c) xs w) (hk : k < xs.length) (hy : xs[k] = y) (s : List UInt8) : OwnBs B (.slice (some ⟨g, 0, none⟩) n c) (xs.set k (y.path' s)) (w.setCell ⟨g, k * 2, none⟩ (.string (str s))) := by
  subst hy
  have hr := h.1
  unfold OwnR at hr
  have hn : xs.length = n := by
    rcases hr.2 with ⟨e, h0⟩ | ⟨g1, cap1, cur1, e1, _⟩
    · cases e
    · injection e1 with _ e1 _; exact e1.symm
  subst hn
  have t : Turn (fun q => q = g) w (w.setCell ⟨g, k * 2, none⟩ (.string (str s))) := (Turn.refl (fun q => q = g) w).setCell (show g = g from rfl) _
  have key : ∀ x ∈ xs, OwnMs B (.slice x.a x.xs.length x.c) x.xs (w.setCell ⟨g, k * 2, none⟩ (.string (str s))) := fun x hx => (h.2.1 x hx).turned t (fun q hq e => own_row_mails h hx (g := q) (by rw [e]; rfl) hq)
  refine ⟨?_, fun x hx => ?_, pair_setB h.2.2 hk ⟨rfl, rfl, rfl, fun _ h => h⟩⟩
  · unfold OwnR
    have h3 := (hr.stored (k * 2) (.string (str s))).1
    obtain ⟨_, c1⟩ := flat_cellsB hk
    have e : (xs.set k (xs[k].path' s)).flatMap bxC = (xs.flatMap bxC).set (k * 2) (.string (str s)) := by
      rw [flat_setB hk]
      have e1 : ((xs.flatMap bxC).set (k * 2) (.string (str s)))[k * 2 + 1]? = some (.slice xs[k].a xs[k].xs.length xs[k].c) := by rw [List.getElem?_set_ne (by omega)]; exact c1
      show ((xs.flatMap bxC).set (k * 2) (.string (str s))).set (k * 2 + 1) (.slice xs[k].a xs[k].xs.length xs[k].c) = _
      rw [set_self2 e1]
    rw [e, List.length_set]; exact h3
  · rcases List.mem_or_eq_of_mem_set hx with hx | rfl
    · exact key x hx
    · exact key xs[k] (List.getElem_mem hk)
/-- One box's row of mails is turned, and nothing else. -/
theorem OwnBs.setMails {B k : Nat} {v : Value} {xs : List BxA} {w w' : World} {y : BxA} {ys : List MlA} (h : OwnBs B v xs w) (hk : k < xs.length) (hy : xs[k] = y) (t : Turn (blkX y) w w') (hl : ys.length = y.xs.length) (ho : OwnMs B (.slice y.a y.xs.length y.c) ys w') (hs : ∀ g, (∃ m ∈ ys, blk1 m g) → ∃ m ∈ y.xs, blk1 m g) : OwnBs B v (xs.set k (y.mails' ys)) w' := by
  subst hy
  have hkm := List.getElem_mem hk
  refine ⟨?_, fun z hz => ?_, pair_setB h.2.2 hk ⟨rfl, rfl, hl, hs⟩⟩
  · have hr := h.1.turned t (fun q hq e => own_row_mails h hkm hq e)
    unfold OwnR at hr ⊢
    obtain ⟨c0, c1⟩ := flat_cellsB hk
    have e : (xs.set k (xs[k].mails' ys)).flatMap bxC = xs.flatMap bxC := by
      rw [flat_setB hk]
      show ((xs.flatMap bxC).set (k * 2) (.string (str xs[k].path))).set (k * 2 + 1) (.slice xs[k].a ys.length xs[k].c) = _
      rw [hl, set_self2 c0, set_self2 c1]
    rw [e, List.length_set]; exact hr
  · obtain ⟨i, hi, rfl⟩ := List.getElem_of_mem hz
    have hi' : i < xs.length := by simpa using hi
    by_cases e : k = i
    · subst e
      rw [List.getElem_set_self]
      show OwnMs B (.slice xs[k].a ys.length xs[k].c) ys w'
      rw [hl]; exact ho
    · rw [List.getElem_set_ne e]
      have hap : ApB xs[k] xs[i] := by
        have hp := List.pairwise_iff_getElem.1 h.2.2
        rcases Nat.lt_or_ge k i with h1 | h1
        · exact hp k i hk hi' h1
        · exact (hp i k hi' hk (by omega)).symm
      exact (h.2.1 _ (List.getElem_mem hi')).turned t (fun g hg e => apB_blk hap (h.2.1 _ hkm) (h.2.1 _ (List.getElem_mem hi')) e hg)
end Go.Proofs.YtbfjbabpeigloabDoor
end

section
namespace Go.Proofs.YtbfjbabpeigloabDoor
open Go.RowKit

theorem only_setRow {g : Nat} (w : World) (cs : Array Value) : Only (some g) w (w.setRow g cs) :=
  ⟨rfl, rfl, rfl, by simp [World.setRow], fun k _ hk => setRow_other w g k cs (fun e => hk (by rw [e]))⟩
theorem run_copyK {P : Program} (K : Nat) (w : World) (dT sT ty elem : TypeId) (g o dLen dCap : Nat) (a : Addr) (sLen sCap : Nat) (cur : List Value) (t : TypeId) (cs : List Value) (m : Nat)
    (hu : P.underlying dT = some (.slice elem)) (hs : (P.info? elem).map (·.size) = some K)
    (hg : w.heap[g]? = some (.cells cur.toArray t (0, 0))) (hm : m = Nat.min sLen dLen) (hn : cs.length = m * K)
    (hsrc : ∀ j v, cs[j]? = some v → w.cell? (a.add j) = some v) (hfit : o + cs.length ≤ cur.length) (h1 : ∀ v ∈ cs, v.oneCell' = true) :
    (Builtin.copy_ #[dT, sT] ty #[.slice (some ⟨g, o, none⟩) dLen dCap, .slice (some a) sLen sCap]).run P w =
      .ok (goInt m) (w.setRow g (splice cur o cs).toArray) := by
  have hl := run_loadCells_list (P := P) w a cs hsrc
  have hst := run_storeCells_at P g o t cs 0 cur.toArray w hg (by simpa using hfit) h1
  cases hq : P.info? elem with
  | none => simp [hq] at hs
  | some i =>
    have hi : i.size = K := by simpa [hq] using hs
    rw [hn] at hl
    simp [Builtin.copy_, run_underlying hu, Builtin.lenOf, Builtin.firstCells, sizeOf, typeInfo, hq, hi, ← hm, hl, hst, splice]
theorem run_copyK_none {P : Program} (w : World) (dT sT ty elem : TypeId) (d a : Option Addr) (dLen dCap sLen sCap : Nat) (hu : P.underlying dT = some (.slice elem)) (hs : ((P.info? elem).map (·.size)).isSome = true) (hn : Nat.min sLen dLen = 0) :
    (Builtin.copy_ #[dT, sT] ty #[.slice d dLen dCap, .slice a sLen sCap]).run P w = .ok (goInt 0) w := by
  cases hq : P.info? elem with
  | none => simp [hq] at hs
  | some i =>
    have hl : ∀ (x : Addr), (loadCells x 0).run P w = .ok #[] w := fun x => by simpa using run_loadCells_list (P := P) w x [] (by simp)
    cases d <;> cases a <;> simp [Builtin.copy_, run_underlying hu, Builtin.lenOf, Builtin.firstCells, sizeOf, typeInfo, hq, hn, storeCells, hl]
/-- One copy in a list of operations, into a row that is known whole. -/
theorem wpList_copyK {P : Program} {w : World} {ops : Array Oper} {rest : List Oper} {o : Oper} {a : Act} {Q : Exit → Act → World → Prop} (K : Nat) (hgd : o.guard = none) (d s : Operand) (dT sT : TypeId)
    (ho : o.op = .call { callee := .builtin .copy, args := #[d, s], argTypes := #[dT, sT] }) (elem : TypeId) (hu : P.underlying dT = some (.slice elem)) (hsz : (P.info? elem).map (·.size) = some K)
    (g off dLen dCap : Nat) (ad : Addr) (sLen sCap : Nat) (hd : a.eval d = .slice (some ⟨g, off, none⟩) dLen dCap) (hs : a.eval s = .slice (some ad) sLen sCap)
    (cur : List Value) (t : TypeId) (hg : w.heap[g]? = some (.cells cur.toArray t (0, 0))) (cs : List Value) (m : Nat) (hm : m = Nat.min sLen dLen) (hn : cs.length = m * K)
    (hsrc : ∀ j v, cs[j]? = some v → w.cell? (ad.add j) = some v) (hfit : off + cs.length ≤ cur.length) (h1 : ∀ v ∈ cs, v.oneCell' = true)
    (h : ∀ w', Hid (w'.heap[g]? = some (.cells (splice cur off cs).toArray t (0, 0))) → Only (some g) w w' → wpList P ops Q rest (a.put o.dst (goInt m)) w') : wpList P ops Q (o :: rest) a w := by
  refine wpList_plain hgd fun K' hK => ?_
  have hrun := run_copyK (P := P) K w dT sT o.type elem g off dLen dCap ad sLen sCap cur t cs m hu hsz hg hm hn hsrc hfit h1
  unfold Oper.wp
  simp [execOp, ho, resolve, invoke, builtin, hd, hs, hrun, Result.andThen]
  exact hK _ _ (h _ (setRow_heap w g _ _ t _ hg) (only_setRow w _))
/-- The same as one step of a region that draws its order. -/
theorem step_copyK {P : Program} {ops : Array Oper} {o : Oper} {a : Act} {w : World} {K : Act → World → Prop} {Q : Exit → Act → World → Prop} {E : Prop} (N : Nat) (hgd : o.guard = none) (d s : Operand) (dT sT : TypeId)
    (ho : o.op = .call { callee := .builtin .copy, args := #[d, s], argTypes := #[dT, sT] }) (elem : TypeId) (hu : P.underlying dT = some (.slice elem)) (hsz : (P.info? elem).map (·.size) = some N)
    (g off dLen dCap : Nat) (ad : Addr) (sLen sCap : Nat) (hd : a.eval d = .slice (some ⟨g, off, none⟩) dLen dCap) (hs : a.eval s = .slice (some ad) sLen sCap)
    (cur : List Value) (t : TypeId) (hg : w.heap[g]? = some (.cells cur.toArray t (0, 0))) (cs : List Value) (m : Nat) (hm : m = Nat.min sLen dLen) (hn : cs.length = m * N)
    (hsrc : ∀ j v, cs[j]? = some v → w.cell? (ad.add j) = some v) (hfit : off + cs.length ≤ cur.length) (h1 : ∀ v ∈ cs, v.oneCell' = true)
    (h : ∀ w', Hid (w'.heap[g]? = some (.cells (splice cur off cs).toArray t (0, 0))) → Only (some g) w w' → K (a.put o.dst (goInt m)) w') :
    if Region.wanted o (yielded ops a.tmps) = true then Oper.wp P o a w K Q else E := by
  have hw : Region.wanted o (yielded ops a.tmps) = true := by simp [Region.wanted, hgd]
  rw [if_pos hw]
  have hrun := run_copyK (P := P) N w dT sT o.type elem g off dLen dCap ad sLen sCap cur t cs m hu hsz hg hm hn hsrc hfit h1
  unfold Oper.wp
  simp [execOp, ho, resolve, invoke, builtin, hd, hs, hrun, Result.andThen]
  exact h _ (setRow_heap w g _ _ t _ hg) (only_setRow w _)
/-- A row into which one thing was put: behind the first i things. -/
theorem splice_in {D X Y : List Value} {I J K : Nat} (hIJ : I ≤ J) (hD : J + K ≤ D.length) (hX : X = (D.take J).drop I) (hY : Y.length = K) :
    (splice (splice D (I + K) X) I Y).take (J + K) = (D.take J).take I ++ Y ++ (D.take J).drop I := by
  have hXl : X.length = J - I := by rw [hX, List.length_drop, List.length_take]; omega
  have hXe : ∀ j, X[j]? = if j < J - I then D[I + j]? else none := fun j => by
    rw [hX, List.getElem?_drop, List.getElem?_take]
    by_cases h : j < J - I
    · rw [if_pos h, if_pos (by omega)]
    · rw [if_neg h, if_neg (by omega)]
  clear hX
  unfold splice
  apply List.ext_getElem?
  intro j
  simp only [List.getElem?_take, List.getElem?_append, List.getElem?_drop, List.length_append, List.length_take, List.length_drop, hXl, hY, hXe]
  by_cases h1 : j < I
  · repeat' split
    all_goals first | rfl | omega | (congr 1; omega)
  · by_cases h2 : j < I + K
    · repeat' split
      all_goals first | rfl | omega | (congr 1; omega)
    · by_cases h3 : j < J + K
      · repeat' split
        all_goals first | rfl | omega | (congr 1; omega)
      · repeat' split
        all_goals first | rfl | omega | (congr 1; omega)
theorem splice_two {D X Y : List Value} {I A B C : Nat} (hA : A = I + 2) (hB : B = C) (hD : A + X.length = B ∧ B ≤ D.length) (hY : Y.length = 2) (hX : X.length = C - A) :
    (splice (splice D I Y) A X).take B = D.take I ++ Y ++ X := by
  subst hA hB
  unfold splice
  apply List.ext_getElem?
  intro j
  have hl := hD.1
  have hm := hD.2
  simp only [List.getElem?_take, List.getElem?_append, List.getElem?_drop, List.length_append, List.length_take, List.length_drop, hY]
  by_cases h1 : j < I
  · repeat' split
    all_goals first | rfl | omega | (congr 1; omega)
  · by_cases h2 : j < I + 2
    · repeat' split
      all_goals first | rfl | omega | (congr 1; omega)
    · by_cases h3 : j < B
      · repeat' split
        all_goals first | rfl | omega | (congr 1; omega)
      · rw [if_neg h3]
        repeat' split
        all_goals first | rfl | omega | (symm; rw [List.getElem?_eq_none_iff]; omega)
end Go.Proofs.YtbfjbabpeigloabDoor
end
