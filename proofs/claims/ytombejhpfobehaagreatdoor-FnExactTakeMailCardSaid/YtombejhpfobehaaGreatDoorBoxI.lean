/-
  Mailboxes: what the program's functions that test and count them return. No statement is proved here.
-/
import Derived.Test.YtombejhpfobehaaGreatDoorBox
import Derived.Test.YtombejhpfobehaaGreatDoorSsnI
import Derived.Test.YtombejhpfobehaaGreatDoorQuietB
import Derived.Deep.QuietTactic
import Derived.BigQuiet
namespace Go.Proofs.YtombejhpfobehaaGreatDoor
open Go.RowKit

def isBx (b : Bx) : Bool := isPath b.path && (decide (b.mails.length ≤ 4) && b.mails.all isMail)
/-- Two paths in order. -/
def ltP (a b : List UInt8) : Bool := Op.bytesLess (str a).toList (str b).toList
def upBx : List Bx → Bool
  | [] => true
  | [_] => true
  | a :: b :: bs => ltP a.path b.path && upBx (b :: bs)
def isBxs (bs : List Bx) : Bool := decide (bs.length ≤ 8) && (bs.all isBx && upBx bs)
theorem upBx_iff : ∀ bs : List Bx, upBx bs = true ↔ ∀ i, (h : i + 1 < bs.length) → ltP bs[i].path bs[i + 1].path = true
  | [] => by simp [upBx]
  | [a] => by simp [upBx]
  | a :: b :: bs => by
    rw [upBx, Bool.and_eq_true, upBx_iff (b :: bs)]
    constructor
    · rintro ⟨h1, h2⟩ i hi
      cases i with
      | zero => exact h1
      | succ i => exact h2 i (by simp at hi ⊢; omega)
    · intro h
      exact ⟨h 0 (by simp), fun i hi => h (i + 1) (by simp at hi ⊢; omega)⟩
theorem up_bad {bs : List Bx} {i : Nat} (h : i + 1 < bs.length) (hp : ltP bs[i].path bs[i + 1].path = false) : upBx bs = false := by
  rw [Bool.eq_false_iff]; intro h'
  rw [(upBx_iff bs).1 h' i h] at hp; cases hp
theorem isBxs_long {bs : List Bx} (h : 8 < bs.length) : isBxs bs = false := by unfold isBxs; rw [decide_eq_false (by omega)]; rfl
theorem isBxs_all {bs : List Bx} (h : bs.all isBx = false) : isBxs bs = false := by unfold isBxs; rw [h]; simp
theorem isBxs_up {bs : List Bx} (h : upBx bs = false) : isBxs bs = false := by unfold isBxs; rw [h]; simp
theorem isBxs_yes {bs : List Bx} (h : bs.length ≤ 8) (h1 : bs.all isBx = true) (h2 : upBx bs = true) : isBxs bs = true := by unfold isBxs; rw [h1, h2, decide_eq_true h]; rfl
set_option maxRecDepth 100000 in
set_option maxHeartbeats 2000000 in
theorem boxValid_any (M : Nat) (x : BxA) (w : World) (en : Env w) (h1 : RdBx M w x) (hM : M ≤ 1073741000) :
    Calls Tryz.prog 92 #[.agg #[.string (str x.path), .slice x.a x.xs.length x.c]] w fun e w' => e = .returned (.bool (isBx x.b)) ∧ Below w.heap.size w w' := by
  have HP : Hid (∀ u, Below w.heap.size w u → Calls Tryz.prog 49 #[.string (str x.path)] u fun e w' => e = .returned (.bool (isPath x.b.path)) ∧ Below u.heap.size u w') := fun u hb => by
    have := pathValid_any (str x.path) u (en.below hb) (by rw [str_size]; have := h1.2.1; omega)
    rw [str_list] at this; exact this
  have HA : Hid (∀ u, Below w.heap.size w u → Calls Tryz.prog 132 #[.slice x.a x.xs.length x.c, .func (.func 62) #[] #[]] u fun e w' => e = .returned (.bool (x.b.mails.all isMail)) ∧ Below u.heap.size u w') := fun u hb => allValid_mail M x.a x.xs.length x.c x.xs u (en.below hb) rfl (h1.1.below hb) hM (by have := h1.2.2.1; omega)
  have hl : x.b.mails.length = x.xs.length := by unfold BxA.b; simp
  unfold isBx
  rw [hl]
  have e2 : decide (x.xs.length ≤ 4) = decide ((x.xs.length : Int) ≤ 4) := decide_eq_decide.2 (by omega)
  rw [e2]
  have hz : x.xs.length ≤ 1073741000 := by have := h1.2.2.1; omega
  clear h1 hl e2 en hM
  generalize isPath x.b.path = g0 at *
  generalize x.b.mails.all isMail = g1 at *
  generalize str x.path = s1 at *
  generalize x.xs.length = n1 at *
  generalize x.a = a1 at *
  generalize x.c = c1 at *
  have hA1 : Below w.heap.size w (w.alloc (.cells #[.string s1, .slice a1 n1 c1] 78)) := (Below.refl _ _).alloc (Nat.le_refl _) _
  have HX := Lib.hid (MK2.new w (.string s1) (.slice a1 n1 c1) 78)
  go_enter Tryz.func92, Tryz.ntmps92
  go_wp2_with fail
  refine (HP.out _ hA1).mono ?_
  rintro e w1 ⟨rfl, hb1⟩
  have hb01 := nx hA1 hb1
  obtain ⟨y0, y1⟩ := HX.out.below hb1
  cases g0
  · go_wp2
    go_ret
    exact ⟨rfl, hb01⟩
  · by_cases k1 : (n1 : Int) ≤ 4
    · have z1 := decide_eq_true k1
      go_wp2_with fail
      refine (HA.out _ hb01).mono ?_
      rintro e w2 ⟨rfl, hb2⟩
      go_wp2
      go_ret
      exact ⟨ret_bool (by rw [z1]; rfl), nx hb01 hb2⟩
    · have z1 := decide_eq_false k1
      go_wp2
      go_ret
      exact ⟨ret_bool (by rw [z1]; rfl), hb01⟩
theorem bx_bad {xs : List BxA} {k : Nat} (h : k < xs.length) (hp : isBx xs[k].b = false) : (xs.map BxA.b).all isBx = false := by
  rw [List.all_eq_false]; exact ⟨_, List.mem_map.2 ⟨_, List.getElem_mem h, rfl⟩, by simp [hp]⟩
theorem bx_good {xs : List BxA} {n : Nat} (hn : xs.length ≤ n) (h : ∀ j, j < n → (h' : j < xs.length) → isBx xs[j].b = true) : (xs.map BxA.b).all isBx = true := by
  rw [List.all_eq_true]; intro x hx
  obtain ⟨y, hy, rfl⟩ := List.mem_map.1 hx
  obtain ⟨j, hj, rfl⟩ := List.getElem_of_mem hy
  exact h j (by omega) hj
set_option maxRecDepth 100000 in
set_option maxHeartbeats 4000000 in
theorem allValid_box (M : Nat) (a : Option Addr) (n c : Nat) (xs : List BxA) (w : World) (en : Env w) (hx : xs.length = n) (h1 : RdBs M w a xs) (hM : M ≤ 1073741000) (hn : n ≤ 1073741000) :
    Calls Tryz.prog 91 #[.slice a n c, .func (.func 92) #[] #[]] w fun e w' => e = .returned (.bool ((xs.map BxA.b).all isBx)) ∧ Below w.heap.size w w' := by
  have X1 := Lib.hid h1
  have L1 := Lib.hid hx
  clear h1 hx
  go_enter Tryz.func91, Tryz.ntmps91
  go_wp2_with fail
  go_loopw [9] (fun i wr => ∃ k : Nat, k ≤ n ∧ i = .int .i64 k ∧ Below w.heap.size w wr ∧ ∀ j, j < k → (h' : j < xs.length) → isBx xs[j].b = true) (fun i _ => n - (intOf i).toNat)
  case atStart => exact ⟨0, Nat.zero_le _, rfl, Below.refl _ _, fun j h => by omega⟩
  case round =>
    obtain ⟨k, hk, rfl, hb, hall⟩ := hrel
    have HA := Lib.hid hall
    clear hall
    by_cases hlt : k < n
    · have k1 : k < xs.length := by rw [L1.out]; exact hlt
      obtain ⟨b1, o1, rfl, hb1, p0, p1, p3⟩ := (X1.out.below hb).at k1
      have hkn : (k : Int) < (n : Int) := by omega
      have hk0 : (0 : Int) ≤ (k : Int) := by omega
      have HC : Hid (∀ u, Below wr.heap.size wr u → Calls Tryz.prog 92 #[.agg #[.string (str xs[k].path), .slice xs[k].a xs[k].xs.length xs[k].c]] u fun e w' => e = .returned (.bool (isBx xs[k].b)) ∧ Below u.heap.size u w') := fun u hu => boxValid_any M xs[k] u (en.below (nx hb hu)) (p3.below hu) hM
      clear p3
      cases hq : isBx xs[k].b
      · have HN : Hid ((xs.map BxA.b).all isBx = false) := bx_bad k1 hq
        rw [hq] at HC
        clear hq
        generalize xs[k] = x at *
        go_wp2_with fail
        refine (HC.out _ ((Below.refl _ _).alloc (Nat.le_refl _) _)).mono ?_
        rintro e w5 ⟨rfl, hb5⟩
        have hbx := nx hb (nx ((Below.refl _ _).alloc (Nat.le_refl _) _) hb5)
        clear p0 p1
        go_wp2
        go_ret
        exact ⟨ret_bool HN.out.symm, hbx⟩
      · have HQ : Hid (∀ j (h' : j < xs.length), j = k → isBx xs[j].b = true) := fun j h' e => by subst e; exact hq
        rw [hq] at HC
        clear hq
        generalize xs[k] = x at *
        go_wp2_with fail
        refine (HC.out _ ((Below.refl _ _).alloc (Nat.le_refl _) _)).mono ?_
        rintro e w5 ⟨rfl, hb5⟩
        have hbx := nx hb (nx ((Below.refl _ _).alloc (Nat.le_refl _) _) hb5)
        clear p0 p1
        go_wp2
        go_roundw
        case rel => exact ⟨k + 1, by omega, by go_num, hbx, fun j h h' => by
          by_cases e : j = k
          · exact HQ.out j h' e
          · exact HA.out j (by omega) h'⟩
        case measure => simp [intOf]; omega
    · have HN : Hid ((xs.map BxA.b).all isBx = true) := bx_good (n := n) (by have := L1.out; omega) (fun j h h' => HA.out j (by omega) h')
      go_wp2
      go_ret
      exact ⟨ret_bool HN.out.symm, hb⟩
theorem bx_upbad {xs : List BxA} {i : Nat} (h : i + 1 < xs.length) (hp : ltP xs[i].path xs[i + 1].path = false) : upBx (xs.map BxA.b) = false := by
  refine up_bad (i := i) (by simpa using h) ?_
  simp only [List.getElem_map]; exact hp
theorem bx_upgood {xs : List BxA} {n : Nat} (hn : xs.length ≤ n) (h : ∀ j, j + 1 < n → (h' : j + 1 < xs.length) → ltP xs[j].path xs[j + 1].path = true) : upBx (xs.map BxA.b) = true := by
  rw [upBx_iff]; intro i hi
  simp only [List.getElem_map]
  have hi' : i + 1 < xs.length := by simpa using hi
  exact h i (by omega) hi'
set_option maxRecDepth 100000 in
set_option maxHeartbeats 4000000 in
theorem boxesValid_any (M : Nat) (a : Option Addr) (n c : Nat) (xs : List BxA) (w : World) (en : Env w) (hx : xs.length = n) (h1 : RdBs M w a xs) (hM : M ≤ 1073741000) (hn : n ≤ 1073741000) :
    Calls Tryz.prog 48 #[.slice a n c] w fun e w' => e = .returned (.bool (isBxs (xs.map BxA.b))) ∧ Below w.heap.size w w' := by
  have hl : (xs.map BxA.b).length = n := by rw [List.length_map]; exact hx
  by_cases hbig : 8 < n
  · have HN : Hid (isBxs (xs.map BxA.b) = false) := isBxs_long (by omega)
    have d0 : decide ((n : Int) > 8) = true := decide_eq_true (by omega)
    clear h1 hl hx
    go_enter Tryz.func48, Tryz.ntmps48
    go_wp2
    go_ret
    exact ⟨ret_bool HN.out.symm, Below.refl _ _⟩
  · have HA : Hid (Calls Tryz.prog 91 #[.slice a n c, .func (.func 92) #[] #[]] w fun e w' => e = .returned (.bool ((xs.map BxA.b).all isBx)) ∧ Below w.heap.size w w') := allValid_box M a n c xs w en hx h1 hM hn
    have d0 : decide ((n : Int) > 8) = false := decide_eq_false (by omega)
    cases hq : (xs.map BxA.b).all isBx
    · have HN : Hid (isBxs (xs.map BxA.b) = false) := isBxs_all hq
      rw [hq] at HA
      clear h1 hl hx hq
      go_enter Tryz.func48, Tryz.ntmps48
      go_wp2_with fail
      refine HA.out.mono ?_
      rintro e w1 ⟨rfl, hb1⟩
      go_wp2
      go_ret
      exact ⟨ret_bool HN.out.symm, hb1⟩
    · have HG : Hid (upBx (xs.map BxA.b) = true → isBxs (xs.map BxA.b) = true) := fun h => isBxs_yes (by omega) hq h
      rw [hq] at HA
      have X1 := Lib.hid h1
      have L1 := Lib.hid hx
      clear h1 hl hx hq
      go_enter Tryz.func48, Tryz.ntmps48
      go_wp2_with fail
      refine HA.out.mono ?_
      rintro e w1 ⟨rfl, hb1⟩
      go_wp2_with fail
      go_loopw [3] (fun i wr => ∃ k : Nat, 1 ≤ k ∧ i = .int .i64 k ∧ Below w.heap.size w wr ∧ ∀ j, j + 1 < k → (h' : j + 1 < xs.length) → ltP xs[j].path xs[j + 1].path = true) (fun i _ => n - (intOf i).toNat)
      case atStart => exact ⟨1, Nat.le_refl _, rfl, hb1, fun j h => by omega⟩
      case round =>
        obtain ⟨k, hk, rfl, hb, hall⟩ := hrel
        have HALL := Lib.hid hall
        clear hall hb1
        by_cases hlt : k < n
        · have k1 : k < xs.length := by rw [L1.out]; exact hlt
          have k0 : k - 1 < xs.length := by omega
          obtain ⟨b1, o1, rfl, hl1, p0, p1, p3⟩ := (X1.out.below hb).at k1
          obtain ⟨b2, o2, he2, hl2, q0, q1, q3⟩ := (X1.out.below hb).at k0
          injection he2 with he2
          injection he2 with e1 e2
          subst e1 e2
          have hkn : (k : Int) < (n : Int) := by omega
          have hi0 : (0 : Int) ≤ (k : Int) - 1 := by omega
          have hi1 : (k : Int) - 1 < (n : Int) := by omega
          have hi2 : ((k : Int) - 1).toNat = k - 1 := by omega
          have zc0 : ∀ y : BelowT wr, y.val.cell? ⟨b1, o1 + k * 2, none⟩ = some (.string (str xs[k].path)) := fun y => (below_at y.below hl1).trans p0
          have zc1 : ∀ y : BelowT wr, y.val.cell? ⟨b1, o1 + (k - 1) * 2, none⟩ = some (.string (str xs[k - 1].path)) := fun y => (below_at y.below hl2).trans q0
          clear p0 p1 p3 q0 q1 q3
          have HK : Hid (∀ h : k - 1 + 1 < xs.length, ltP xs[k - 1].path xs[k - 1 + 1].path = ltP xs[k - 1].path xs[k].path) := fun h => by
            have : k - 1 + 1 = k := by omega
            simp only [this]
          cases hq : ltP xs[k - 1].path xs[k].path
          · have HN : Hid (isBxs (xs.map BxA.b) = false) := isBxs_up (bx_upbad (i := k - 1) (by omega) (by rw [HK.out (by omega)]; exact hq))
            have hq' : Op.bytesLess (str xs[k - 1].path).toList (str xs[k].path).toList = false := hq
            clear hq
            generalize str xs[k - 1].path = s1 at *
            generalize str xs[k].path = s2 at *
            go_wp2_with fail
            refine wp_region_quietB (W := wr) (by kernel_rfl) (by kernel_rfl) (Below.refl _ _) ?_
            repeat (go_big_quiet_step (fail))
            refine wpQuiet_nil ?_
            intro wz hwz
            obtain ⟨x9, rfl⟩ := hwz
            have hb9 := nx hb x9.below
            clear zc0 zc1
            generalize x9.val = w9 at *
            go_wp2
            go_ret
            exact ⟨ret_bool HN.out.symm, hb9⟩
          · have HQ : Hid (∀ j (h' : j + 1 < xs.length), j = k - 1 → ltP xs[j].path xs[j + 1].path = true) := fun j h' e => by subst e; rw [HK.out h']; exact hq
            have hq' : Op.bytesLess (str xs[k - 1].path).toList (str xs[k].path).toList = true := hq
            clear hq
            generalize str xs[k - 1].path = s1 at *
            generalize str xs[k].path = s2 at *
            go_wp2_with fail
            refine wp_region_quietB (W := wr) (by kernel_rfl) (by kernel_rfl) (Below.refl _ _) ?_
            repeat (go_big_quiet_step (fail))
            refine wpQuiet_nil ?_
            intro wz hwz
            obtain ⟨x9, rfl⟩ := hwz
            have hb9 := nx hb x9.below
            clear zc0 zc1
            generalize x9.val = w9 at *
            go_wp2
            go_roundw
            case rel => exact ⟨k + 1, by omega, by go_num, hb9, fun j h h' => by
              by_cases e : j = k - 1
              · exact HQ.out j h' e
              · exact HALL.out j (by omega) h'⟩
            case measure => simp [intOf]; omega
        · have HN : Hid (isBxs (xs.map BxA.b) = true) := HG.out (bx_upgood (n := k) (by have := L1.out; omega) (fun j h h' => HALL.out j h h'))
          go_wp2
          go_ret
          exact ⟨ret_bool HN.out.symm, hb⟩
def heldL (bs : List Bx) : Nat := (bs.map (fun b => b.mails.length)).sum
def heldB (bs : List Bx) : Nat := if isBxs bs then heldL bs else 0
theorem held_take {xs : List BxA} {k : Nat} (h : k < xs.length) : heldL ((xs.take (k + 1)).map BxA.b) = heldL ((xs.take k).map BxA.b) + xs[k].xs.length := by
  rw [take_bxs h]; unfold heldL; rw [List.map_append, List.sum_append]; simp [BxA.b]
theorem bxs_mails {bs : List Bx} (h : isBxs bs = true) : bs.length ≤ 8 ∧ ∀ b ∈ bs, b.mails.length ≤ 4 := by
  unfold isBxs at h
  rw [Bool.and_eq_true, Bool.and_eq_true, decide_eq_true_eq, List.all_eq_true] at h
  refine ⟨h.1, fun b hb => ?_⟩
  have := h.2.1 b hb
  unfold isBx at this
  simp at this; exact this.2.1
theorem heldL_le : ∀ {bs : List Bx}, (∀ b ∈ bs, b.mails.length ≤ 4) → heldL bs ≤ 4 * bs.length
  | [], _ => Nat.le_refl _
  | b :: bs, h => by
    have h1 := h b (by simp)
    have h2 := heldL_le (bs := bs) (fun x hx => h x (by simp [hx]))
    unfold heldL at *
    simp; omega
end Go.Proofs.YtombejhpfobehaaGreatDoor
