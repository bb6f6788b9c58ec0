/-
  Sessions: what the program's function that tests them returns. No statement is proved here.
-/
import Derived.Test.YtombejhpfobehaaGreatDoorSsnB
import Derived.Test.YtombejhpfobehaaGreatDoorMalI
namespace Go.Proofs.YtombejhpfobehaaGreatDoor
open Go.RowKit

def hostB (z0 z5 e D : Bool) : Bool := cond e (z0 || z5) (!z0 && D)
theorem hostOk_b (S : Ssn) : hostOk S = hostB (decide (S.state = 0)) (decide (S.state = 5)) (decide (S.host = [])) (isDomain S.host) := by
  unfold hostOk hostB
  by_cases h : S.host = []
  · rw [if_pos h, decide_eq_true h]; rfl
  · rw [if_neg h, decide_eq_false h]; rfl
def fitSs (z2 z3 z4 f p q : Bool) : Bool := ((z2 || z3 || z4) || f) && ((z3 || z4) == p) && (z4 || q)
theorem fitOk_b (S : Ssn) : fitOk S = fitSs (decide (S.state = 2)) (decide (S.state = 3)) (decide (S.state = 4)) (decide (S.draft.frm = [])) (decide ((0 : Int) < (S.draft.to.length : Int))) (decide ((S.draft.lines.length : Int) = 0)) := by
  have e1 : decide (0 < S.draft.to.length) = decide ((0 : Int) < (S.draft.to.length : Int)) := decide_eq_decide.2 (by omega)
  have e2 : decide (S.draft.lines.length = 0) = decide ((S.draft.lines.length : Int) = 0) := decide_eq_decide.2 (by omega)
  unfold fitOk fitSs
  rw [e1, e2]
theorem isSsn_b (S : Ssn) : isSsn S = ((decide (0 ≤ S.state) && decide (S.state ≤ 5)) && hostOk S && isDraft S.draft && fitOk S && (decide ((S.done.length : Int) ≤ 5) && S.done.all isMail)) := by
  have e1 : decide (S.done.length ≤ 5) = decide ((S.done.length : Int) ≤ 5) := decide_eq_decide.2 (by omega)
  unfold isSsn
  rw [e1]
set_option maxRecDepth 100000 in
set_option maxHeartbeats 2000000 in
theorem hostFits_any (st : Int) (h s : ByteArray) (a : Option Addr) (n c : Nat) (b : Option Addr) (k d : Nat) (e : Option Addr) (r q : Nat) (l : List UInt8) (w : World) (en : Env w) (hl : h = str l) (hs : l.length ≤ 1073741000) :
    Calls Tryz.prog 130 #[.agg #[.int .i64 st, .string h, .string s, .slice a n c, .slice b k d, .slice e r q]] w fun e w' => e = .returned (.bool (hostB (decide (st = 0)) (decide (st = 5)) (decide (l = [])) (isDomain l))) ∧ Below w.heap.size w w' := by
  have H1 : Hid (∀ u, Below w.heap.size w u → Calls Tryz.prog 72 #[.string h] u fun e w' => e = .returned (.bool (isDomain l)) ∧ Below u.heap.size u w') := fun u hb => by
    have := domainValid_any h u (en.below hb) (by rw [hl, str_size]; omega)
    rw [hl, str_list] at this; rw [hl]; exact this
  have d0 := eqEmp l
  rw [← hl] at d0
  have d0' : (h.toList != []) = !decide (l = []) := by rw [bne, d0]
  have t0 : (st == 0) = decide (st = 0) := rfl
  have t0' : (st != 0) = !decide (st = 0) := rfl
  have t5 : (st == 5) = decide (st = 5) := rfl
  clear hl hs en
  generalize decide (st = 0) = z0 at *
  generalize decide (st = 5) = z5 at *
  generalize decide (l = []) = g0 at *
  generalize isDomain l = g1 at *
  have hA : Below w.heap.size w (w.alloc (.cells #[.int .i64 st, .string h, .string s, .slice a n c, .slice b k d, .slice e r q] 60)) := (Below.refl _ _).alloc (Nat.le_refl _) _
  have HX := Lib.hid (SK6.new w (.int .i64 st) (.string h) (.string s) (.slice a n c) (.slice b k d) (.slice e r q) 60)
  cases g0
  · cases z0
    · go_enter Tryz.func130, Tryz.ntmps130
      go_wp2_with fail
      refine (H1.out _ hA).mono ?_
      rintro e w1 ⟨rfl, hb1⟩
      go_wp2
      go_ret
      exact ⟨rfl, nx hA hb1⟩
    · go_enter Tryz.func130, Tryz.ntmps130
      go_wp2
      go_ret
      exact ⟨rfl, hA⟩
  · cases z0 <;> cases z5
    all_goals
      go_enter Tryz.func130, Tryz.ntmps130
      go_wp2
      go_ret
      exact ⟨rfl, hA⟩
set_option maxRecDepth 100000 in
set_option maxHeartbeats 4000000 in
theorem draftFits_any (st : Int) (h s : ByteArray) (a : Option Addr) (n c : Nat) (b : Option Addr) (k d : Nat) (e : Option Addr) (r q : Nat) (l : List UInt8) (w : World) (hl : s = str l) (hn : n ≤ 1073741000) (hk : k ≤ 1073741000) :
    Calls Tryz.prog 131 #[.agg #[.int .i64 st, .string h, .string s, .slice a n c, .slice b k d, .slice e r q]] w fun e w' => e = .returned (.bool (fitSs (decide (st = 2)) (decide (st = 3)) (decide (st = 4)) (decide (l = [])) (decide ((0 : Int) < (n : Int))) (decide ((k : Int) = 0)))) ∧ Below w.heap.size w w' := by
  have d0 := eqEmp l
  rw [← hl] at d0
  have t2 : (st == 2) = decide (st = 2) := rfl
  have t3 : (st == 3) = decide (st = 3) := rfl
  have t4 : (st == 4) = decide (st = 4) := rfl
  clear hl
  generalize decide (st = 2) = z2 at *
  generalize decide (st = 3) = z3 at *
  generalize decide (st = 4) = z4 at *
  generalize decide (l = []) = g0 at *
  have hA : Below w.heap.size w (w.alloc (.cells #[.int .i64 st, .string h, .string s, .slice a n c, .slice b k d, .slice e r q] 60)) := (Below.refl _ _).alloc (Nat.le_refl _) _
  rcases Nat.eq_zero_or_pos n with rfl | kn
  all_goals rcases Nat.eq_zero_or_pos k with rfl | kk
  all_goals cases z2 <;> cases z3 <;> cases z4 <;> cases g0
  all_goals
    try (have k1 : (0 : Int) < (n : Int) := by omega)
    try (have y1 := decide_eq_true k1)
    try (have k2 : ¬ (k : Int) = 0 := by omega)
    try (have y2 := decide_eq_false k2)
    go_enter Tryz.func131, Tryz.ntmps131
    go_wp2
    go_ret
    exact ⟨ret_bool (by first | rfl | (rw [y1, y2]; rfl) | (rw [y1, y2]; exact y2) | (rw [y2]; rfl) | (rw [y1]; rfl) | (rw [y2]; exact y2) | exact y2), hA⟩

theorem ml_bad {xs : List MlA} {k : Nat} (h : k < xs.length) (hp : isMail xs[k].m = false) : (xs.map (·.m)).all isMail = false := by
  rw [List.all_eq_false]; exact ⟨_, List.mem_map.2 ⟨_, List.getElem_mem h, rfl⟩, by simp [hp]⟩
theorem ml_good {xs : List MlA} {n : Nat} (hn : xs.length ≤ n) (h : ∀ j, j < n → (h' : j < xs.length) → isMail xs[j].m = true) : (xs.map (·.m)).all isMail = true := by
  rw [List.all_eq_true]; intro x hx
  obtain ⟨y, hy, rfl⟩ := List.mem_map.1 hx
  obtain ⟨j, hj, rfl⟩ := List.getElem_of_mem hy
  exact h j (by omega) hj
set_option maxRecDepth 100000 in
set_option maxHeartbeats 4000000 in
theorem allValid_mail (M : Nat) (a : Option Addr) (n c : Nat) (xs : List MlA) (w : World) (en : Env w) (hx : xs.length = n) (h1 : RdMs M w a xs) (hM : M ≤ 1073741000) (hn : n ≤ 1073741000) :
    Calls Tryz.prog 132 #[.slice a n c, .func (.func 62) #[] #[]] w fun e w' => e = .returned (.bool ((xs.map (·.m)).all isMail)) ∧ Below w.heap.size w w' := by
  have X1 := Lib.hid h1
  have L1 := Lib.hid hx
  clear h1 hx
  go_enter Tryz.func132, Tryz.ntmps132
  go_wp2_with fail
  go_loopw [9] (fun i wr => ∃ k : Nat, k ≤ n ∧ i = .int .i64 k ∧ Below w.heap.size w wr ∧ ∀ j, j < k → (h' : j < xs.length) → isMail xs[j].m = true) (fun i _ => n - (intOf i).toNat)
  case atStart => exact ⟨0, Nat.zero_le _, rfl, Below.refl _ _, fun j h => by omega⟩
  case round =>
    obtain ⟨k, hk, rfl, hb, hall⟩ := hrel
    have HA := Lib.hid hall
    clear hall
    by_cases hlt : k < n
    · have k1 : k < xs.length := by rw [L1.out]; exact hlt
      obtain ⟨b1, o1, rfl, hb1, p0, p1, p2, p3⟩ := (X1.out.below hb).at k1
      have hkn : (k : Int) < (n : Int) := by omega
      have hk0 : (0 : Int) ≤ (k : Int) := by omega
      have HC : Hid (∀ u, Below wr.heap.size wr u → Calls Tryz.prog 62 #[.agg #[.string (str xs[k].m.frm), .slice xs[k].a1 xs[k].m.to.length xs[k].c1, .slice xs[k].a2 xs[k].m.lines.length xs[k].c2]] u fun e w' => e = .returned (.bool (isMail xs[k].m)) ∧ Below u.heap.size u w') := fun u hu => mailValid_any M xs[k] u (en.below (nx hb hu)) (p3.below hu) hM
      clear p3
      cases hq : isMail xs[k].m
      · have HN : Hid ((xs.map (·.m)).all isMail = false) := ml_bad k1 hq
        rw [hq] at HC
        clear hq
        generalize xs[k] = x at *
        go_wp2_with fail
        refine (HC.out _ ((Below.refl _ _).alloc (Nat.le_refl _) _)).mono ?_
        rintro e w5 ⟨rfl, hb5⟩
        have hbx := nx hb (nx ((Below.refl _ _).alloc (Nat.le_refl _) _) hb5)
        clear p0 p1 p2
        go_wp2
        go_ret
        exact ⟨ret_bool HN.out.symm, hbx⟩
      · have HQ : Hid (∀ j (h' : j < xs.length), j = k → isMail xs[j].m = true) := fun j h' e => by subst e; exact hq
        rw [hq] at HC
        clear hq
        generalize xs[k] = x at *
        go_wp2_with fail
        refine (HC.out _ ((Below.refl _ _).alloc (Nat.le_refl _) _)).mono ?_
        rintro e w5 ⟨rfl, hb5⟩
        have hbx := nx hb (nx ((Below.refl _ _).alloc (Nat.le_refl _) _) hb5)
        clear p0 p1 p2
        go_wp2
        go_roundw
        case rel => exact ⟨k + 1, by omega, by go_num, hbx, fun j h h' => by
          by_cases e : j = k
          · exact HQ.out j h' e
          · exact HA.out j (by omega) h'⟩
        case measure => simp [intOf]; omega
    · have HN : Hid ((xs.map (·.m)).all isMail = true) := ml_good (n := n) (by have := L1.out; omega) (fun j h h' => HA.out j (by omega) h')
      go_wp2
      go_ret
      exact ⟨ret_bool HN.out.symm, hb⟩

set_option maxRecDepth 100000 in
set_option maxHeartbeats 4000000 in
theorem sessionValid_any (M : Nat) (z : SsV) (S : Ssn) (w : World) (en : Env w) (h1 : RdZ M w z S) (hM : M ≤ 1073741000) :
    Calls Tryz.prog 80 #[ssVal z] w fun e w' => e = .returned (.bool (isSsn S)) ∧ Below w.heap.size w w' := by
  obtain ⟨st, h, s, a, n, c, b, k, d, e, r, q⟩ := z
  obtain ⟨f1, f2, f3, f4, f5, f6, f7, xs, f8, f9, f10⟩ := h1
  dsimp only at f1 f2 f3 f4 f5 f6 f7 f9 f10
  unfold ssVal
  dsimp only
  have f3' := f3
  obtain ⟨v1, v2, v3, v4⟩ := f3
  have hzn : n ≤ 1073741000 := by have hh : S.draft.to.length ≤ M := v4.2.2.2.1; omega
  have hzk : k ≤ 1073741000 := by have hh : S.draft.lines.length ≤ M := v4.2.2.2.2.2.1; omega
  clear v4
  have HH : Hid (∀ u, Below w.heap.size w u → Calls Tryz.prog 130 #[.agg #[.int .i64 st, .string h, .string s, .slice a n c, .slice b k d, .slice e r q]] u fun e w' => e = .returned (.bool (hostOk S)) ∧ Below u.heap.size u w') := fun u hu => by
    rw [hostOk_b, ← f1]
    exact hostFits_any st h s a n c b k d e r q S.host u (en.below hu) f2 (by omega)
  have HD : Hid (∀ u, Below w.heap.size w u → Calls Tryz.prog 101 #[.agg #[.string s, .slice a n c, .slice b k d]] u fun e w' => e = .returned (.bool (isDraft S.draft)) ∧ Below u.heap.size u w') := fun u hu => (f3'.below hu).calls [] (fun x hx hr => hx ▸ draftValid_any M x u (en.below hu) hr hM)
  have HF : Hid (∀ u, Below w.heap.size w u → Calls Tryz.prog 131 #[.agg #[.int .i64 st, .string h, .string s, .slice a n c, .slice b k d, .slice e r q]] u fun e w' => e = .returned (.bool (fitOk S)) ∧ Below u.heap.size u w') := fun u hu => by
    rw [fitOk_b, ← f1, ← v2, ← v3]
    exact draftFits_any st h s a n c b k d e r q S.draft.frm u v1 hzn hzk
  have HL : Hid (∀ u, Below w.heap.size w u → Calls Tryz.prog 132 #[.slice e r q, .func (.func 62) #[] #[]] u fun e w' => e = .returned (.bool (S.done.all isMail)) ∧ Below u.heap.size u w') := fun u hu => by
    rw [← f8]
    exact allValid_mail M e r q xs u (en.below hu) f9 (f10.below hu) hM (by omega)
  have hr0 : r = S.done.length := by rw [← f8, List.length_map, f9]
  rw [isSsn_b, ← f1, ← hr0]
  have hr : r ≤ 1073741000 := by omega
  clear f1 f2 f3' f4 f5 f6 f7 f8 f9 f10 v1 v2 v3 hzn hzk hr0 en
  generalize hostOk S = g0 at *
  generalize isDraft S.draft = g1 at *
  generalize fitOk S = g2 at *
  generalize S.done.all isMail = g3 at *
  have hA : Below w.heap.size w (w.alloc (.cells #[.int .i64 st, .string h, .string s, .slice a n c, .slice b k d, .slice e r q] 60)) := (Below.refl _ _).alloc (Nat.le_refl _) _
  have HX := Lib.hid (SK6.new w (.int .i64 st) (.string h) (.string s) (.slice a n c) (.slice b k d) (.slice e r q) 60)
  by_cases k0 : 0 ≤ st
  · have q0 := decide_eq_true k0
    by_cases k5 : st ≤ 5
    · have q5 := decide_eq_true k5
      go_enter Tryz.func80, Tryz.ntmps80
      go_wp2_with fail
      refine (HH.out _ hA).mono ?_
      rintro e w1 ⟨rfl, hb1⟩
      have hb01 := nx hA hb1
      obtain ⟨y0, y1, y2, y3, y4, y5⟩ := HX.out.below hb1
      cases g0
      · go_wp2
        go_ret
        exact ⟨ret_bool (by rw [q0, q5]; rfl), hb01⟩
      · go_wp2_with fail
        refine (HD.out _ hb01).mono ?_
        rintro e w2 ⟨rfl, hb2⟩
        have hb02 := nx hb01 hb2
        clear y0 y1 y2 y3 y4 y5
        obtain ⟨y0, y1, y2, y3, y4, y5⟩ := HX.out.below (nx hb1 hb2)
        cases g1
        · go_wp2
          go_ret
          exact ⟨ret_bool (by rw [q0, q5]; rfl), hb02⟩
        · go_wp2_with fail
          refine (HF.out _ hb02).mono ?_
          rintro e w3 ⟨rfl, hb3⟩
          have hb03 := nx hb02 hb3
          clear y0 y1 y2 y3 y4 y5
          obtain ⟨y0, y1, y2, y3, y4, y5⟩ := HX.out.below (nx (nx hb1 hb2) hb3)
          cases g2
          · go_wp2
            go_ret
            exact ⟨ret_bool (by rw [q0, q5]; rfl), hb03⟩
          · by_cases k6 : (r : Int) ≤ 5
            · have q6 := decide_eq_true k6
              go_wp2_with fail
              refine (HL.out _ hb03).mono ?_
              rintro e w4 ⟨rfl, hb4⟩
              go_wp2
              go_ret
              exact ⟨ret_bool (by rw [q0, q5, q6]; rfl), nx hb03 hb4⟩
            · have q6 := decide_eq_false k6
              go_wp2
              go_ret
              exact ⟨ret_bool (by rw [q0, q5, q6]; rfl), hb03⟩
    · have q5 := decide_eq_false k5
      go_enter Tryz.func80, Tryz.ntmps80
      go_wp2
      go_ret
      exact ⟨rfl, hA⟩
  · have q0 := decide_eq_false k0
    go_enter Tryz.func80, Tryz.ntmps80
    go_wp2
    go_ret
    exact ⟨rfl, hA⟩
end Go.Proofs.YtombejhpfobehaaGreatDoor
