/-
  Mails: what the program's functions that test them return. No statement is proved here.
-/
import Derived.Test.YtbfjbabpeigloabDoorMal
import Derived.Test.YtbfjbabpeigloabDoorKindC
import Derived.Test.YtbfjbabpeigloabDoorAddr
namespace Go.Proofs.YtbfjbabpeigloabDoor
open Go.RowKit

theorem isPath_cut2 (l : List UInt8) : isPath l = ((cutAt 64 l).isSome && (isLocal (cut2 64 l).1 && isDomain (cut2 64 l).2)) := by
  unfold isPath cut2
  cases cutAt 64 l with
  | none => rfl
  | some y => rfl
theorem cut2_small (c : UInt8) (l : List UInt8) : (cut2 c l).1.length ≤ l.length ∧ (cut2 c l).2.length ≤ l.length := by
  unfold cut2
  cases h : cutAt c l with
  | none => exact ⟨Nat.le_refl _, Nat.zero_le _⟩
  | some y =>
    have := congrArg List.length (cutAt_at (a := y.1) (b := y.2) h).1
    simp at this
    exact ⟨by show y.1.length ≤ _; omega, by show y.2.length ≤ _; omega⟩
set_option maxRecDepth 100000 in
set_option maxHeartbeats 1000000 in
theorem pathValid_any (s : ByteArray) (w : World) (en : Env w) (hs : s.size ≤ 1073741000) :
    Calls Tryd.prog 44 #[.string s] w fun e w' => e = .returned (.bool (isPath s.data.toList)) ∧ Below w.heap.size w w' := by
  obtain ⟨z1, z2⟩ := cut2_small 64 s.data.toList
  rw [size_list] at z1 z2
  have H0 : Hid (∀ u, Calls Tryd.prog 66 #[.string s, .string ⟨#[64]⟩] u (Cut2R s.data.toList 64 u)) := fun u => cut2_any s 64 u (by omega)
  have H1 : Hid (∀ u, Below w.heap.size w u → Calls Tryd.prog 67 #[.string (str (cut2 64 s.data.toList).1)] u fun e w' => e = .returned (.bool (isLocal (cut2 64 s.data.toList).1)) ∧ Below u.heap.size u w') := fun u hb => by
    have := localValid_any (str (cut2 64 s.data.toList).1) u (en.below hb) (by rw [str_size]; omega)
    rw [str_list] at this; exact this
  have H2 : Hid (∀ u, Below w.heap.size w u → Calls Tryd.prog 68 #[.string (str (cut2 64 s.data.toList).2)] u fun e w' => e = .returned (.bool (isDomain (cut2 64 s.data.toList).2)) ∧ Below u.heap.size u w') := fun u hb => by
    have := domainValid_any (str (cut2 64 s.data.toList).2) u (en.below hb) (by rw [str_size]; omega)
    rw [str_list] at this; exact this
  rw [isPath_cut2]
  unfold Cut2R at H0
  clear z1 z2 en hs
  generalize (cutAt 64 s.data.toList).isSome = g0 at *
  generalize isLocal (cut2 64 s.data.toList).1 = g1 at *
  generalize isDomain (cut2 64 s.data.toList).2 = g2 at *
  generalize str (cut2 64 s.data.toList).1 = x1 at *
  generalize str (cut2 64 s.data.toList).2 = x2 at *
  go_enter Tryd.func44, Tryd.ntmps44
  go_wp2_with fail
  refine (H0.out _).mono ?_
  rintro e w1 ⟨rfl, m, rfl⟩
  have hb0 : Below w.heap.size w (w.drewN m) := below_drewN (Below.refl _ _) m
  generalize w.drewN m = w1 at *
  cases g0
  · go_wp2
    go_ret
    exact ⟨rfl, hb0⟩
  · go_wp2_with fail
    refine (H1.out _ hb0).mono ?_
    rintro e w2 ⟨rfl, hb2⟩
    have hb02 := nx hb0 hb2
    cases g1
    · go_wp2
      go_ret
      exact ⟨rfl, hb02⟩
    · go_wp2_with fail
      refine (H2.out _ hb02).mono ?_
      rintro e w3 ⟨rfl, hb3⟩
      go_wp2
      go_ret
      exact ⟨rfl, nx hb02 hb3⟩
theorem pathE (x : ByteArray) (w : World) (en : Env w) (hx : x.size ≤ 1073741000) : Calls Tryd.prog 44 #[.string x] w fun e w' => e = .returned (.bool (isPath x.data.toList)) ∧ Below w.heap.size w w' := pathValid_any x w en hx
set_option maxRecDepth 100000 in
set_option maxHeartbeats 1000000 in
theorem senderValid_any (l : List UInt8) (w : World) (en : Env w) (hs : l.length ≤ 1073741000) :
    Calls Tryd.prog 85 #[.string (str l)] w fun e w' => e = .returned (.bool (isSend l)) ∧ Below w.heap.size w w' := by
  have H1 : Hid (Calls Tryd.prog 44 #[.string (str l)] w fun e w' => e = .returned (.bool (isPath l)) ∧ Below w.heap.size w w') := by
    have := pathValid_any (str l) w en (by rw [str_size]; omega)
    rw [str_list] at this; exact this
  have d0 := eqEmp l
  unfold isSend
  generalize decide (l = []) = g0 at *
  generalize isPath l = g1 at *
  generalize str l = x at *
  cases g0
  · go_enter Tryd.func85, Tryd.ntmps85
    go_wp2_with fail
    refine H1.out.mono ?_
    rintro e w3 ⟨rfl, hb3⟩
    go_wp2
    go_ret
    exact ⟨rfl, hb3⟩
  · go_enter Tryd.func85, Tryd.ntmps85
    go_wp2
    go_ret
    exact ⟨rfl, Below.refl _ _⟩
theorem textE (x : ByteArray) (w : World) (_ : Env w) (hx : x.size ≤ 1073741000) : Calls Tryd.prog 87 #[.string x] w fun e w' => e = .returned (.bool (isText x.data.toList)) ∧ Below w.heap.size w w' :=
  (textValid_any x w (by unfold maxLen; omega)).mono (fun _ _ ⟨he, hw⟩ => ⟨he, hw ▸ Below.refl _ _⟩)
set_option maxRecDepth 100000 in
set_option maxHeartbeats 2000000 in
theorem allValid_path (a : Option Addr) (n c : Nat) (xs : List (List UInt8)) (w : World) (en : Env w) (hr : RdL w a n xs) (hn : n ≤ 1073741000) (hx : ∀ x ∈ xs, x.length ≤ 1073741000) :
    Calls Tryd.prog 86 #[.slice a n c, .func (.func 44) #[] #[]] w fun e w' => e = .returned (.bool (xs.all isPath)) ∧ Below w.heap.size w w' := by
  have HX := Lib.hid hx
  have HLEN := Lib.hid hr.1
  have HR := Lib.hid hr.2
  clear hr hx
  go_enter Tryd.func86, Tryd.ntmps86
  go_wp2_with fail
  go_loopw [9] (fun i wr => ∃ k : Nat, k ≤ n ∧ i = .int .i64 k ∧ Below w.heap.size w wr ∧ ∀ j, (h : j < k) → (h' : j < xs.length) → isPath xs[j] = true) (fun i _ => n - (intOf i).toNat)
  case atStart => exact ⟨0, Nat.zero_le _, rfl, Below.refl _ _, fun j h => by omega⟩
  case round =>
    obtain ⟨k, hk, rfl, hb, hall⟩ := hrel
    have HA := Lib.hid hall
    clear hall
    by_cases hlt : k < n
    · have hkx : k < xs.length := by rw [HLEN.out]; exact hlt
      obtain ⟨b, off, rfl, hbl, hcell⟩ := HR.out.resolve_left (by omega)
      have hc1 : wr.cell? ⟨b, off + k, none⟩ = some (.string (str xs[k])) := by rw [below_at hb hbl]; exact hcell k hkx
      have hsz : (str xs[k]).size ≤ 1073741000 := by rw [str_size]; exact HX.out _ (List.getElem_mem hkx)
      clear hcell
      have HP : Hid (isPath (str xs[k]).data.toList = isPath xs[k]) := by show _ = _; rw [str_list]
      have HC : Hid (Calls Tryd.prog 44 #[.string (str xs[k])] wr fun e w' => e = .returned (.bool (isPath (str xs[k]).data.toList)) ∧ Below wr.heap.size wr w') := pathE _ wr (en.below hb) hsz
      rw [HP.out] at HC
      cases hp : isPath xs[k]
      · have HE : Hid (xs.all isPath = false) := by show _ = _; rw [List.all_eq_false]; exact ⟨_, List.getElem_mem hkx, by simp [hp]⟩
        rw [hp] at HC
        generalize str xs[k] = x at *
        clear hp
        go_wp2_with fail
        refine HC.out.mono ?_
        rintro e w2 ⟨rfl, hb2⟩
        go_wp2
        go_ret
        exact ⟨ret_bool HE.out.symm, nx hb hb2⟩
      · have HQ := Lib.hid hp
        rw [hp] at HC
        generalize str xs[k] = x at *
        clear hp
        go_wp2_with fail
        refine HC.out.mono ?_
        rintro e w2 ⟨rfl, hb2⟩
        go_wp2
        go_roundw
        case rel => exact ⟨k + 1, by omega, by go_num, nx hb hb2, fun j h h' => by
          by_cases e : j = k
          · subst e; exact HQ.out
          · exact HA.out j (by omega) h'⟩
        case measure => simp [intOf]; omega
    · have HE : Hid (xs.all isPath = true) := by
        show _ = _
        rw [List.all_eq_true]; intro x hx
        obtain ⟨j, hj, rfl⟩ := List.getElem_of_mem hx
        exact HA.out j (by have := HLEN.out; omega) hj
      go_wp2
      go_ret
      exact ⟨ret_bool HE.out.symm, hb⟩
set_option maxRecDepth 100000 in
set_option maxHeartbeats 2000000 in
theorem allValid_text (a : Option Addr) (n c : Nat) (xs : List (List UInt8)) (w : World) (en : Env w) (hr : RdL w a n xs) (hn : n ≤ 1073741000) (hx : ∀ x ∈ xs, x.length ≤ 1073741000) :
    Calls Tryd.prog 86 #[.slice a n c, .func (.func 87) #[] #[]] w fun e w' => e = .returned (.bool (xs.all isText)) ∧ Below w.heap.size w w' := by
  have HX := Lib.hid hx
  have HLEN := Lib.hid hr.1
  have HR := Lib.hid hr.2
  clear hr hx
  go_enter Tryd.func86, Tryd.ntmps86
  go_wp2_with fail
  go_loopw [9] (fun i wr => ∃ k : Nat, k ≤ n ∧ i = .int .i64 k ∧ Below w.heap.size w wr ∧ ∀ j, (h : j < k) → (h' : j < xs.length) → isText xs[j] = true) (fun i _ => n - (intOf i).toNat)
  case atStart => exact ⟨0, Nat.zero_le _, rfl, Below.refl _ _, fun j h => by omega⟩
  case round =>
    obtain ⟨k, hk, rfl, hb, hall⟩ := hrel
    have HA := Lib.hid hall
    clear hall
    by_cases hlt : k < n
    · have hkx : k < xs.length := by rw [HLEN.out]; exact hlt
      obtain ⟨b, off, rfl, hbl, hcell⟩ := HR.out.resolve_left (by omega)
      have hc1 : wr.cell? ⟨b, off + k, none⟩ = some (.string (str xs[k])) := by rw [below_at hb hbl]; exact hcell k hkx
      have hsz : (str xs[k]).size ≤ 1073741000 := by rw [str_size]; exact HX.out _ (List.getElem_mem hkx)
      clear hcell
      have HP : Hid (isText (str xs[k]).data.toList = isText xs[k]) := by show _ = _; rw [str_list]
      have HC : Hid (Calls Tryd.prog 87 #[.string (str xs[k])] wr fun e w' => e = .returned (.bool (isText (str xs[k]).data.toList)) ∧ Below wr.heap.size wr w') := textE _ wr (en.below hb) hsz
      rw [HP.out] at HC
      cases hp : isText xs[k]
      · have HE : Hid (xs.all isText = false) := by show _ = _; rw [List.all_eq_false]; exact ⟨_, List.getElem_mem hkx, by simp [hp]⟩
        rw [hp] at HC
        generalize str xs[k] = x at *
        clear hp
        go_wp2_with fail
        refine HC.out.mono ?_
        rintro e w2 ⟨rfl, hb2⟩
        go_wp2
        go_ret
        exact ⟨ret_bool HE.out.symm, nx hb hb2⟩
      · have HQ := Lib.hid hp
        rw [hp] at HC
        generalize str xs[k] = x at *
        clear hp
        go_wp2_with fail
        refine HC.out.mono ?_
        rintro e w2 ⟨rfl, hb2⟩
        go_wp2
        go_roundw
        case rel => exact ⟨k + 1, by omega, by go_num, nx hb hb2, fun j h h' => by
          by_cases e : j = k
          · subst e; exact HQ.out
          · exact HA.out j (by omega) h'⟩
        case measure => simp [intOf]; omega
    · have HE : Hid (xs.all isText = true) := by
        show _ = _
        rw [List.all_eq_true]; intro x hx
        obtain ⟨j, hj, rfl⟩ := List.getElem_of_mem hx
        exact HA.out j (by have := HLEN.out; omega) hj
      go_wp2
      go_ret
      exact ⟨ret_bool HE.out.symm, hb⟩
set_option maxRecDepth 100000 in
set_option maxHeartbeats 2000000 in
theorem draftValid_any (M : Nat) (x : MlA) (w : World) (en : Env w) (h1 : RdM M w x) (hM : M ≤ 1073741000) :
    Calls Tryd.prog 72 #[mlV x] w fun e w' => e = .returned (.bool (isDraft x.m)) ∧ Below w.heap.size w w' := by
  obtain ⟨⟨f1, t1, l1⟩, a1, c1, b1, d1⟩ := x
  obtain ⟨⟨p1, _, _⟩, ⟨p2, _, _⟩, p0, p3, p5, p4, p6⟩ := h1
  dsimp only at *
  unfold mlV isDraft
  dsimp only
  have H0 : Hid (∀ u, Below w.heap.size w u → Calls Tryd.prog 85 #[.string (str f1)] u fun e w' => e = .returned (.bool (isSend f1)) ∧ Below u.heap.size u w') := fun u hb => senderValid_any f1 u (en.below hb) (by omega)
  have HT : Hid (∀ u, Below w.heap.size w u → Calls Tryd.prog 86 #[.slice a1 t1.length c1, .func (.func 44) #[] #[]] u fun e w' => e = .returned (.bool (t1.all isPath)) ∧ Below u.heap.size u w') := fun u hb => allValid_path _ _ _ _ u (en.below hb) (p1.below hb) (by omega) (fun x hx => by have := p5 x hx; omega)
  have HL : Hid (∀ u, Below w.heap.size w u → Calls Tryd.prog 86 #[.slice b1 l1.length d1, .func (.func 87) #[] #[]] u fun e w' => e = .returned (.bool (l1.all isText)) ∧ Below u.heap.size u w') := fun u hb => allValid_text _ _ _ _ u (en.below hb) (p2.below hb) (by omega) (fun x hx => by have := p6 x hx; omega)
  have e1 : decide (t1.length ≤ 10) = decide ((t1.length : Int) ≤ 10) := decide_eq_decide.2 (by omega)
  have e2 : decide (l1.length ≤ 31) = decide ((l1.length : Int) ≤ 31) := decide_eq_decide.2 (by omega)
  rw [e1, e2]
  have hz1 : t1.length ≤ 1073741000 := by omega
  have hz2 : l1.length ≤ 1073741000 := by omega
  clear p1 p2 p3 p4 p5 p6 p0 hM en e1 e2
  generalize isSend f1 = g0 at *
  generalize t1.all isPath = g1 at *
  generalize l1.all isText = g2 at *
  generalize t1.length = n1 at *
  generalize l1.length = n3 at *
  generalize str f1 = s1 at *
  have hA : Below w.heap.size w (w.alloc (.cells #[.string s1, .slice a1 n1 c1, .slice b1 n3 d1] 28)) := (Below.refl _ _).alloc (Nat.le_refl _) _
  have HX := Lib.hid (MK3.new w (.string s1) (.slice a1 n1 c1) (.slice b1 n3 d1) 28)
  go_enter Tryd.func72, Tryd.ntmps72
  go_wp2_with fail
  refine (H0.out _ hA).mono ?_
  rintro e w1 ⟨rfl, hb1⟩
  have hb01 := nx hA hb1
  obtain ⟨y0, y1, y2⟩ := HX.out.below hb1
  cases g0
  · go_wp2
    go_ret
    exact ⟨rfl, hb01⟩
  · by_cases k1 : (n1 : Int) ≤ 10
    · have z1 := decide_eq_true k1
      go_wp2_with fail
      refine (HT.out _ hb01).mono ?_
      rintro e w2 ⟨rfl, hb2⟩
      have hb02 := nx hb01 hb2
      clear y0 y1 y2
      obtain ⟨y0, y1, y2⟩ := HX.out.below (nx hb1 hb2)
      cases g1
      · go_wp2
        go_ret
        exact ⟨ret_bool (by rw [z1]; rfl), hb02⟩
      · by_cases k2 : (n3 : Int) ≤ 31
        · have z2 := decide_eq_true k2
          go_wp2_with fail
          refine (HL.out _ hb02).mono ?_
          rintro e w3 ⟨rfl, hb3⟩
          go_wp2
          go_ret
          exact ⟨ret_bool (by rw [z1, z2]; rfl), nx hb02 hb3⟩
        · have z2 := decide_eq_false k2
          go_wp2
          go_ret
          exact ⟨ret_bool (by rw [z1, z2]; rfl), hb02⟩
    · have z1 := decide_eq_false k1
      go_wp2
      go_ret
      exact ⟨ret_bool (by rw [z1]; rfl), hb01⟩
set_option maxRecDepth 100000 in
set_option maxHeartbeats 2000000 in
theorem mailValid_any (M : Nat) (x : MlA) (w : World) (en : Env w) (h1 : RdM M w x) (hM : M ≤ 1073741000) :
    Calls Tryd.prog 49 #[mlV x] w fun e w' => e = .returned (.bool (isMail x.m)) ∧ Below w.heap.size w w' := by
  have hA0 : ∀ o, Below w.heap.size w (w.alloc o) := fun o => (Below.refl _ _).alloc (Nat.le_refl _) o
  have H0 : Hid (∀ u, Below w.heap.size w u → Calls Tryd.prog 72 #[mlV x] u fun e w' => e = .returned (.bool (isDraft x.m)) ∧ Below u.heap.size u w') := fun u hb => draftValid_any M x u (en.below hb) (h1.below hb) hM
  obtain ⟨⟨f1, t1, l1⟩, a1, c1, b1, d1⟩ := x
  obtain ⟨⟨p1, _, _⟩, ⟨p2, _, _⟩, p0, p3, p5, p4, p6⟩ := h1
  dsimp only at *
  unfold isMail
  unfold mlV at *
  dsimp only at *
  have e1 : decide (0 < t1.length) = decide ((0 : Int) < (t1.length : Int)) := decide_eq_decide.2 (by omega)
  have e2 : decide (l1.length ≤ 30) = decide ((l1.length : Int) ≤ 30) := decide_eq_decide.2 (by omega)
  rw [e1, e2]
  have hz1 : t1.length ≤ 1073741000 := by omega
  have hz2 : l1.length ≤ 1073741000 := by omega
  clear p1 p2 p3 p4 p5 p6 p0 hM en e1 e2
  generalize isDraft ⟨f1, t1, l1⟩ = g0 at *
  generalize t1.length = n1 at *
  generalize l1.length = n3 at *
  generalize str f1 = s1 at *
  have HX := Lib.hid (MK3.new w (.string s1) (.slice a1 n1 c1) (.slice b1 n3 d1) 28)
  go_enter Tryd.func49, Tryd.ntmps49
  go_wp2_with fail
  refine (H0.out _ (hA0 _)).mono ?_
  rintro e w1 ⟨rfl, hb1⟩
  have hb01 := nx (hA0 _) hb1
  obtain ⟨y0, y1, y2⟩ := HX.out.below hb1
  cases g0
  · go_wp2
    go_ret
    exact ⟨rfl, hb01⟩
  · by_cases k1 : (0 : Int) < (n1 : Int)
    · have z1 := decide_eq_true k1
      go_wp2
      go_ret
      exact ⟨ret_bool (by rw [z1]; rfl), hb01⟩
    · have z1 := decide_eq_false k1
      go_wp2
      go_ret
      exact ⟨ret_bool (by rw [z1]; rfl), hb01⟩
end Go.Proofs.YtbfjbabpeigloabDoor
