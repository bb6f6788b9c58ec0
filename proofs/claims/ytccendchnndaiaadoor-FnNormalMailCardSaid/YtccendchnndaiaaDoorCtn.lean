/-
  Lists of strings: where a string is in one, and copies. No statement is proved here.
-/
import Derived.Test.YtccendchnndaiaaDoorRowS
namespace Go.Proofs.YtccendchnndaiaaDoor
open Go.RowKit

def idxS (xs : List (List UInt8)) (y : List UInt8) : Int := if xs.contains y then ((xs.takeWhile (· != y)).length : Int) else -1
theorem idxS_at {xs : List (List UInt8)} {y : List UInt8} {k : Nat} (hk : k < xs.length) (h : xs[k] = y) (h2 : ∀ j, j < k → (hj : j < xs.length) → xs[j] ≠ y) : idxS xs y = (k : Int) := by
  unfold idxS
  have hm : xs.contains y = true := by rw [List.contains_iff_mem, ← h]; exact List.getElem_mem hk
  rw [if_pos hm]
  have key : ∀ (xs : List (List UInt8)) (k : Nat) (hk : k < xs.length), xs[k] = y → (∀ j, j < k → (hj : j < xs.length) → xs[j] ≠ y) → (xs.takeWhile (· != y)).length = k := by
    intro xs
    induction xs with
    | nil => intro k hk; simp at hk
    | cons x xs ih =>
      intro k hk h h2
      match k, hk, h, h2 with
      | 0, _, h, _ =>
        have h : x = y := h
        rw [List.takeWhile_cons_of_neg (by simp [h])]; rfl
      | k + 1, hk, h, h2 =>
        have h0 : x ≠ y := h2 0 (by omega) (by omega)
        rw [List.takeWhile_cons_of_pos (by simpa using h0), List.length_cons, ih k (by simpa using hk) h (fun j hj hl => h2 (j + 1) (by omega) (by simpa using hl))]
  rw [key xs k hk h h2]
theorem idxS_none {xs : List (List UInt8)} {y : List UInt8} (h2 : ∀ j, (hj : j < xs.length) → xs[j] ≠ y) : idxS xs y = -1 := by
  unfold idxS
  rw [if_neg]
  rw [List.contains_iff_mem]; intro hm
  obtain ⟨j, hj, h⟩ := List.getElem_of_mem hm
  exact h2 j hj h
theorem idxS_has (xs : List (List UInt8)) (y : List UInt8) : decide (0 ≤ idxS xs y) = xs.contains y := by
  unfold idxS
  split
  · rename_i h; rw [h]; simp
  · rename_i h; simp only [Bool.not_eq_true] at h; rw [h]; decide
set_option maxRecDepth 100000 in
set_option maxHeartbeats 1000000 in
theorem indexS_any (a : Option Addr) (n c : Nat) (xs : List (List UInt8)) (y : List UInt8) (w : World) (hr : RdL w a n xs) (hn : n ≤ 1073741824) :
    Calls Tryd.prog 72 #[.slice a n c, .string (str y)] w fun e w' => e = .returned (.int .i64 (idxS xs y)) ∧ Below w.heap.size w w' := by
  obtain ⟨hl, hr2⟩ := hr
  have HLEN := Lib.hid hl
  have HR := Lib.hid hr2
  clear hl hr2
  obtain ⟨Y, hY⟩ : ∃ Y, Y = str y := ⟨_, rfl⟩
  have HY := Lib.hid hY
  rw [← hY]
  clear hY
  go_enter Tryd.func72, Tryd.ntmps72
  go_wp2_with fail
  go_loopw [8] (fun i wr => ∃ (k : Nat), k ≤ n ∧ i = .int .i64 k ∧ Below w.heap.size w wr ∧ ∀ j, j < k → (hj : j < xs.length) → xs[j] ≠ y) (fun i _ => n - (intOf i).toNat)
  case atStart => exact ⟨0, Nat.zero_le _, rfl, Below.refl _ _, fun j h => by omega⟩
  case round =>
    obtain ⟨k, hk, rfl, hb, hall⟩ := hrel
    have HA := Lib.hid hall
    clear hall
    by_cases hlt : k < n
    · have hkx : k < xs.length := by rw [HLEN.out]; exact hlt
      obtain ⟨b, off, rfl, hbl, hcell⟩ := HR.out.resolve_left (by omega)
      have q0 : wr.cell? ⟨b, off + k, none⟩ = some (.string (str xs[k])) := by rw [below_at hb hbl]; exact hcell k hkx
      clear hcell
      have HQ : Hid ((str xs[k] = Y) = (xs[k] = y)) := by
        show _ = _
        rw [HY.out]
        exact propext ⟨fun h => by rw [← str_list xs[k], h, str_list], fun h => by rw [h]⟩
      by_cases hq : xs[k] = y
      · have HF := Lib.hid (idxS_at hkx hq (fun j hj hl => HA.out j hj hl))
        have e1 : (Y.toList == (str xs[k]).toList) = true := by rw [beq_dec, decide_eq_true_iff]; exact (HQ.out.symm ▸ hq : str xs[k] = Y).symm
        have e2 : ((str xs[k]).toList == Y.toList) = true := by rw [beq_dec, decide_eq_true_iff]; exact (HQ.out.symm ▸ hq : str xs[k] = Y)
        clear hq HQ
        generalize str xs[k] = X at *
        go_wp2
        go_ret
        exact ⟨ret_int HF.out.symm, hb⟩
      · have e1 : (Y.toList == (str xs[k]).toList) = false := by rw [beq_dec, decide_eq_false_iff_not]; intro h; exact hq (HQ.out ▸ h.symm)
        have e2 : ((str xs[k]).toList == Y.toList) = false := by rw [beq_dec, decide_eq_false_iff_not]; intro h; exact hq (HQ.out ▸ h)
        have HN := Lib.hid hq
        clear hq HQ
        generalize str xs[k] = X at *
        go_wp2
        go_roundw
        case rel => exact ⟨k + 1, by omega, by go_num, hb, fun j hj hjx => by
          by_cases e : j = k
          · subst e; exact HN.out
          · exact HA.out j (by omega) hjx⟩
        case measure => simp [intOf]; omega
    · have HF := Lib.hid (idxS_none (y := y) (fun j hj => HA.out j (by have := HLEN.out; omega) hj))
      go_wp2
      go_ret
      exact ⟨ret_int HF.out.symm, hb⟩
theorem containsS_any (a : Option Addr) (n c : Nat) (xs : List (List UInt8)) (y : List UInt8) (w : World) (hr : RdL w a n xs) (hn : n ≤ 1073741824) :
    Calls Tryd.prog 40 #[.slice a n c, .string (str y)] w fun e w' => e = .returned (.bool (xs.contains y)) ∧ Below w.heap.size w w' := by
  have HX := Lib.hid (idxS_has xs y)
  have HS : Hid (∀ u, RdL u a n xs → Calls Tryd.prog 72 #[.slice a n c, .string (str y)] u fun e w' => e = .returned (.int .i64 (idxS xs y)) ∧ Below u.heap.size u w') := fun u h => indexS_any a n c xs y u h hn
  generalize idxS xs y = m at *
  generalize xs.contains y = q at *
  generalize str y = Y at *
  have HR := Lib.hid hr
  clear hr
  go_enter Tryd.func40, Tryd.ntmps40
  go_wp2_with fail
  refine (HS.out _ HR.out).mono ?_
  rintro e w1 ⟨rfl, hb1⟩
  go_wp2
  go_ret
  exact ⟨ret_bool HX.out, hb1⟩
theorem OwnL.cap {B n c : Nat} {a : Option Addr} {xs : List (List UInt8)} {w : World} (h : OwnL B (.slice a n c) xs w) : c ≤ maxLen := by
  rcases h.2 with ⟨hv, _⟩ | ⟨g, cap, cur, hv, _, _, _, hc, _⟩
  · injection hv with _ _ e; subst e; unfold maxLen; omega
  · injection hv with _ _ e; subst e; exact hc
theorem nil_eqS (a : Option Addr) (n c : Nat) (w : World) : (binOp .eql 23 (.slice a n c) (.slice none 0 0)).run Tryd.prog w = .ok (.bool a.isNone) w := by
  cases a <;> kernel_rfl
set_option maxRecDepth 100000 in
set_option maxHeartbeats 1000000 in
theorem cloneS_any (a : Option Addr) (n c : Nat) (xs : List (List UInt8)) (w : World) (hr : RdL w a n xs) (hac : a = none → c = 0) (hn : n ≤ 1048576) :
    Calls Tryd.prog 73 #[.slice a n c] w fun e w' => ∃ a' c', e = .returned (.slice a' n c') ∧ OwnL w.heap.size (.slice a' n c') xs w' ∧ Below w.heap.size w w' := by
  have hlen := hr.1
  cases a with
  | none =>
    obtain rfl := hac rfl
    have hn0 : n = 0 := by
      rcases hr.2 with h | ⟨b, off, e, _⟩
      · exact h
      · cases e
    subst hn0
    have hx : xs = [] := List.length_eq_zero_iff.1 hlen
    subst hx
    have HO : Hid (OwnL w.heap.size (.slice none 0 0) [] w) := OwnL.nil _ _
    have hq := nil_eqS none 0 0 w
    have hq2 : (none : Option Addr).isNone = true := rfl
    rw [hq2] at hq
    go_enter Tryd.func73, Tryd.ntmps73
    go_wp2
    go_ret
    exact ⟨_, _, rfl, HO.out, Below.refl _ _⟩
  | some q =>
    have hA : Below w.heap.size w (w.alloc (.cells #[] 9)) := (Below.refl _ _).alloc (Nat.le_refl _) _
    have HE := Lib.hid (OwnL.empty w)
    have HR := Lib.hid (hr.below hA)
    have hq := nil_eqS (some q) n c w
    have hq2 : (some q).isNone = false := rfl
    rw [hq2] at hq
    clear hr hac
    go_enter Tryd.func73, Tryd.ntmps73
    go_wp2_with (at_builtin; refine wpList_append_RL rfl _ _ rfl w.heap.size _ [] xs (some q) n c rfl rfl HE.out HR.out (fun e => by cases e) ?c2 ?c3 ?_)
    case c2 => simp
    case c3 => simp; omega
    intro v' w2 hO2 hgr _
    have hb2 : Below w.heap.size w w2 := hA.grown hgr (by simp) (fun g hg => (HE.out.lt g hg).1)
    obtain ⟨a', c', rfl, _⟩ := hO2.read
    rw [hlen] at hO2 ⊢
    have HO := Lib.hid hO2
    clear hO2 hgr
    go_wp2
    go_ret
    exact ⟨_, _, rfl, HO.out, hb2⟩
end Go.Proofs.YtccendchnndaiaaDoor
