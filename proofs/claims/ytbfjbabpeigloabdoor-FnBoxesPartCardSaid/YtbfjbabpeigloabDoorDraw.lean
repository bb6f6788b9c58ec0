/-
  Draws: what the drawing functions of the verifier's package do to memory: only the reader's own block turns. No statement is proved here.
-/
import Derived.Test.YtbfjbabpeigloabDoorWords
import Derived.Deep.QuietTactic
import Derived.BigQuiet
import Derived.WalkSmall
namespace Go.Proofs.YtbfjbabpeigloabDoor
open Go.RowKit

/-- A reader at block R: its bytes lie elsewhere; p picks have been made. -/
def Rd (w : World) (R p : Nat) : Prop := ∃ (a : Option Addr) (n c : Nat), w.cell? ⟨R, 0, none⟩ = some (.slice a n c) ∧ w.cell? ⟨R, 1, none⟩ = some (.int .i64 p) ∧ w.frozen? ⟨R, 1, none⟩ = false ∧ n ≤ 2000 ∧
  (n = 0 ∨ ∃ b off, a = some ⟨b, off, none⟩ ∧ b < R ∧ ∀ i, i < n → ∃ x : Nat, x < 256 ∧ w.cell? ⟨b, off + i, none⟩ = some (.int .u8 x))
theorem Rd.lt {w : World} {R p : Nat} (h : Rd w R p) : R < w.heap.size := by
  obtain ⟨a, n, c, h0, _⟩ := h; exact lt_of_cell h0
theorem Rd.touch {w w' : World} {R p p' : Nat} (h : Rd w R p) (t : Touch R w w') (h0 : w'.cell? ⟨R, 0, none⟩ = w.cell? ⟨R, 0, none⟩) (h1 : w'.cell? ⟨R, 1, none⟩ = some (.int .i64 p')) (hf : w'.frozen? ⟨R, 1, none⟩ = w.frozen? ⟨R, 1, none⟩) : Rd w' R p' := by
  obtain ⟨a, n, c, g0, g1, gf, gn, gc⟩ := h
  refine ⟨a, n, c, by rw [h0, g0], h1, by rw [hf, gf], gn, ?_⟩
  rcases gc with e | ⟨b, off, ha, hb, hx⟩
  · exact .inl e
  · refine .inr ⟨b, off, ha, hb, fun i hi => ?_⟩
    obtain ⟨x, hx1, hx2⟩ := hx i hi
    exact ⟨x, hx1, by rw [t.cell (lt_of_cell hx2) (Nat.ne_of_lt hb), hx2]⟩
theorem Rd.below {w w' : World} {R p : Nat} (h : Rd w R p) (t : Below w.heap.size w w') : Rd w' R p := by
  have hl := h.lt
  have h' := h
  obtain ⟨a, n, c, g0, g1, gf, gn, gc⟩ := h'
  exact h.touch (Touch.of_below t) (below_at t hl) (by rw [below_at t hl, g1]) (below_fz t hl)
theorem Rd.belowB {w w' : World} {R p B : Nat} (h : Rd w R p) (t : Below B w w') (hR : R < B) : Rd w' R p := by
  obtain ⟨a, n, c, g0, g1, gf, gn, gc⟩ := h
  refine ⟨a, n, c, by rw [below_at t hR, g0], by rw [below_at t hR, g1], by rw [below_fz t hR, gf], gn, ?_⟩
  rcases gc with e | ⟨b, off, ha, hb, hx⟩
  · exact .inl e
  · refine .inr ⟨b, off, ha, hb, fun i hi => ?_⟩
    obtain ⟨x, hx1, hx2⟩ := hx i hi
    exact ⟨x, hx1, by rw [below_at t (by omega), hx2]⟩
/-- What a pick leaves: a number from 0 to n-1 (0 where n is less than 1), and the reader one pick on. -/
def Picked (R p : Nat) (n : Int) (w : World) (e : Ending) (w' : World) : Prop := ∃ k : Nat, e = .returned (.int .i64 k) ∧ ((k : Int) < n ∨ n < 1 ∧ k = 0) ∧ Rd w' R (p + 1) ∧ Touch R w w'
theorem picked_mk {R p : Nat} {n : Int} {w w' : World} {e : Ending} {v : Int} (he : e = .returned (.int .i64 v)) (h0 : 0 ≤ v) (hn : v < n ∨ n < 1 ∧ v = 0) (hr : Rd w' R (p + 1)) (ht : Touch R w w') : Picked R p n w e w' := by
  obtain ⟨k, rfl⟩ := Int.eq_ofNat_of_zero_le h0
  exact ⟨k, he, by omega, hr, ht⟩
theorem rd_next {w : World} {R p : Nat} (h : Rd w R p) (q : Int) (hq : q = ((p + 1 : Nat) : Int)) : Rd (w.setCell ⟨R, 1, none⟩ (.int .i64 q)) R (p + 1) := by
  subst hq
  have h' := h
  obtain ⟨a, n, c, g0, g1, gf, gn, gc⟩ := h'
  exact h.touch (Touch.setCell _ _ _ _) (cell_off (by omega) _) (cell_same g1 _) (World.frozen?_setCell _ _ _ _)

theorem xor_nonneg {X : Int} (h0 : 0 ≤ X) (h1 : X < 9223372036854775807) : 0 ≤ bits BinOp.xor IntKind.i64 X (X / 64) := by
  obtain ⟨a, rfl⟩ := Int.eq_ofNat_of_zero_le h0
  have e : ((a : Int) / 64) = ((a / 64 : Nat) : Int) := by omega
  rw [e]
  have hx : a ^^^ (a / 64) < 2 ^ 63 := Nat.xor_lt_two_pow (by omega) (by omega)
  have g1 : (BitVec.ofInt 64 (a : Int)).toNat = a := by
    rw [BitVec.ofInt_natCast, BitVec.toNat_ofNat]; exact Nat.mod_eq_of_lt (by omega)
  have g2 : (BitVec.ofInt 64 ((a / 64 : Nat) : Int)).toNat = a / 64 := by
    rw [BitVec.ofInt_natCast, BitVec.toNat_ofNat]; exact Nat.mod_eq_of_lt (by omega)
  show 0 ≤ IntKind.i64.wrap ((BitVec.ofInt 64 (a : Int) ^^^ BitVec.ofInt 64 ((a / 64 : Nat) : Int)).toNat : Int)
  rw [BitVec.toNat_xor, g1, g2]
  have : IntKind.i64.wrap ((a ^^^ a / 64 : Nat) : Int) = ((a ^^^ a / 64 : Nat) : Int) := by
    simp only [IntKind.wrap, IntKind.bits, IntKind.signed]
    have h63 : (2 : Nat) ^ 63 = 9223372036854775808 := by decide
    simp; omega
  rw [this]; omega

set_option maxRecDepth 100000 in
set_option maxHeartbeats 1000000 in
theorem pick_any (R p : Nat) (n : Int) (w : World) (hr : Rd w R p) (hp : p ≤ 1000000000) (hn : n ≤ 1000000000) :
    Calls Tryd.prog 54 #[.pointer (some ⟨R, 0, none⟩), .int .i64 n] w (Picked R p n w) := by
  have HR := Lib.hid hr
  obtain ⟨a, m, c, h0, h1, hf, hm, hc⟩ := hr
  by_cases hn1 : n < 1
  · have d1 : decide (n < 1) = true := by simpa using hn1
    go_enter Tryd.func54, Tryd.ntmps54
    go_wp2
    go_ret
    exact picked_mk rfl (by omega) (.inr ⟨hn1, rfl⟩) (rd_next HR.out _ (by omega)) (Touch.setCell _ _ _ _)
  · have d1 : decide (n < 1) = false := by simpa using hn1
    by_cases hm0 : m = 0
    · subst hm0
      go_enter Tryd.func54, Tryd.ntmps54
      go_wp2
      go_ret
      exact picked_mk rfl (by omega) (.inl (by omega)) (rd_next HR.out _ (by omega)) (Touch.setCell _ _ _ _)
    · have hm1 : 0 < (m : Int) := by omega
      have hme : ((m : Int) == 0) = false := by simpa using hm0
      have hc2 := hc.resolve_left hm0
      clear hc hm0
      obtain ⟨b, off, ha, hb, hx⟩ := hc2
      subst ha
      have hRb : R ≠ b := by omega
      by_cases hpm : p < m
      · obtain ⟨x, hx1, hx2⟩ := hx p hpm
        clear hx hb
        go_enter Tryd.func54, Tryd.ntmps54
        go_wp2
        go_ret
        refine picked_mk rfl ?_ (.inl ?_) (rd_next HR.out _ (by omega)) (Touch.setCell _ _ _ _)
        · exact Int.emod_nonneg _ (by omega)
        · exact Int.emod_lt_of_pos _ (by omega)
      · obtain ⟨x, hx1, hx2⟩ := hx (p % m) (Nat.mod_lt _ (by omega))
        obtain ⟨y, hy1, hy2⟩ := hx ((p * 7 + 3) % m) (Nat.mod_lt _ (by omega))
        clear hx hb
        have q1 : 0 ≤ (p : Int) % m := Int.emod_nonneg _ (by omega)
        have q2 : (p : Int) % m < m := Int.emod_lt_of_pos _ hm1
        have q3 : 0 ≤ ((p : Int) * 7 + 3) % m := Int.emod_nonneg _ (by omega)
        have q4 : ((p : Int) * 7 + 3) % m < m := Int.emod_lt_of_pos _ hm1
        have q5 : 0 ≤ (p : Int) / m := Int.ediv_nonneg (by omega) (by omega)
        have q6 : (p : Int) / m ≤ p := Int.ediv_le_self _ (by omega)
        go_enter Tryd.func54, Tryd.ntmps54
        go_wp2
        go_quiet (fail)
        go_wp2
        go_ret
        have hX : 0 ≤ (x : Int) * 131 + y * 1117 + p * 29 + p / m * 53 ∧ (x : Int) * 131 + y * 1117 + p * 29 + p / m * 53 < 9223372036854775807 := by omega
        refine picked_mk rfl ?_ (.inl ?_) (Rd.below (rd_next HR.out _ (by omega)) (below_drewN (Below.refl _ _) _)) ((Touch.setCell _ _ _ _).drewN _)
        · exact Int.tmod_nonneg _ (xor_nonneg hX.1 hX.2)
        · exact Int.tmod_lt_of_pos _ (by omega)
/-- A string drawn, of at most M bytes, by at most c picks. -/
def Drawn (R p c M : Nat) (w : World) (e : Ending) (w' : World) : Prop := ∃ (s : ByteArray) (p' : Nat), e = .returned (.string s) ∧ s.size ≤ M ∧ p ≤ p' ∧ p' ≤ p + c ∧ Rd w' R p' ∧ Touch R w w'
/-- A row of n strings of at most M bytes each. -/
def Strs (w : World) (b off n M : Nat) : Prop := b < w.heap.size ∧ ∀ i, i < n → ∃ s : ByteArray, w.cell? ⟨b, off + i, none⟩ = some (.string s) ∧ s.size ≤ M
theorem Strs.touch {w w' : World} {R b off n M : Nat} (h : Strs w b off n M) (t : Touch R w w') (hb : b ≠ R) : Strs w' b off n M :=
  ⟨Nat.lt_of_lt_of_le h.1 t.size, fun i hi => by obtain ⟨s, h1, h2⟩ := h.2 i hi; exact ⟨s, by rw [t.cell h.1 hb, h1], h2⟩⟩
set_option maxRecDepth 100000 in
set_option maxHeartbeats 400000 in
theorem of_any (R p b off n c M : Nat) (w : World) (hr : Rd w R p) (hp : p ≤ 1000000000) (hb : b ≠ R) (hn : 0 < n) (hn2 : n ≤ 1000000) (hs : Strs w b off n M) :
    Calls Tryd.prog 32 #[.pointer (some ⟨R, 0, none⟩), .slice (some ⟨b, off, none⟩) n c] w (Drawn R p 1 M w) := by
  go_enter Tryd.func32, Tryd.ntmps32
  go_wp2_with fail
  refine (pick_any R p n w hr hp (by omega)).mono ?_
  rintro e w1 ⟨k, rfl, hk, hr1, ht1⟩
  have hk' : k < n := by omega
  obtain ⟨s, h1, h2⟩ := (hs.touch ht1 hb).2 k hk'
  clear hk
  go_wp2
  go_ret
  exact ⟨s, p + 1, rfl, h2, by omega, by omega, hr1, ht1⟩
def litOk (C : Array Value) (n M : Nat) : Bool := (List.range n).all fun i => match C[i]? with | some (.string s) => decide (s.size ≤ M) | _ => false
theorem strs_new (w : World) (C : Array Value) (t : TypeId) (n M : Nat) (h : litOk C n M = true) : Strs (w.alloc (.cells C t)) w.heap.size 0 n M := by
  refine ⟨by simp, fun i hi => ?_⟩
  have h2 := List.all_eq_true.1 h i (List.mem_range.2 hi)
  rw [World.cell?_alloc_at C t _ _ rfl, Nat.zero_add]
  split at h2
  · rename_i s hs; exact ⟨s, hs, by simpa using h2⟩
  · cases h2
theorem of_lit (R p n M : Nat) (C : Array Value) (t : TypeId) (w : World) (hr : Rd w R p) (hp : p ≤ 1000000000) (hn : 0 < n) (hn2 : n ≤ 1000000) (h : litOk C n M = true) :
    Calls Tryd.prog 32 #[.pointer (some ⟨R, 0, none⟩), .slice (some ⟨w.heap.size, 0, none⟩) n n] (w.alloc (.cells C t)) (Drawn R p 1 M w) := by
  have hb : Below w.heap.size w (w.alloc (.cells C t)) := (Below.refl _ _).alloc (Nat.le_refl _) _
  refine (of_any R p w.heap.size 0 n n M _ (hr.below hb) hp (by have := hr.lt; omega) hn hn2 (strs_new w C t n M h)).mono ?_
  rintro e w' ⟨s, p', h1, h2, h3, h4, h5, h6⟩
  exact ⟨s, p', h1, h2, h3, h4, h5, (Touch.of_below hb).trans h6⟩
set_option maxRecDepth 100000 in
set_option maxHeartbeats 400000 in
theorem num_any (R p b off n c : Nat) (xs : List Int) (w : World) (hr : Rd w R p) (hp : p ≤ 1000000000) (hb : b ≠ R) (hbl : b < w.heap.size) (hn : 0 < n) (hn2 : n ≤ 1000000) (hl : xs.length = n)
    (hs : ∀ i, (h : i < xs.length) → w.cell? ⟨b, off + i, none⟩ = some (.int .i64 xs[i])) :
    Calls Tryd.prog 57 #[.pointer (some ⟨R, 0, none⟩), .slice (some ⟨b, off, none⟩) n c] w fun e w' => ∃ x, x ∈ xs ∧ e = .returned (.int .i64 x) ∧ Rd w' R (p + 1) ∧ Touch R w w' := by
  go_enter Tryd.func57, Tryd.ntmps57
  go_wp2_with fail
  refine (pick_any R p n w hr hp (by omega)).mono ?_
  rintro e w1 ⟨k, rfl, hk, hr1, ht1⟩
  have hk' : k < xs.length := by omega
  have h1 := hs k hk'
  rw [← ht1.cell hbl hb] at h1
  have hkn : k < n := by omega
  have hm : xs[k] ∈ xs := List.getElem_mem _
  generalize xs[k] = x at *
  have HS := Lib.hid hs
  have HL := Lib.hid hl
  clear hk hs hl
  go_wp2
  go_ret
  exact ⟨x, hm, rfl, hr1, ht1⟩
/-- The bytes that a draw is made of: nil or a row. -/
def Code (w : World) (a : Option Addr) (n : Nat) : Prop := n = 0 ∨ ∃ b off, a = some ⟨b, off, none⟩ ∧ b < w.heap.size ∧ ∀ i, i < n → ∃ x : Nat, x < 256 ∧ w.cell? ⟨b, off + i, none⟩ = some (.int .u8 x)
theorem Code.below {w w' : World} {a : Option Addr} {n : Nat} (h : Code w a n) (t : Below w.heap.size w w') : Code w' a n := by
  rcases h with e | ⟨b, off, ha, hb, hx⟩
  · exact .inl e
  · refine .inr ⟨b, off, ha, Nat.lt_of_lt_of_le hb t.size, fun i hi => ?_⟩
    obtain ⟨x, h1, h2⟩ := hx i hi
    exact ⟨x, h1, by rw [below_at t hb, h2]⟩
def Opened (w : World) (e : Ending) (w' : World) : Prop := ∃ R, e = .returned (.pointer (some ⟨R, 0, none⟩)) ∧ w.heap.size ≤ R ∧ Rd w' R 0 ∧ Below w.heap.size w w'
theorem opened_mk (w : World) (a : Option Addr) (n c : Nat) (t : TypeId) (hc : Code w a n) (hn : n ≤ 2000) : Opened w (.returned (.pointer (some ⟨w.heap.size, 0, none⟩))) (w.alloc (.cells #[.slice a n c, .int .i64 0] t)) := by
  have hb : Below w.heap.size w (w.alloc (.cells #[.slice a n c, .int .i64 0] t)) := (Below.refl _ _).alloc (Nat.le_refl _) _
  refine ⟨w.heap.size, rfl, Nat.le_refl _, ⟨a, n, c, ?_, ?_, ?_, hn, ?_⟩, hb⟩
  · rw [World.cell?_alloc_at _ t _ _ rfl]; rfl
  · rw [World.cell?_alloc_at _ t _ _ rfl]; rfl
  · rw [World.frozen?_alloc_at _ t _ _ rfl]
  · rcases hc with e | ⟨b, off, ha, hb2, hx⟩
    · exact .inl e
    · refine .inr ⟨b, off, ha, by omega, fun i hi => ?_⟩
      obtain ⟨x, h1, h2⟩ := hx i hi
      exact ⟨x, h1, by rw [below_at hb hb2, h2]⟩
set_option maxRecDepth 100000 in
set_option maxHeartbeats 400000 in
theorem open_any (a : Option Addr) (n c : Nat) (w : World) (hc : Code w a n) (hnc : n ≤ c) (hm : c ≤ maxLen) :
    Calls Tryd.prog 29 #[.slice a n c] w (Opened w) := by
  unfold maxLen at hm
  by_cases hn : 2000 < n
  · have hd : decide ((2000 : Int) < n) = true := by simp; omega
    obtain ⟨b, off, rfl, hb, hx⟩ := hc.resolve_left (by omega)
    have HX := Lib.hid hx
    clear hx hc
    go_enter Tryd.func29, Tryd.ntmps29
    go_wp2
    go_ret
    exact opened_mk w _ 2000 c _ (.inr ⟨b, off, rfl, hb, fun i hi => HX.out i (by omega)⟩) (by omega)
  · have hd : decide ((2000 : Int) < n) = false := by simp; omega
    have HC := Lib.hid hc
    clear hc
    go_enter Tryd.func29, Tryd.ntmps29
    go_wp2
    go_ret
    exact opened_mk w a n c _ HC.out (by omega)
end Go.Proofs.YtbfjbabpeigloabDoor
