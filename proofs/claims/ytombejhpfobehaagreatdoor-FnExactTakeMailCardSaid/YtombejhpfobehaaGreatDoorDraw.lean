/-
  Draws: what the drawing functions of the verifier's package do to memory: only the reader's own block turns. No statement is proved here.
-/
import Derived.Test.YtombejhpfobehaaGreatDoorWords
import Derived.Deep.QuietTactic
import Derived.BigQuiet
import Derived.WalkSmall
namespace Go.Proofs.YtombejhpfobehaaGreatDoor
open Go.RowKit

/-- A reader at block R: its bytes lie elsewhere; p picks have been made. -/
def Rd (w : World) (R p : Nat) : Prop := ∃ (a : Option Addr) (n c : Nat), w.cell? ⟨R, 0, none⟩ = some (.slice a n c) ∧ w.cell? ⟨R, 1, none⟩ = some (.int .i64 p) ∧ w.frozen? ⟨R, 1, none⟩ = false ∧ n ≤ 2000 ∧
  (n = 0 ∨ ∃ b off, a = some ⟨b, off, none⟩ ∧ b < R ∧ ∀ i, i < n → ∃ x : Nat, x < 256 ∧ w.cell? ⟨b, off + i, none⟩ = some (.int .u8 x))
theorem Rd.lt {w : World} {R p : Nat} (h : Rd w R p) : R < w.heap.size := by
  obtain ⟨a, n, c, h0, _⟩ := h; exact lt_of_cell h0
theorem Rd.touch {w w' : World} {R p p' : Nat} (h : Rd w R p) (t : Touch R w w') (h0 : w'.cell? ⟨R, 0, none⟩ = w.cell? ⟨R, 0, none⟩) (h1 : w'.cell? ⟨R, 1, none⟩ = some (.int .i64 p')) (hf : w'.frozen? ⟨R, 1, none⟩ = w.frozen? ⟨R, 1, none⟩) : Rd w' R p' := by
  obtain ⟨a, n, c, g0, g1, gf, gn, gc⟩ := h
  refine ⟨a, n, c, by rw [h0, g0], h1, by rw [hf, gf], gn, ?_⟩
  rcases gc with e | ⟨b, off, ha, hb, hx⟩
  · exact .inl e
  · refine .inr ⟨b, off, ha, hb, fun i hi => ?_⟩
    obtain ⟨x, hx1, hx2⟩ := hx i hi
    exact ⟨x, hx1, by rw [t.cell (lt_of_cell hx2) (Nat.ne_of_lt hb), hx2]⟩
theorem Rd.below {w w' : World} {R p : Nat} (h : Rd w R p) (t : Below w.heap.size w w') : Rd w' R p := by
  have hl := h.lt
  have h' := h
  obtain ⟨a, n, c, g0, g1, gf, gn, gc⟩ := h'
  exact h.touch (Touch.of_below t) (below_at t hl) (by rw [below_at t hl, g1]) (below_fz t hl)
theorem Rd.belowB {w w' : World} {R p B : Nat} (h : Rd w R p) (t : Below B w w') (hR : R < B) : Rd w' R p := by
  obtain ⟨a, n, c, g0, g1, gf, gn, gc⟩ := h
  refine ⟨a, n, c, by rw [below_at t hR, g0], by rw [below_at t hR, g1], by rw [below_fz t hR, gf], gn, ?_⟩
  rcases gc with e | ⟨b, off, ha, hb, hx⟩
  · exact .inl e
  · refine .inr ⟨b, off, ha, hb, fun i hi => ?_⟩
    obtain ⟨x, hx1, hx2⟩ := hx i hi
    exact ⟨x, hx1, by rw [below_at t (by omega), hx2]⟩
/-- What a pick leaves: a number from 0 to n-1 (0 where n is less than 1), and the reader one pick on. -/
def Picked (R p : Nat) (n : Int) (w : World) (e : Ending) (w' : World) : Prop := ∃ k : Nat, e = .returned (.int .i64 k) ∧ ((k : Int) < n ∨ n < 1 ∧ k = 0) ∧ Rd w' R (p + 1) ∧ Touch R w w'
theorem picked_mk {R p : Nat} {n : Int} {w w' : World} {e : Ending} {v : Int} (he : e = .returned (.int .i64 v)) (h0 : 0 ≤ v) (hn : v < n ∨ n < 1 ∧ v = 0) (hr : Rd w' R (p + 1)) (ht : Touch R w w') : Picked R p n w e w' := by
  obtain ⟨k, rfl⟩ := Int.eq_ofNat_of_zero_le h0
  exact ⟨k, he, by omega, hr, ht⟩
theorem rd_next {w : World} {R p : Nat} (h : Rd w R p) (q : Int) (hq : q = ((p + 1 : Nat) : Int)) : Rd (w.setCell ⟨R, 1, none⟩ (.int .i64 q)) R (p + 1) := by
  subst hq
  have h' := h
  obtain ⟨a, n, c, g0, g1, gf, gn, gc⟩ := h'
  exact h.touch (Touch.setCell _ _ _ _) (cell_off (by omega) _) (cell_same g1 _) (World.frozen?_setCell _ _ _ _)

theorem xor_nonneg {X : Int} (h0 : 0 ≤ X) (h1 : X < 9223372036854775807) : 0 ≤ bits BinOp.xor IntKind.i64 X (X / 64) := by
  obtain ⟨a, rfl⟩ := Int.eq_ofNat_of_zero_le h0
  have e : ((a : Int) / 64) = ((a / 64 : Nat) : Int) := by omega
  rw [e]
  have hx : a ^^^ (a / 64) < 2 ^ 63 := Nat.xor_lt_two_pow (by omega) (by omega)
  have g1 : (BitVec.ofInt 64 (a : Int)).toNat = a := by
    rw [BitVec.ofInt_natCast, BitVec.toNat_ofNat]; exact Nat.mod_eq_of_lt (by omega)
  have g2 : (BitVec.ofInt 64 ((a / 64 : Nat) : Int)).toNat = a / 64 := by
    rw [BitVec.ofInt_natCast, BitVec.toNat_ofNat]; exact Nat.mod_eq_of_lt (by omega)
  show 0 ≤ IntKind.i64.wrap ((BitVec.ofInt 64 (a : Int) ^^^ BitVec.ofInt 64 ((a / 64 : Nat) : Int)).toNat : Int)
  rw [BitVec.toNat_xor, g1, g2]
  have : IntKind.i64.wrap ((a ^^^ a / 64 : Nat) : Int) = ((a ^^^ a / 64 : Nat) : Int) := by
    simp only [IntKind.wrap, IntKind.bits, IntKind.signed]
    have h63 : (2 : Nat) ^ 63 = 9223372036854775808 := by decide
    simp; omega
  rw [this]; omega

end Go.Proofs.YtombejhpfobehaaGreatDoor
