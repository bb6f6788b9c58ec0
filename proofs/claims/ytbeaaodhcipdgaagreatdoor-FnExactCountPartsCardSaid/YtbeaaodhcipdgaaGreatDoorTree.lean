/-
  Messages in memory: a part's value that reads as a tree. No statement is proved here.
-/
import Derived.Test.YtbeaaodhcipdgaaGreatDoorPrtM
import Derived.Test.YtbeaaodhcipdgaaGreatDoorFldV
import Derived.Test.YtbeaaodhcipdgaaGreatDoorSplit
import Derived.Test.YtbeaaodhcipdgaaGreatDoorKindI
namespace Go.Proofs.YtbeaaodhcipdgaaGreatDoor
open Go.RowKit

def PF (p : Prt) : Prop := p.fields.length ≤ 1048576 ∧ (∀ x ∈ p.fields, SmallF 1048576 x) ∧ p.body.length ≤ 1048576 ∧ (∀ x ∈ p.body, x.length ≤ 1048576) ∧ p.kids.length ≤ 1048576
/-- A part's value reads as a tree of at most f parts within each other. -/
def RdT (w : World) : Nat → Value → Prt → Prop
  | 0, _, _ => False
  | f + 1, v, p => ∃ (a1 : Option Addr) (c1 : Nat) (a2 : Option Addr) (c2 : Nat) (a3 : Option Addr) (c3 : Nat),
      v = .agg #[.slice a1 p.fields.length c1, .slice a2 p.body.length c2, .slice a3 p.kids.length c3] ∧
      (RdF w a1 p.fields.length p.fields ∧ p.fields.length ≤ c1) ∧
      (RdL w a2 p.body.length p.body ∧ p.body.length ≤ c2 ∧ (a2 = none → c2 = 0)) ∧ p.kids.length ≤ c3 ∧ PF p ∧
      (p.kids.length = 0 ∨ ∃ b off, a3 = some ⟨b, off, none⟩ ∧ b < w.heap.size ∧ ∀ i, (h : i < p.kids.length) →
        ∃ v0 v1 v2, w.cell? ⟨b, off + i * 3, none⟩ = some v0 ∧ w.cell? ⟨b, off + i * 3 + 1, none⟩ = some v1 ∧ w.cell? ⟨b, off + i * 3 + 2, none⟩ = some v2 ∧ RdT w f (.agg #[v0, v1, v2]) p.kids[i])
theorem RdT.below {w w' : World} (hb : Below w.heap.size w w') : ∀ (f : Nat) {v : Value} {p : Prt}, RdT w f v p → RdT w' f v p
  | 0, _, _, h => h
  | f + 1, v, p, h => by
    obtain ⟨a1, c1, a2, c2, a3, c3, hv, ⟨h1, h2⟩, ⟨h3, h4, h5⟩, h6, h7, h8⟩ := h
    refine ⟨a1, c1, a2, c2, a3, c3, hv, ⟨h1.below hb, h2⟩, ⟨h3.below hb, h4, h5⟩, h6, h7, ?_⟩
    rcases h8 with e | ⟨b, off, e, hl, hk⟩
    · exact .inl e
    · refine .inr ⟨b, off, e, Nat.lt_of_lt_of_le hl hb.size, fun i hi => ?_⟩
      obtain ⟨v0, v1, v2, g0, g1, g2, g3⟩ := hk i hi
      exact ⟨v0, v1, v2, by rw [below_at hb hl, g0], by rw [below_at hb hl, g1], by rw [below_at hb hl, g2], RdT.below hb f g3⟩
theorem RdT.up {w : World} : ∀ (f : Nat) {v : Value} {p : Prt}, RdT w f v p → RdT w (f + 1) v p
  | 0, _, _, h => h.elim
  | f + 1, v, p, h => by
    obtain ⟨a1, c1, a2, c2, a3, c3, hv, h1, h3, h6, h7, h8⟩ := h
    refine ⟨a1, c1, a2, c2, a3, c3, hv, h1, h3, h6, h7, ?_⟩
    rcases h8 with e | ⟨b, off, e, hl, hk⟩
    · exact .inl e
    · refine .inr ⟨b, off, e, hl, fun i hi => ?_⟩
      obtain ⟨v0, v1, v2, g0, g1, g2, g3⟩ := hk i hi
      exact ⟨v0, v1, v2, g0, g1, g2, RdT.up f g3⟩
/-- A row of parts. -/
def RdKs (w : World) (f : Nat) (a : Option Addr) (ks : List Prt) : Prop :=
  ks.length = 0 ∨ ∃ b off, a = some ⟨b, off, none⟩ ∧ b < w.heap.size ∧ ∀ i, (h : i < ks.length) →
    ∃ v0 v1 v2, w.cell? ⟨b, off + i * 3, none⟩ = some v0 ∧ w.cell? ⟨b, off + i * 3 + 1, none⟩ = some v1 ∧ w.cell? ⟨b, off + i * 3 + 2, none⟩ = some v2 ∧ RdT w f (.agg #[v0, v1, v2]) ks[i]
theorem RdKs.below {w w' : World} {f : Nat} {a : Option Addr} {ks : List Prt} (h : RdKs w f a ks) (hb : Below w.heap.size w w') : RdKs w' f a ks := by
  rcases h with e | ⟨b, off, e, hl, hk⟩
  · exact .inl e
  · refine .inr ⟨b, off, e, Nat.lt_of_lt_of_le hl hb.size, fun i hi => ?_⟩
    obtain ⟨v0, v1, v2, g0, g1, g2, g3⟩ := hk i hi
    exact ⟨v0, v1, v2, by rw [below_at hb hl, g0], by rw [below_at hb hl, g1], by rw [below_at hb hl, g2], RdT.below hb f g3⟩
/-- A part's three slices. -/
theorem RdT.open {w : World} {f : Nat} {v : Value} {p : Prt} (h : RdT w f v p) : ∃ (f' : Nat) (a1 : Option Addr) (c1 : Nat) (a2 : Option Addr) (c2 : Nat) (a3 : Option Addr) (c3 : Nat), f = f' + 1 ∧
    v = .agg #[.slice a1 p.fields.length c1, .slice a2 p.body.length c2, .slice a3 p.kids.length c3] ∧ (RdF w a1 p.fields.length p.fields ∧ p.fields.length ≤ c1) ∧
    (RdL w a2 p.body.length p.body ∧ p.body.length ≤ c2 ∧ (a2 = none → c2 = 0)) ∧ p.kids.length ≤ c3 ∧ PF p ∧ RdKs w f' a3 p.kids := by
  match f, h with
  | f + 1, h =>
    obtain ⟨a1, c1, a2, c2, a3, c3, hv, h1, h3, h6, h7, h8⟩ := h
    exact ⟨f, a1, c1, a2, c2, a3, c3, rfl, hv, h1, h3, h6, h7, h8⟩
theorem RdT.mk {w : World} {f : Nat} {p : Prt} {a1 a2 a3 : Option Addr} {c1 c2 c3 : Nat} (h1 : RdF w a1 p.fields.length p.fields ∧ p.fields.length ≤ c1)
    (h2 : RdL w a2 p.body.length p.body ∧ p.body.length ≤ c2 ∧ (a2 = none → c2 = 0)) (h3 : p.kids.length ≤ c3) (h4 : PF p) (h5 : RdKs w f a3 p.kids) :
    RdT w (f + 1) (.agg #[.slice a1 p.fields.length c1, .slice a2 p.body.length c2, .slice a3 p.kids.length c3]) p := ⟨a1, c1, a2, c2, a3, c3, rfl, h1, h2, h3, h4, h5⟩
/-- A kid's three cells. -/
theorem RdKs.at {w : World} {f : Nat} {a : Option Addr} {ks : List Prt} (h : RdKs w f a ks) {i : Nat} (hi : i < ks.length) : ∃ b off, a = some ⟨b, off, none⟩ ∧ b < w.heap.size ∧ ∃ (a1 : Option Addr) (c1 : Nat) (a2 : Option Addr) (c2 : Nat) (a3 : Option Addr) (c3 : Nat),
    w.cell? ⟨b, off + i * 3, none⟩ = some (.slice a1 ks[i].fields.length c1) ∧ w.cell? ⟨b, off + i * 3 + 1, none⟩ = some (.slice a2 ks[i].body.length c2) ∧ w.cell? ⟨b, off + i * 3 + 2, none⟩ = some (.slice a3 ks[i].kids.length c3) ∧
    RdT w f (.agg #[.slice a1 ks[i].fields.length c1, .slice a2 ks[i].body.length c2, .slice a3 ks[i].kids.length c3]) ks[i] := by
  rcases h with e | ⟨b, off, e, hl, hk⟩
  · omega
  · obtain ⟨v0, v1, v2, g0, g1, g2, g3⟩ := hk i hi
    refine ⟨b, off, e, hl, ?_⟩
    have g4 := g3
    obtain ⟨f', a1, c1, a2, c2, a3, c3, rfl, hv, _⟩ := g3.open
    injection hv with hv
    have e0 : v0 = .slice a1 ks[i].fields.length c1 := by injection hv with hv; injection hv
    have e1 : v1 = .slice a2 ks[i].body.length c2 := by injection hv with hv; injection hv with _ hv; injection hv
    have e2 : v2 = .slice a3 ks[i].kids.length c3 := by injection hv with hv; injection hv with _ hv; injection hv with _ hv; injection hv
    subst e0 e1 e2
    exact ⟨a1, c1, a2, c2, a3, c3, g0, g1, g2, g4⟩
end Go.Proofs.YtbeaaodhcipdgaaGreatDoor
