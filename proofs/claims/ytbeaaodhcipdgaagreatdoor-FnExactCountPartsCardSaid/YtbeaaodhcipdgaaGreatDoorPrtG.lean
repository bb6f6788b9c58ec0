/-
  Messages in memory, whose blocks all lie from a block on: what turns below leaves them as they are. No statement is proved here.
-/
import Derived.Test.YtbeaaodhcipdgaaGreatDoorTree
import Derived.Test.YtbeaaodhcipdgaaGreatDoorOnly
namespace Go.Proofs.YtbeaaodhcipdgaaGreatDoor
open Go.RowKit

def PFM (M : Nat) (p : Prt) : Prop := p.fields.length ≤ M ∧ (∀ x ∈ p.fields, SmallF M x) ∧ p.body.length ≤ M ∧ (∀ x ∈ p.body, x.length ≤ M) ∧ p.kids.length ≤ M
def lo (B : Nat) (a : Option Addr) : Prop := ∀ x, a = some x → B ≤ x.block
theorem lo.mono {B C : Nat} {a : Option Addr} (h : lo B a) (hc : C ≤ B) : lo C a := fun x e => Nat.le_trans hc (h x e)
theorem lo_zero (a : Option Addr) : lo 0 a := fun _ _ => Nat.zero_le _
/-- A part's value reads as a tree of at most f parts within each other, in blocks from B on. -/
def RdG (M B : Nat) (w : World) : Nat → Value → Prt → Prop
  | 0, _, _ => False
  | f + 1, v, p => ∃ (a1 : Option Addr) (c1 : Nat) (a2 : Option Addr) (c2 : Nat) (a3 : Option Addr) (c3 : Nat),
      v = .agg #[.slice a1 p.fields.length c1, .slice a2 p.body.length c2, .slice a3 p.kids.length c3] ∧
      (RdF w a1 p.fields.length p.fields ∧ p.fields.length ≤ c1 ∧ lo B a1) ∧
      (RdL w a2 p.body.length p.body ∧ p.body.length ≤ c2 ∧ (a2 = none → c2 = 0) ∧ lo B a2) ∧ p.kids.length ≤ c3 ∧ PFM M p ∧
      (p.kids.length = 0 ∨ ∃ b off, a3 = some ⟨b, off, none⟩ ∧ B ≤ b ∧ b < w.heap.size ∧ ∀ i, (h : i < p.kids.length) →
        ∃ v0 v1 v2, w.cell? ⟨b, off + i * 3, none⟩ = some v0 ∧ w.cell? ⟨b, off + i * 3 + 1, none⟩ = some v1 ∧ w.cell? ⟨b, off + i * 3 + 2, none⟩ = some v2 ∧ RdG M B w f (.agg #[v0, v1, v2]) p.kids[i])
def RdGs (M B : Nat) (w : World) (f : Nat) (a : Option Addr) (ks : List Prt) : Prop :=
  ks.length = 0 ∨ ∃ b off, a = some ⟨b, off, none⟩ ∧ B ≤ b ∧ b < w.heap.size ∧ ∀ i, (h : i < ks.length) →
        ∃ v0 v1 v2, w.cell? ⟨b, off + i * 3, none⟩ = some v0 ∧ w.cell? ⟨b, off + i * 3 + 1, none⟩ = some v1 ∧ w.cell? ⟨b, off + i * 3 + 2, none⟩ = some v2 ∧ RdG M B w f (.agg #[v0, v1, v2]) ks[i]
theorem RdG.open {M B : Nat} {w : World} {f : Nat} {v : Value} {p : Prt} (h : RdG M B w f v p) : ∃ (f' : Nat) (a1 : Option Addr) (c1 : Nat) (a2 : Option Addr) (c2 : Nat) (a3 : Option Addr) (c3 : Nat), f = f' + 1 ∧
    v = .agg #[.slice a1 p.fields.length c1, .slice a2 p.body.length c2, .slice a3 p.kids.length c3] ∧ (RdF w a1 p.fields.length p.fields ∧ p.fields.length ≤ c1 ∧ lo B a1) ∧
    (RdL w a2 p.body.length p.body ∧ p.body.length ≤ c2 ∧ (a2 = none → c2 = 0) ∧ lo B a2) ∧ p.kids.length ≤ c3 ∧ PFM M p ∧ RdGs M B w f' a3 p.kids := by
  match f, h with
  | f + 1, h =>
    obtain ⟨a1, c1, a2, c2, a3, c3, hv, h1, h3, h6, h7, h8⟩ := h
    exact ⟨f, a1, c1, a2, c2, a3, c3, rfl, hv, h1, h3, h6, h7, h8⟩
theorem RdG.mk {M B : Nat} {w : World} {f : Nat} {p : Prt} {a1 a2 a3 : Option Addr} {c1 c2 c3 : Nat} (h1 : RdF w a1 p.fields.length p.fields ∧ p.fields.length ≤ c1 ∧ lo B a1)
    (h2 : RdL w a2 p.body.length p.body ∧ p.body.length ≤ c2 ∧ (a2 = none → c2 = 0) ∧ lo B a2) (h3 : p.kids.length ≤ c3) (h4 : PFM M p) (h5 : RdGs M B w f a3 p.kids) :
    RdG M B w (f + 1) (.agg #[.slice a1 p.fields.length c1, .slice a2 p.body.length c2, .slice a3 p.kids.length c3]) p := ⟨a1, c1, a2, c2, a3, c3, rfl, h1, h2, h3, h4, h5⟩
theorem RdG.below {M B : Nat} {w w' : World} (hb : Below w.heap.size w w') : ∀ (f : Nat) {v : Value} {p : Prt}, RdG M B w f v p → RdG M B w' f v p
  | 0, _, _, h => h
  | f + 1, v, p, h => by
    obtain ⟨a1, c1, a2, c2, a3, c3, hv, ⟨h1, h2⟩, ⟨h3, h4⟩, h6, h7, h8⟩ := h
    refine ⟨a1, c1, a2, c2, a3, c3, hv, ⟨h1.below hb, h2⟩, ⟨h3.below hb, h4⟩, h6, h7, ?_⟩
    rcases h8 with e | ⟨b, off, e, hB, hl, hk⟩
    · exact .inl e
    · refine .inr ⟨b, off, e, hB, Nat.lt_of_lt_of_le hl hb.size, fun i hi => ?_⟩
      obtain ⟨v0, v1, v2, g0, g1, g2, g3⟩ := hk i hi
      exact ⟨v0, v1, v2, by rw [below_at hb hl, g0], by rw [below_at hb hl, g1], by rw [below_at hb hl, g2], RdG.below hb f g3⟩
theorem RdGs.below {M B : Nat} {w w' : World} {f : Nat} {a : Option Addr} {ks : List Prt} (h : RdGs M B w f a ks) (hb : Below w.heap.size w w') : RdGs M B w' f a ks := by
  rcases h with e | ⟨b, off, e, hB, hl, hk⟩
  · exact .inl e
  · refine .inr ⟨b, off, e, hB, Nat.lt_of_lt_of_le hl hb.size, fun i hi => ?_⟩
    obtain ⟨v0, v1, v2, g0, g1, g2, g3⟩ := hk i hi
    exact ⟨v0, v1, v2, by rw [below_at hb hl, g0], by rw [below_at hb hl, g1], by rw [below_at hb hl, g2], RdG.below hb f g3⟩
theorem only_at {g : Nat} {w w' : World} (h : Only (some g) w w') {b o : Nat} (hb : b < w.heap.size) (hne : b ≠ g) : w'.cell? ⟨b, o, none⟩ = w.cell? ⟨b, o, none⟩ := by
  unfold World.cell?
  rw [h.block b hb (fun e => hne (by injection e))]
theorem rdL_only {g : Nat} {w w' : World} {a : Option Addr} {n : Nat} {xs : List (List UInt8)} (h : RdL w a n xs) (t : Only (some g) w w') (hl : lo (g + 1) a) : RdL w' a n xs := by
  refine ⟨h.1, ?_⟩
  rcases h.2 with e | ⟨b, off, ha, hb, hx⟩
  · exact .inl e
  · exact .inr ⟨b, off, ha, Nat.lt_of_lt_of_le hb t.size, fun i hi => by rw [only_at t hb (by have := hl _ ha; simp at this; omega), hx i hi]⟩
theorem rdF_only {g : Nat} {w w' : World} {a : Option Addr} {n : Nat} {xs : List Fld} (h : RdF w a n xs) (t : Only (some g) w w') (hl : lo (g + 1) a) : RdF w' a n xs := by
  refine ⟨h.1, ?_⟩
  rcases h.2 with e | ⟨b, off, ha, hb, hx⟩
  · exact .inl e
  · exact .inr ⟨b, off, ha, Nat.lt_of_lt_of_le hb t.size, fun i hi d v hv => by rw [only_at t hb (by have := hl _ ha; simp at this; omega), hx i hi d v hv]⟩
/-- A block below turns. -/
theorem RdG.only {M B g : Nat} {w w' : World} (t : Only (some g) w w') (hg : g < B) : ∀ (f : Nat) {v : Value} {p : Prt}, RdG M B w f v p → RdG M B w' f v p
  | 0, _, _, h => h
  | f + 1, v, p, h => by
    obtain ⟨a1, c1, a2, c2, a3, c3, hv, ⟨h1, h2, h2'⟩, ⟨h3, h4, h5, h5'⟩, h6, h7, h8⟩ := h
    refine ⟨a1, c1, a2, c2, a3, c3, hv, ⟨rdF_only h1 t (h2'.mono hg), h2, h2'⟩, ⟨rdL_only h3 t (h5'.mono hg), h4, h5, h5'⟩, h6, h7, ?_⟩
    rcases h8 with e | ⟨b, off, e, hB, hl, hk⟩
    · exact .inl e
    · refine .inr ⟨b, off, e, hB, Nat.lt_of_lt_of_le hl t.size, fun i hi => ?_⟩
      obtain ⟨v0, v1, v2, g0, g1, g2, g3⟩ := hk i hi
      exact ⟨v0, v1, v2, by rw [only_at t hl (by omega), g0], by rw [only_at t hl (by omega), g1], by rw [only_at t hl (by omega), g2], RdG.only t hg f g3⟩
theorem RdG.base {M B C : Nat} {w : World} (hc : C ≤ B) : ∀ (f : Nat) {v : Value} {p : Prt}, RdG M B w f v p → RdG M C w f v p
  | 0, _, _, h => h
  | f + 1, v, p, h => by
    obtain ⟨a1, c1, a2, c2, a3, c3, hv, ⟨h1, h2, h2'⟩, ⟨h3, h4, h5, h5'⟩, h6, h7, h8⟩ := h
    refine ⟨a1, c1, a2, c2, a3, c3, hv, ⟨h1, h2, h2'.mono hc⟩, ⟨h3, h4, h5, h5'.mono hc⟩, h6, h7, ?_⟩
    rcases h8 with e | ⟨b, off, e, hB, hl, hk⟩
    · exact .inl e
    · refine .inr ⟨b, off, e, Nat.le_trans hc hB, hl, fun i hi => ?_⟩
      obtain ⟨v0, v1, v2, g0, g1, g2, g3⟩ := hk i hi
      exact ⟨v0, v1, v2, g0, g1, g2, RdG.base hc f g3⟩
/-- All parts of a tree are small. -/
def okT : Nat → Prt → Prop
  | 0, _ => True
  | f + 1, p => PF p ∧ ∀ i, (h : i < p.kids.length) → okT f p.kids[i]
theorem RdG.small {M B : Nat} {w : World} : ∀ (f : Nat) {v : Value} {p : Prt}, RdG M B w f v p → okT f p → RdG 1048576 B w f v p
  | 0, _, _, h, _ => h
  | f + 1, v, p, h, ho => by
    obtain ⟨a1, c1, a2, c2, a3, c3, hv, h1, h3, h6, _, h8⟩ := h
    refine ⟨a1, c1, a2, c2, a3, c3, hv, h1, h3, h6, ho.1, ?_⟩
    rcases h8 with e | ⟨b, off, e, hB, hl, hk⟩
    · exact .inl e
    · refine .inr ⟨b, off, e, hB, hl, fun i hi => ?_⟩
      obtain ⟨v0, v1, v2, g0, g1, g2, g3⟩ := hk i hi
      exact ⟨v0, v1, v2, g0, g1, g2, RdG.small f g3 (ho.2 i hi)⟩
theorem RdG.plain {B : Nat} {w : World} : ∀ (f : Nat) {v : Value} {p : Prt}, RdG 1048576 B w f v p → RdT w f v p
  | 0, _, _, h => h
  | f + 1, v, p, h => by
    obtain ⟨a1, c1, a2, c2, a3, c3, hv, ⟨h1, h2, _⟩, ⟨h3, h4, h5, _⟩, h6, h7, h8⟩ := h
    refine ⟨a1, c1, a2, c2, a3, c3, hv, ⟨h1, h2⟩, ⟨h3, h4, h5⟩, h6, h7, ?_⟩
    rcases h8 with e | ⟨b, off, e, hB, hl, hk⟩
    · exact .inl e
    · refine .inr ⟨b, off, e, hl, fun i hi => ?_⟩
      obtain ⟨v0, v1, v2, g0, g1, g2, g3⟩ := hk i hi
      exact ⟨v0, v1, v2, g0, g1, g2, RdG.plain f g3⟩
theorem RdGs.at {M B : Nat} {w : World} {f : Nat} {a : Option Addr} {ks : List Prt} (h : RdGs M B w f a ks) {i : Nat} (hi : i < ks.length) : ∃ b off, a = some ⟨b, off, none⟩ ∧ b < w.heap.size ∧ ∃ (a1 : Option Addr) (c1 : Nat) (a2 : Option Addr) (c2 : Nat) (a3 : Option Addr) (c3 : Nat),
    w.cell? ⟨b, off + i * 3, none⟩ = some (.slice a1 ks[i].fields.length c1) ∧ w.cell? ⟨b, off + i * 3 + 1, none⟩ = some (.slice a2 ks[i].body.length c2) ∧ w.cell? ⟨b, off + i * 3 + 2, none⟩ = some (.slice a3 ks[i].kids.length c3) ∧
    RdG M B w f (.agg #[.slice a1 ks[i].fields.length c1, .slice a2 ks[i].body.length c2, .slice a3 ks[i].kids.length c3]) ks[i] := by
  rcases h with e | ⟨b, off, e, _, hl, hk⟩
  · omega
  · obtain ⟨v0, v1, v2, g0, g1, g2, g3⟩ := hk i hi
    refine ⟨b, off, e, hl, ?_⟩
    have g4 := g3
    obtain ⟨f', a1, c1, a2, c2, a3, c3, rfl, hv, _⟩ := g3.open
    injection hv with hv
    have e0 : v0 = .slice a1 ks[i].fields.length c1 := by injection hv with hv; injection hv
    have e1 : v1 = .slice a2 ks[i].body.length c2 := by injection hv with hv; injection hv with _ hv; injection hv
    have e2 : v2 = .slice a3 ks[i].kids.length c3 := by injection hv with hv; injection hv with _ hv; injection hv with _ hv; injection hv
    subst e0 e1 e2
    exact ⟨a1, c1, a2, c2, a3, c3, g0, g1, g2, g4⟩
end Go.Proofs.YtbeaaodhcipdgaaGreatDoor
