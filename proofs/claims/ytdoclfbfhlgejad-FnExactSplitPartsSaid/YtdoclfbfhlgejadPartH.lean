/-
  Helpers of chapter 7's laws on parts: contracts with their results spelled out; cells of rows of rows in later worlds. No statement is proved here.
-/
import Derived.Test.YtdoclfbfhlgejadPartJ
import Derived.Test.YtdoclfbfhlgejadQuietB
namespace Go.Proofs.Ytdoclfbfhlgejad
open Go.RowKit

theorem PartsRet.none' {w : World} {e : Ending} {w' : World} (h : PartsRet none w e w') : ∃ a c, e = .returned (.tuple #[.slice a 0 c, .bool false]) ∧ Below w.heap.size w w' := by
  obtain ⟨v, us, rfl, ho, hb⟩ := h
  obtain ⟨a, c, rfl, _⟩ := ho.read
  exact ⟨a, c, rfl, hb⟩
theorem PartsRet.some' {ps : List (List (List UInt8))} {w : World} {e : Ending} {w' : World} (h : PartsRet (some ps) w e w') : ∃ a c us, e = .returned (.tuple #[.slice a ps.length c, .bool true]) ∧ OwnSS w.heap.size (.slice a ps.length c) us ps w' ∧ RdSS w' a ps.length ps ∧ Below w.heap.size w w' := by
  obtain ⟨v, us, rfl, ho, hb⟩ := h
  have ho : OwnSS w.heap.size v us ps w' := ho
  obtain ⟨a, c, rfl, hr, _⟩ := ho.read
  exact ⟨a, c, us, rfl, ho, hr, hb⟩
theorem LinesRet.none' {w : World} {e : Ending} {w' : World} (h : LinesRet none w e w') : ∃ a c, e = .returned (.tuple #[.slice a 0 c, .bool false]) ∧ RdL w' a 0 [] ∧ Below w.heap.size w w' := by
  obtain ⟨v, rfl, ho, hb⟩ := h
  have ho : OwnL w.heap.size v [] w' := ho
  obtain ⟨a, c, rfl, hr, _⟩ := ho.read
  exact ⟨a, c, rfl, hr, hb⟩
theorem LinesRet.some' {ls : List (List UInt8)} {w : World} {e : Ending} {w' : World} (h : LinesRet (some ls) w e w') : ∃ a c, e = .returned (.tuple #[.slice a ls.length c, .bool true]) ∧ OwnL w.heap.size (.slice a ls.length c) ls w' ∧ RdL w' a ls.length ls ∧ Below w.heap.size w w' := by
  obtain ⟨v, rfl, ho, hb⟩ := h
  have ho : OwnL w.heap.size v ls w' := ho
  obtain ⟨a, c, rfl, hr, _⟩ := ho.read
  exact ⟨a, c, rfl, ho, hr, hb⟩
theorem RdSS.cellT {W0 wr : World} {a : Option Addr} {n : Nat} {ps : List (List (List UInt8))} (h : RdSS W0 a n ps) (hb : Below W0.heap.size W0 wr) {k : Nat} (hk : k < ps.length) :
    ∃ b off a' c', a = some ⟨b, off, none⟩ ∧ (∀ y : BelowT wr, y.val.cell? ⟨b, off + k, none⟩ = some (.slice a' ps[k].length c')) ∧ (∀ y : BelowT wr, RdL y.val a' ps[k].length ps[k]) ∧ ps[k].length ≤ c' := by
  obtain ⟨b, off, ha, hbl, hc⟩ := h.2.resolve_left (by have := h.1; omega)
  obtain ⟨a', c', h1, h2, _, h4⟩ := hc k hk
  exact ⟨b, off, a', c', ha, fun y => by rw [below_at (nx hb y.below) hbl, h1], fun y => h2.below (nx hb y.below), h4⟩
theorem RdSS.cellW {W0 wr : World} {a : Option Addr} {n : Nat} {ps : List (List (List UInt8))} (h : RdSS W0 a n ps) (hb : Below W0.heap.size W0 wr) {k : Nat} (hk : k < ps.length) :
    ∃ b off a' c', a = some ⟨b, off, none⟩ ∧ wr.cell? ⟨b, off + k, none⟩ = some (.slice a' ps[k].length c') ∧ RdL wr a' ps[k].length ps[k] ∧ ps[k].length ≤ c' := by
  obtain ⟨b, off, a', c', ha, h1, h2, h3⟩ := h.cellT hb hk
  exact ⟨b, off, a', c', ha, h1 ⟨wr, Below.refl _ _⟩, h2 ⟨wr, Below.refl _ _⟩, h3⟩
end Go.Proofs.Ytdoclfbfhlgejad
