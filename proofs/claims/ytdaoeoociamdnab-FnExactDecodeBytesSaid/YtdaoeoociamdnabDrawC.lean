/-
  Draws of chapter 5: bytes, lines of letters, quoted lines. No statement is proved here.
-/
import Derived.Test.YtdaoeoociamdnabDraw2
import Derived.Test.YtdaoeoociamdnabCodR
namespace Go.Proofs.Ytdaoeoociamdnab
open Go.RowKit

theorem encB_small (b : List UInt8) : ((encB b).getD []).length ≤ 500 ∧ ∀ x ∈ (encB b).getD [], x.length ≤ 40 := by
  by_cases h : b.length ≤ 300
  · rw [encB_in h]
    have hl : (b64 b).length ≤ 400 := by rw [b64_len]; omega
    have := chop_count _ _ hl
    exact ⟨by show (chop _).length ≤ _; omega, this.2⟩
  · rw [encB_out (by omega)]; simp
theorem ownL_cases {B : Nat} {v : Value} {xs : List (List UInt8)} {w : World} (h : OwnL B v xs w) (h0 : xs.length ≠ 0) : ∃ g cap, v = .slice (some ⟨g, 0, none⟩) xs.length cap ∧ B ≤ g := by
  have ho := h
  unfold OwnL at ho
  rcases ho.2 with ⟨_, h0'⟩ | ⟨g, cap, cur, rfl, hBg, _⟩
  · exact absurd h0' h0
  · exact ⟨g, cap, rfl, hBg⟩
theorem ownL_touch {B R : Nat} {v : Value} {xs : List (List UInt8)} {w w' : World} (h : OwnL B v xs w) (t : Touch R w w') (hR : R < B) : OwnL B v xs w' := by
  refine ⟨h.1, ?_⟩
  rcases h.2 with hn | ⟨g, cap, cur, hv, hg1, hg2, rest⟩
  · exact .inl hn
  · have hglt : g < w.heap.size := by
      rcases Nat.lt_or_ge g w.heap.size with h' | h'
      · exact h'
      · simp [Array.getElem?_eq_none h'] at hg2
    exact .inr ⟨g, cap, cur, hv, hg1, by rw [t.block g hglt (by omega), hg2], rest⟩
/-- What a row of texts has where a text is put. -/
theorem ownL_put {B g cap k : Nat} {xs : List (List UInt8)} {w : World} (h : OwnL B (.slice (some ⟨g, 0, none⟩) xs.length cap) xs w) (hk : k < xs.length) (y : ByteArray) :
    w.cell? ⟨g, k, none⟩ = some (.string (str xs[k])) ∧ w.frozen? ⟨g, k, none⟩ = false ∧
    OwnL B (.slice (some ⟨g, 0, none⟩) xs.length cap) (xs.set k y.data.toList) (w.setCell ⟨g, k, none⟩ (.string y)) := by
  have hw := h
  unfold OwnL at hw
  refine ⟨?_, hw.frozenAt _, ?_⟩
  · have := hw.cells (g := g) rfl k _ (List.getElem?_eq_getElem (by simpa using hk))
    rw [add0] at this; rw [this, List.getElem_map]; rfl
  · have hs := (hw.stored k (.string y)).1
    unfold OwnL
    rw [List.map_set, List.length_set]
    have e : strV y.data.toList = .string y := by unfold strV; rw [str_of]
    rw [e]; exact hs
/-- Lines are drawn; nothing that was there turns. -/
def DrawnLines (w : World) (e : Ending) (w' : World) : Prop := ∃ (v : Value) (xs : List (List UInt8)), e = .returned v ∧ OwnL w.heap.size v xs w' ∧ xs.length ≤ 1000 ∧ (∀ x ∈ xs, x.length ≤ 303) ∧ Below w.heap.size w w'
end Go.Proofs.Ytdaoeoociamdnab
