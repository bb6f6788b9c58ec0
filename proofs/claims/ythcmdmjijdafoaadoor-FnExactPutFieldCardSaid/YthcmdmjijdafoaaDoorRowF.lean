/-
  Rows of fields: one behind the other, a field put into a row. No statement is proved here.
-/
import Derived.Test.YthcmdmjijdafoaaDoorDrawF2
namespace Go.Proofs.YthcmdmjijdafoaaDoor
open Go.RowKit

theorem OwnR.keepB {α : Type} {T : TypeId} {k : Nat} {f : α → List Value} {B C : Nat} {v : Value} {xs : List α} {w w' : World} (h : OwnR T k f B v xs w) (b : Below C w w') (hl : ∀ g, v.ownBlock = some g → g < C) : OwnR T k f B v xs w' := by
  refine ⟨h.1, ?_⟩
  rcases h.2 with hn | ⟨g, cap, cur, hv, hg1, hg2, rest⟩
  · exact .inl hn
  · exact .inr ⟨g, cap, cur, hv, hg1, by rw [b.block g (hl g (by rw [hv]; rfl)), hg2], rest⟩
theorem wpList_append_F {ops : Array Oper} {rest : List Oper} {o : Oper} {Q : Exit → Act → World → Prop} {a : Act} {w : World} (hg : o.guard = none) (s x : Operand)
    (ho : o.op = .call { callee := .builtin .append, args := #[s, x], argTypes := #[23, 23] })
    (B B2 : Nat) (v u : Value) (xs ys : List Fld) (hs : a.eval s = v) (hx : a.eval x = u) (hown : OwnF B v xs w) (hy : OwnF B2 u ys w) (hB : B ≤ w.heap.size) (hl : xs.length + ys.length ≤ 1000000)
    (h : ∀ v' w', OwnF B v' (xs ++ ys) w' → Below B w w' → wpList Tryd.prog ops Q rest (a.put o.dst v') w') : wpList Tryd.prog ops Q (o :: rest) a w := by
  obtain ⟨i0, hi, hz0, hz1, hz2⟩ := info_parts fInfo
  have hys := hy
  unfold OwnF OwnR at hys hown
  rcases hys.2 with ⟨hv, h0⟩ | ⟨g, cap, cur, hv, _⟩
  · subst hv
    have hn : ys = [] := List.length_eq_zero_iff.1 h0
    refine wpList_append_own_none hg s x 23 ho B 25 i0 2 Tryd.underlying23 hi v xs.length (xs.flatMap fldC) hs hown hx ?_
    refine h v w ?_ (Below.refl _ _)
    subst hn
    rw [List.append_nil]; exact hown
  · subst hv
    refine wpList_append_own w hg s x 23 ho B 25 i0 (.agg #[.string ⟨#[]⟩, .string ⟨#[]⟩]) 2 32 Tryd.underlying23 hi hz0 hz1 hz2 rfl (by decide) v xs.length (xs.flatMap fldC) hs hown ⟨g, 0, none⟩ ys.length cap (ys.flatMap fldC) hx (flat_len fldC 2 fldC_len ys) ?_ ?_ ?_ ?_ hB ?_
    · intro j z hj
      exact hys.cells (g := g) rfl j z hj
    · intro z hz
      obtain ⟨q, _, hq⟩ := List.mem_flatMap.1 hz
      unfold fldC at hq
      simp at hq
      rcases hq with rfl | rfl <;> rfl
    · unfold maxLen; omega
    · omega
    · intro v' w' ho' hgr _
      refine h v' w' ?_ ?_
      · unfold OwnF OwnR; rw [List.length_append, List.flatMap_append]; exact ho'
      · exact (Below.refl _ _).grown hgr hB (fun k hk => (World.ownsRow.lt hown k hk).1)
theorem own_cases {B : Nat} {v : Value} {xs : List Fld} {w : World} (h : OwnF B v xs w) (h0 : xs.length ≠ 0) : ∃ g cap, v = .slice (some ⟨g, 0, none⟩) xs.length cap ∧ B ≤ g := by
  have ho := h
  unfold OwnF OwnR at ho
  rcases ho.2 with ⟨_, h0'⟩ | ⟨g, cap, cur, rfl, hBg, _⟩
  · exact absurd h0' h0
  · exact ⟨g, cap, rfl, hBg⟩
/-- What a row of fields has where a field is put. -/
theorem own_put {B g cap k : Nat} {xs : List Fld} {w : World} (h : OwnF B (.slice (some ⟨g, 0, none⟩) xs.length cap) xs w) (hk : k < xs.length) (y : Fld) :
    (∃ v, w.cell? ⟨g, k * 2, none⟩ = some v) ∧ (∃ v, w.cell? ⟨g, k * 2 + 1, none⟩ = some v) ∧ w.frozen? ⟨g, k * 2, none⟩ = false ∧ w.frozen? ⟨g, k * 2 + 1, none⟩ = false ∧
    OwnF B (.slice (some ⟨g, 0, none⟩) xs.length cap) (xs.set k y) ((w.setCell ⟨g, k * 2, none⟩ (.string (str y.name))).setCell ⟨g, k * 2 + 1, none⟩ (.string (str y.val))) := by
  have hw := h
  unfold OwnF OwnR at hw
  have hlf : (xs.flatMap fldC).length = xs.length * 2 := flat_len fldC 2 fldC_len xs
  refine ⟨?_, ?_, hw.frozenAt _, hw.frozenAt _, ?_⟩
  · have := hw.cells (g := g) rfl (k * 2) _ (List.getElem?_eq_getElem (by omega))
    rw [add0] at this; exact ⟨_, this⟩
  · have := hw.cells (g := g) rfl (k * 2 + 1) _ (List.getElem?_eq_getElem (by omega))
    rw [add0] at this; exact ⟨_, this⟩
  · have hs := ((hw.stored (k * 2) (.string (str y.name))).1.stored (k * 2 + 1) (.string (str y.val))).1
    unfold OwnF OwnR
    rw [← set2_flat y hk, List.length_set]; exact hs
end Go.Proofs.YthcmdmjijdafoaaDoor
