/-
  Rows of strings, one behind the other. No statement is proved here.
-/
import Derived.Test.YtbfjbabpeigloabDoorSplit
import Derived.Laws.AppendOwn
import Derived.Laws.OwnMore
import Derived.Laws.AppendOwnNone
namespace Go.Proofs.YtbfjbabpeigloabDoor
open Go.RowKit

theorem wpList_unguardL {P : Program} {ops : Array Oper} {rest : List Oper} {o : Oper} {Q : Exit → Act → World → Prop} {a : Act} {w : World} (hw : Region.wanted o (yielded ops a.tmps) = true)
    (h : wpList P ops Q ({ o with guard := none } :: rest) a w) : wpList P ops Q (o :: rest) a w := by
  unfold wpList at h ⊢
  rw [if_pos (by simp [Region.wanted])] at h
  rw [if_pos hw]
  exact h
theorem wpList_append_LL {ops : Array Oper} {rest : List Oper} {o : Oper} {Q : Exit → Act → World → Prop} {a : Act} {w : World} (hw : Region.wanted o (yielded ops a.tmps) = true) (s x : Operand)
    (ho : o.op = .call { callee := .builtin .append, args := #[s, x], argTypes := #[26, 26] })
    (B B2 : Nat) (v u : Value) (xs ys : List (List UInt8)) (hs : a.eval s = v) (hx : a.eval x = u) (hown : OwnL B v xs w) (hy : OwnL B2 u ys w) (hB : B ≤ w.heap.size) (hl : xs.length + ys.length ≤ 1000000)
    (h : ∀ v' w', OwnL B v' (xs ++ ys) w' → Below B w w' → wpList Tryd.prog ops Q rest (a.put o.dst v') w') : wpList Tryd.prog ops Q (o :: rest) a w := by
  obtain ⟨i0, hi, hz0, hz1, hz2⟩ := info_parts sInfo
  refine wpList_unguardL hw ?_
  have hys := hy
  unfold OwnL at hys hown
  rcases hys.2 with ⟨hv, h0⟩ | ⟨g, cap, cur, hv, _⟩
  · subst hv
    have hn : ys = [] := List.length_eq_zero_iff.1 h0
    refine wpList_append_own_none rfl s x 26 ho B 9 i0 1 Tryd.underlying26 hi v xs.length (xs.map strV) hs hown hx ?_
    refine h v w ?_ (Below.refl _ _)
    subst hn
    rw [List.append_nil]; exact hown
  · subst hv
    refine wpList_append_own w rfl s x 26 ho B 9 i0 (.string ⟨#[]⟩) 1 16 Tryd.underlying26 hi hz0 hz1 hz2 rfl (by decide) v xs.length (xs.map strV) hs hown ⟨g, 0, none⟩ ys.length cap (ys.map strV) hx (by simp) ?_ ?_ ?_ ?_ hB ?_
    · intro j z hj
      have := hys.cells (g := g) rfl j z hj
      exact this
    · intro z hz
      obtain ⟨q, _, rfl⟩ := List.mem_map.1 hz
      rfl
    · unfold maxLen; omega
    · omega
    · intro v' w' ho' hgr _
      refine h v' w' ?_ ?_
      · unfold OwnL; rw [List.length_append, List.map_append]; exact ho'
      · exact (Below.refl _ _).grown hgr hB (fun k hk => (World.ownsRow.lt hown k hk).1)
end Go.Proofs.YtbfjbabpeigloabDoor
