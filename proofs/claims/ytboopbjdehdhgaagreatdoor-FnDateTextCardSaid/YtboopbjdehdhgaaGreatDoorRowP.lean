/-
  Some texts appended to a row of strings of the call's own. No statement is proved here.
-/
import Derived.Test.YtboopbjdehdhgaaGreatDoorSplit
import Derived.Maps.AppendAt
namespace Go.Proofs.YtboopbjdehdhgaaGreatDoor
open Go.RowKit

theorem own_form {B : Nat} {v : Value} {xs : List (List UInt8)} {w : World} (h : OwnL B v xs w) (hn : 0 < xs.length) : ∃ g c, v = .slice (some ⟨g, 0, none⟩) xs.length c ∧ B ≤ g ∧ g < w.heap.size ∧ xs.length ≤ c ∧ c ≤ maxLen := by
  rcases h.2 with ⟨_, h0⟩ | ⟨g, cap, cur, hv, hg, hw, hnc, hc, _⟩
  · omega
  · exact ⟨g, cap, hv, hg, lt_of_block hw, hnc, hc⟩
theorem own_cell {B g c : Nat} {xs : List (List UInt8)} {w : World} (h : OwnL B (.slice (some ⟨g, 0, none⟩) xs.length c) xs w) (j : Nat) (hj : j < xs.length) : w.cell? ⟨g, j, none⟩ = some (.string (str xs[j])) := by
  have := World.ownsRow.cellAt h j (by omega)
  rw [this, List.getElem?_map, List.getElem?_eq_getElem hj]; rfl
/-- Some texts appended to a row of the call's own. -/
theorem wp_append_P {o : Oper} {Q : Exit → Act → World → Prop} {K : Act → World → Prop} {a : Act} {w : World} (s x : Operand)
    (ho : o.op = .call { callee := .builtin .append, args := #[s, x], argTypes := #[34, 34] })
    (B : Nat) (v : Value) (xs ys : List (List UInt8)) (g off m c : Nat) (hs : a.eval s = v) (hx : a.eval x = .slice (some ⟨g, off, none⟩) m c) (hown : OwnL B v xs w) (hm : ys.length = m)
    (hy : ∀ i, (h : i < ys.length) → w.cell? ⟨g, off + i, none⟩ = some (.string (str ys[i]))) (hB : B ≤ w.heap.size) (hl : xs.length + m ≤ 100000000)
    (h : ∀ v' w', OwnL B v' (xs ++ ys) w' → Below B w w' → K (a.put o.dst v') w') : o.wp Tryz.prog a w K Q := by
  obtain ⟨i0, hi, hz0, hz1, hz2⟩ := info_parts sInfo
  subst hm
  unfold OwnL at hown
  obtain ⟨v', w', hr, h2, h3, _, h5⟩ := run_append_own_at (P := Tryz.prog) w B 34 o.type 9 i0 (.string ⟨#[]⟩) 1 16 Tryz.underlying34 hi hz0 hz1 hz2 rfl (by decide) v xs.length (xs.map strV) hown ⟨g, off, none⟩ ys.length c (ys.map strV) (by simp)
    (fun j u hu => by
      have hj : j < ys.length := by rcases Nat.lt_or_ge j ys.length with h | h; exact h; rw [List.getElem?_eq_none (by simpa using h)] at hu; cases hu
      rw [List.getElem?_map, List.getElem?_eq_getElem hj] at hu
      have : (⟨g, off, none⟩ : Addr).add j = ⟨g, off + j, none⟩ := by unfold Addr.add; split <;> simp_all
      rw [this, hy j hj]; simpa [strV] using hu)
    (fun z hz => by obtain ⟨q, _, rfl⟩ := List.mem_map.1 hz; rfl) (by unfold maxLen; omega) (by omega) hB
  unfold Oper.wp execOp
  simp only [ho, resolve, invoke, builtin, Sem.run_bind, Sem.run_pure, Result.andThen_ok, List.map_toArray, List.map_cons, List.map_nil, hs, hx, hr]
  refine h v' w' ?_ ((Below.refl _ _).grown h3 hB (fun k hk => (World.ownsRow.lt hown k hk).1))
  unfold OwnL; rw [List.length_append, List.map_append]; exact h2
theorem wpList_append_P {ops : Array Oper} {rest : List Oper} {o : Oper} {Q : Exit → Act → World → Prop} {a : Act} {w : World} (hgd : o.guard = none) (s x : Operand)
    (ho : o.op = .call { callee := .builtin .append, args := #[s, x], argTypes := #[34, 34] })
    (B : Nat) (v : Value) (xs ys : List (List UInt8)) (g off m c : Nat) (hs : a.eval s = v) (hx : a.eval x = .slice (some ⟨g, off, none⟩) m c) (hown : OwnL B v xs w) (hm : ys.length = m)
    (hy : ∀ i, (h : i < ys.length) → w.cell? ⟨g, off + i, none⟩ = some (.string (str ys[i]))) (hB : B ≤ w.heap.size) (hl : xs.length + m ≤ 100000000)
    (h : ∀ v' w', OwnL B v' (xs ++ ys) w' → Below B w w' → wpList Tryz.prog ops Q rest (a.put o.dst v') w') : wpList Tryz.prog ops Q (o :: rest) a w := by
  unfold wpList
  rw [if_pos (by simp [Region.wanted, hgd])]
  exact .inl (wp_append_P s x ho B v xs ys g off m c hs hx hown hm hy hB hl h)
end Go.Proofs.YtboopbjdehdhgaaGreatDoor
