/-
  Rows of rows of strings: rows that the call has made, slices that read as lists of lists. No statement is proved here.
-/
import Derived.Test.YtccendchnndaiaaDoorRowL
import Derived.Test.YtccendchnndaiaaDoorOnly
import Derived.Maps.AppendAt
namespace Go.Proofs.YtccendchnndaiaaDoor
open Go.RowKit

theorem OwnL.grown {B : Nat} {v : Value} {xs : List (List UInt8)} {w w' : World} {row : Option Nat} (h : OwnL B v xs w) (hg : w.grownBy w' row) (hne : ∀ g, v.ownBlock = some g → row ≠ some g) : OwnL B v xs w' := by
  unfold OwnL at h ⊢
  refine World.ownsRow.kept h hg ?_
  cases hv : v.ownBlock with
  | none => exact .inl rfl
  | some g => exact .inr (fun e => hne g hv e.symm)
theorem OwnL.readc {B : Nat} {v : Value} {xs : List (List UInt8)} {w : World} (h : OwnL B v xs w) : ∃ a c, v = .slice a xs.length c ∧ RdL w a xs.length xs ∧ xs.length ≤ maxLen ∧ (a = none → c = 0) ∧ xs.length ≤ c := by
  obtain ⟨a, c, hv, hr, hl⟩ := h.read
  refine ⟨a, c, hv, hr, hl, ?_⟩
  unfold OwnL at h
  rcases h.2 with ⟨hn, h0⟩ | ⟨g, cap, cur, hv', _, _, hnc, _⟩
  · rw [hn] at hv; injection hv with h1 h2 h3
    exact ⟨fun _ => h3.symm, by omega⟩
  · rw [hv'] at hv; injection hv with h1 h2 h3
    exact ⟨fun e => (by rw [e] at h1; cases h1), by omega⟩
theorem addr_add (b off i : Nat) : (⟨b, off, none⟩ : Addr).add i = ⟨b, off + i, none⟩ := by unfold Addr.add; split <;> simp_all
set_option maxRecDepth 100000 in
set_option maxHeartbeats 400000 in
theorem wpList_append_RL {ops : Array Oper} {rest : List Oper} {o : Oper} {Q : Exit → Act → World → Prop} {a : Act} {w : World} (hw : Region.wanted o (yielded ops a.tmps) = true) (s x : Operand)
    (ho : o.op = .call { callee := .builtin .append, args := #[s, x], argTypes := #[23, 23] })
    (B : Nat) (v : Value) (xs ys : List (List UInt8)) (ad : Option Addr) (n c : Nat) (hs : a.eval s = v) (hx : a.eval x = .slice ad n c) (hown : OwnL B v xs w) (hy : RdL w ad n ys) (hac : ad = none → c = 0) (hB : B ≤ w.heap.size) (hl : xs.length + ys.length ≤ 10000000)
    (h : ∀ v' w', OwnL B v' (xs ++ ys) w' → w.grownBy w' v.ownBlock → (v'.ownBlock = v.ownBlock ∨ v'.ownBlock = some w.heap.size) → wpList Tryd.prog ops Q rest (a.put o.dst v') w') : wpList Tryd.prog ops Q (o :: rest) a w := by
  obtain ⟨i0, hi, hz0, hz1, hz2⟩ := info_parts sInfo
  refine wpList_unguardL hw ?_
  have hn := hy.1
  unfold OwnL at hown
  cases ad with
  | none =>
    have h0 : n = 0 := by
      rcases hy.2 with e | ⟨b, off, e, _⟩
      · exact e
      · cases e
    obtain rfl := hac rfl
    subst h0
    have hn0 : ys = [] := List.length_eq_zero_iff.1 hn
    refine wpList_append_own_none rfl s x 23 ho B 9 i0 1 Tryd.underlying23 hi v xs.length (xs.map strV) hs hown hx ?_
    refine h v w ?_ ⟨rfl, rfl, rfl, Nat.le_refl _, fun _ _ _ => rfl⟩ (.inl rfl)
    subst hn0
    rw [List.append_nil]; exact hown
  | some q =>
    refine wpList_append_own_at w rfl s x 23 ho B 9 i0 (.string ⟨#[]⟩) 1 16 Tryd.underlying23 hi hz0 hz1 hz2 rfl (by decide) v xs.length (xs.map strV) hs hown q n c (ys.map strV) hx (by simp [hn]) ?_ ?_ ?_ ?_ hB ?_
    · intro j z hj
      have hjl : j < ys.length := by
        have := (List.getElem?_eq_some_iff.1 hj).1
        simpa using this
      rcases hy.2 with e | ⟨b, off, e, _, hc⟩
      · omega
      · injection e with e
        subst e
        rw [addr_add, hc j hjl]
        rw [List.getElem?_map, List.getElem?_eq_getElem hjl] at hj
        exact hj
    · intro z hz
      obtain ⟨q, _, rfl⟩ := List.mem_map.1 hz
      rfl
    · unfold maxLen; omega
    · omega
    · intro v' w' ho' hgr _ hat
      refine h v' w' ?_ hgr hat
      unfold OwnL; rw [List.length_append, List.map_append, hn]; exact ho'
set_option maxRecDepth 100000 in
set_option maxHeartbeats 400000 in
/-- One string behind a row of the call's own. -/
theorem wpList_append_1L {ops : Array Oper} {rest : List Oper} {o : Oper} {Q : Exit → Act → World → Prop} {a : Act} {w : World} (hw : Region.wanted o (yielded ops a.tmps) = true) (s x : Operand)
    (ho : o.op = .call { callee := .builtin .append, args := #[s, x], argTypes := #[23, 23] })
    (B : Nat) (v : Value) (xs : List (List UInt8)) (y : ByteArray) (b : Nat) (hs : a.eval s = v) (hx : a.eval x = .slice (some ⟨b, 0, none⟩) 1 1) (hc : w.cell? ⟨b, 0, none⟩ = some (.string y)) (hown : OwnL B v xs w) (hB : B ≤ w.heap.size) (hl : xs.length ≤ 9000000)
    (h : ∀ v' w', OwnL B v' (xs ++ [y.data.toList]) w' → w.grownBy w' v.ownBlock → (v'.ownBlock = v.ownBlock ∨ v'.ownBlock = some w.heap.size) → wpList Tryd.prog ops Q rest (a.put o.dst v') w') : wpList Tryd.prog ops Q (o :: rest) a w :=
  wpList_append_RL hw s x ho B v xs [y.data.toList] (some ⟨b, 0, none⟩) 1 1 hs hx hown ⟨rfl, .inr ⟨b, 0, rfl, lt_of_cell hc, fun i hi => by
    obtain rfl : i = 0 := by simpa using hi
    rw [Nat.add_zero, hc]; simp [str_of]⟩⟩ (fun e => by cases e) hB (by rw [List.length_singleton]; omega) h
theorem below_grown {B : Nat} {w w1 w' : World} {row : Option Nat} (hb : Below B w w1) (hg : w1.grownBy w' row) (hB : B ≤ w1.heap.size) (hr : ∀ g, row = some g → B ≤ g) : Below B w w' := hb.grown hg hB hr
end Go.Proofs.YtccendchnndaiaaDoor
