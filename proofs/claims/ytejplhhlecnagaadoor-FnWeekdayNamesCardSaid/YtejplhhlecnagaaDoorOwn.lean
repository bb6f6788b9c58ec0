/-
  Rows of strings that a call has made: the part of them that chapter 4's laws use. No statement is proved here.
-/
import Derived.Test.YtejplhhlecnagaaDoorBase
import Derived.Test.YtejplhhlecnagaaDoorChecked
import Derived.Laws.AppendOwn
import Derived.Laws.OwnMore
namespace Go.Proofs.YtejplhhlecnagaaDoor
open Go.RowKit

def strV (l : List UInt8) : Value := .string (str l)
theorem sInfo : (Tryd.prog.info? 9).map (fun i => (i.zero, i.size, i.bytes)) = some (some (.string ⟨#[]⟩), 1, 16) := by kernel_rfl
/-- A row of strings that the call has made: v, of the texts xs, from block B on. -/
def OwnL (B : Nat) (v : Value) (xs : List (List UInt8)) (w : World) : Prop := w.ownsRow B 9 1 v xs.length (xs.map strV)
theorem OwnL.nil (B : Nat) (w : World) : OwnL B (.slice none 0 0) [] w := ⟨rfl, .inl ⟨rfl, rfl⟩⟩
theorem OwnL.empty (w : World) : OwnL w.heap.size (.slice (some ⟨w.heap.size, 0, none⟩) 0 0) [] (w.alloc (.cells #[] 9)) :=
  ⟨rfl, .inr ⟨w.heap.size, 0, #[], rfl, Nat.le_refl _, by show (w.heap.push _)[w.heap.size]? = _; simp, Nat.le_refl _, by unfold maxLen; omega, rfl, rfl⟩⟩
theorem OwnL.keep {B : Nat} {v : Value} {xs : List (List UInt8)} {w w' : World} (h : OwnL B v xs w) (k : Below w.heap.size w w') : OwnL B v xs w' := by
  refine ⟨h.1, ?_⟩
  rcases h.2 with hn | ⟨g, cap, cur, hv, hg1, hg2, rest⟩
  · exact .inl hn
  · refine .inr ⟨g, cap, cur, hv, hg1, ?_, rest⟩
    have hglt : g < w.heap.size := by
      rcases Nat.lt_or_ge g w.heap.size with h' | h'
      · exact h'
      · simp [Array.getElem?_eq_none h'] at hg2
    rw [k.block g hglt, hg2]
theorem OwnL.base {B B' : Nat} {v : Value} {xs : List (List UInt8)} {w : World} (h : OwnL B v xs w) (hB : B' ≤ B) : OwnL B' v xs w := by
  refine ⟨h.1, ?_⟩
  rcases h.2 with hn | ⟨g, cap, cur, hv, hg1, rest⟩
  · exact .inl hn
  · exact .inr ⟨g, cap, cur, hv, Nat.le_trans hB hg1, rest⟩
/-- A slice of strings that reads as the texts xs. -/
def RdL (w : World) (a : Option Addr) (n : Nat) (xs : List (List UInt8)) : Prop := xs.length = n ∧ (n = 0 ∨ ∃ b off, a = some ⟨b, off, none⟩ ∧ b < w.heap.size ∧ ∀ i, (h : i < xs.length) → w.cell? ⟨b, off + i, none⟩ = some (.string (str xs[i])))
theorem RdL.below {w w' : World} {a : Option Addr} {n : Nat} {xs : List (List UInt8)} (h : RdL w a n xs) (k : Below w.heap.size w w') : RdL w' a n xs := by
  refine ⟨h.1, ?_⟩
  rcases h.2 with e | ⟨b, off, ha, hb, hx⟩
  · exact .inl e
  · exact .inr ⟨b, off, ha, Nat.lt_of_lt_of_le hb k.size, fun i hi => by rw [below_at k hb, hx i hi]⟩
theorem OwnL.read {B : Nat} {v : Value} {xs : List (List UInt8)} {w : World} (h : OwnL B v xs w) : ∃ a c, v = .slice a xs.length c ∧ RdL w a xs.length xs ∧ xs.length ≤ maxLen := by
  rcases h.2 with ⟨hv, h0⟩ | ⟨g, cap, cur, hv, hg1, hg2, hn, hc, hsz, htk⟩
  · exact ⟨none, 0, by rw [hv, h0], ⟨rfl, .inl h0⟩, by omega⟩
  · refine ⟨some ⟨g, 0, none⟩, cap, hv, ⟨rfl, .inr ⟨g, 0, rfl, ?_, fun i hi => ?_⟩⟩, by omega⟩
    · rcases Nat.lt_or_ge g w.heap.size with h' | h'
      · exact h'
      · simp [Array.getElem?_eq_none h'] at hg2
    · have := h.cells (g := g) (by rw [hv]; rfl) i (strV xs[i]) (by simp [List.getElem?_map, List.getElem?_eq_getElem hi])
      rw [add0] at this
      rw [Nat.zero_add]; exact this
theorem own_snoc {B : Nat} {v : Value} {xs : List (List UInt8)} {w : World} {x : ByteArray} (h : w.ownsRow B 9 1 v (xs.length + 1) (xs.map strV ++ [.string x])) : OwnL B v (xs ++ [x.data.toList]) w := by
  have e : strV x.data.toList = .string x := by unfold strV; rw [str_of]
  unfold OwnL
  rw [List.length_append, List.map_append, List.map_cons, e]; exact h
theorem info_parts7 {P : Program} {T : TypeId} {z : Value} {n b : Nat} (h : (P.info? T).map (fun i => (i.zero, i.size, i.bytes)) = some (some z, n, b)) : ∃ i, P.info? T = some i ∧ i.zero = some z ∧ i.size = n ∧ i.bytes = b := by
  cases hi : P.info? T with
  | none => rw [hi] at h; cases h
  | some i =>
    rw [hi] at h
    simp only [Option.map_some, Option.some.injEq, Prod.mk.injEq] at h
    exact ⟨i, rfl, h.1, h.2.1, h.2.2⟩
end Go.Proofs.YtejplhhlecnagaaDoor
