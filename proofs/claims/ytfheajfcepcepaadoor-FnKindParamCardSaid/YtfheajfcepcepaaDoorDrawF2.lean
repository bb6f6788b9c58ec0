/-
  Lists of fields, drawn: what the program's drawing functions return, for every code. No statement is proved here.
-/
import Derived.Test.YtfheajfcepcepaaDoorDrawF
import Derived.Laws.AppendOwn
import Derived.Laws.OwnMore
import Derived.Laws.AppendOwnNone
namespace Go.Proofs.YtfheajfcepcepaaDoor
open Go.RowKit

theorem set2_flat {xs : List Fld} {k : Nat} (y : Fld) (hk : k < xs.length) :
    ((xs.flatMap fldC).set (k * 2) (.string (str y.name))).set (k * 2 + 1) (.string (str y.val)) = (xs.set k y).flatMap fldC := by
  have hl : (xs.flatMap fldC).length = xs.length * 2 := flat_len fldC 2 fldC_len xs
  apply List.ext_getElem?
  intro i
  by_cases hi : i < xs.length * 2
  · have h1 : i / 2 < (xs.set k y).length := by rw [List.length_set]; omega
    have h2 : i % 2 < 2 := Nat.mod_lt _ (by omega)
    have e : i / 2 * 2 + i % 2 = i := Nat.div_add_mod' i 2
    have g2 := flat_at fldC 2 fldC_len (xs.set k y) (i / 2) (i % 2) h2 h1
    rw [e] at g2
    rw [g2]
    by_cases hc : i / 2 = k
    · have hy : (xs.set k y)[i / 2] = y := by subst hc; exact List.getElem_set_self _
      rw [hy]
      rcases (by omega : i % 2 = 0 ∨ i % 2 = 1) with h | h
      · have : i = k * 2 := by omega
        subst this
        rw [List.getElem?_set_ne (by omega), List.getElem?_set_self (by rw [hl]; omega), h]; rfl
      · have : i = k * 2 + 1 := by omega
        subst this
        rw [List.getElem?_set_self (by simp only [List.length_set]; rw [hl]; omega), h]; rfl
    · have h1' : i / 2 < xs.length := by omega
      have hy : (xs.set k y)[i / 2] = xs[i / 2] := List.getElem_set_ne (fun h => hc h.symm) _
      rw [hy, List.getElem?_set_ne (by omega), List.getElem?_set_ne (by omega)]
      have g1 := flat_at fldC 2 fldC_len xs (i / 2) (i % 2) h2 h1'
      rw [e] at g1
      exact g1
  · rw [List.getElem?_eq_none (by simp only [List.length_set]; rw [hl]; omega), List.getElem?_eq_none (by rw [flat_len fldC 2 fldC_len, List.length_set]; omega)]
end Go.Proofs.YtfheajfcepcepaaDoor
