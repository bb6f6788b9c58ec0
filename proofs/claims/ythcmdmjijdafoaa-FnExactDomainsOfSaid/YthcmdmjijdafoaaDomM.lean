/-
  Texts in order: what sorting and leaving out what is repeated make of a list. No statement is proved here.
-/
import Derived.Test.YthcmdmjijdafoaaSetM
import Derived.Lib.SlicesCompact
namespace Go.Proofs.Ythcmdmjijdafoaa

theorem ltT_lt : ∀ a b : List UInt8, ltT a b = true ↔ a < b
  | _, [] => by simp [ltT]
  | [], _ :: _ => by simp [ltT]
  | a :: al, b :: bs => by
    have ih := ltT_lt al bs
    rw [ltT, List.cons_lt_cons_iff]
    by_cases h1 : a < b
    · simp [h1]
    · by_cases h2 : b < a
      · have : a ≠ b := fun e => u8_irrefl a (by rw [e] at h2 ⊢; exact h2)
        simp [h1, h2, this]
      · have : a = b := u8_le_antisymm h1 h2
        rw [if_neg h1, if_neg h2, ih]; simp [this]
theorem ltT_decide (a b : List UInt8) : ltT a b = decide (a < b) := by
  rw [Bool.eq_iff_iff, decide_eq_true_iff]; exact ltT_lt a b
theorem le_ltT (a b : List UInt8) : decide (a ≤ b) = !ltT b a := by
  rw [ltT_decide]
  by_cases h : b < a
  · have : ¬ a ≤ b := fun c => c h
    simp [h, this]
  · have : a ≤ b := h
    simp [h, this]
/-- The sorted list. -/
def sortT (zs : List (List UInt8)) : List (List UInt8) := zs.mergeSort fun x y => decide (x ≤ y)
theorem sortT_mem {zs : List (List UInt8)} {x : List UInt8} : x ∈ sortT zs ↔ x ∈ zs := List.mem_mergeSort
theorem sortT_len (zs : List (List UInt8)) : (sortT zs).length = zs.length := List.length_mergeSort ..
theorem sortT_sorted (zs : List (List UInt8)) : (sortT zs).Pairwise fun a b => ltT b a = false := by
  have h := List.pairwise_mergeSort (le := fun x y : List UInt8 => decide (x ≤ y)) (fun a b c h k => by
      rw [le_ltT] at h k ⊢
      simp only [Bool.not_eq_true'] at h k ⊢
      cases hc : ltT c a
      · rfl
      · cases hbc : ltT b c
        · rw [ltT_total b c hbc k] at h
          rw [h] at hc; cases hc
        · rw [ltT_trans b c a hbc hc] at h; cases h) (fun a b => by
      rw [le_ltT, le_ltT]
      cases hb : ltT b a
      · rfl
      · rw [ltT_asymm b a hb]; rfl) zs
  refine h.imp fun {a b} hab => ?_
  rw [le_ltT] at hab
  simpa using hab
theorem get_bang {zs : List (List UInt8)} {j : Nat} (h : j < zs.length) : (zs.toArray)[j]! = zs[j] := by simp [h]
theorem compact_facts {zs : List (List UInt8)} (hs : zs.Pairwise fun a b => ltT b a = false) : ∀ m, m ≤ zs.length →
    Asc (Lib.compactUpTo zs.toArray m) ∧ ∀ x, x ∈ Lib.compactUpTo zs.toArray m ↔ ∃ j, ∃ h : j < zs.length, j < m ∧ zs[j] = x
  | 0, _ => by
    refine ⟨by unfold Lib.compactUpTo; exact List.Pairwise.nil, fun x => ?_⟩
    unfold Lib.compactUpTo; simp
  | m + 1, hm => by
    obtain ⟨h1, h2⟩ := compact_facts hs m (by omega)
    have hml : m < zs.length := by omega
    have hord : ∀ i j, (hi : i < zs.length) → (hj : j < zs.length) → i < j → ltT zs[j] zs[i] = false := fun i j hi hj h => List.pairwise_iff_getElem.1 hs i j hi hj h
    rw [Lib.compactUpTo_succ]
    by_cases hk : Lib.keeps zs.toArray m = true
    · rw [if_pos hk, get_bang hml]
      constructor
      · unfold Asc
        rw [List.pairwise_append]
        refine ⟨h1, by simp, fun y hy z hz => ?_⟩
        obtain rfl : z = zs[m] := by simpa using hz
        obtain ⟨j, hj, hjm, rfl⟩ := (h2 y).1 hy
        cases hlt : ltT zs[j] zs[m]
        · exfalso
          have he := ltT_total _ _ hlt (hord j m hj hml hjm)
          unfold Lib.keeps at hk
          have hk := of_decide_eq_true hk
          rcases hk with hk | hk
          · omega
          · apply hk
            rw [get_bang hml, get_bang (by omega : m - 1 < zs.length)]
            have a1 : ltT zs[m] zs[m - 1] = false := hord (m - 1) m (by omega) hml (by omega)
            refine ltT_total _ _ a1 ?_
            by_cases hjm1 : j = m - 1
            · subst hjm1; rw [he]; exact ltT_irrefl _
            · rw [← he]; exact hord j (m - 1) hj (by omega) (by omega)
        · rfl
      · intro x
        rw [List.mem_append, h2]
        constructor
        · rintro (⟨j, hj, hjm, rfl⟩ | hx)
          · exact ⟨j, hj, by omega, rfl⟩
          · have hx' : x = zs[m] := by simpa using hx
            exact ⟨m, hml, by omega, hx'.symm⟩
        · rintro ⟨j, hj, hjm, rfl⟩
          by_cases hjm2 : j < m
          · exact .inl ⟨j, hj, hjm2, rfl⟩
          · obtain rfl : j = m := by omega
            exact .inr (by simp)
    · rw [if_neg hk, List.append_nil]
      refine ⟨h1, fun x => ?_⟩
      rw [h2]
      constructor
      · rintro ⟨j, hj, hjm, rfl⟩; exact ⟨j, hj, by omega, rfl⟩
      · rintro ⟨j, hj, hjm, rfl⟩
        by_cases hjm2 : j < m
        · exact ⟨j, hj, hjm2, rfl⟩
        · obtain rfl : j = m := by omega
          unfold Lib.keeps at hk
          have hk2 : ¬ (j = 0 ∨ zs.toArray[j]! ≠ zs.toArray[j - 1]!) := fun c => hk (decide_eq_true c)
          have hj0 : j ≠ 0 := fun c => hk2 (.inl c)
          have he : zs.toArray[j]! = zs.toArray[j - 1]! := by
            apply Classical.byContradiction; intro c; exact hk2 (.inr c)
          rw [get_bang hml, get_bang (by omega : j - 1 < zs.length)] at he
          exact ⟨j - 1, by omega, by omega, he.symm⟩
/-- Sorted and each once: the domains of a list. -/
theorem compact_sort (al : List Adr) : Lib.compact (sortT (al.map fun a => low a.dom)) = domsL al := by
  obtain ⟨h1, h2⟩ := compact_facts (sortT_sorted (al.map fun a => low a.dom)) _ (Nat.le_refl _)
  refine asc_ext h1 (doms_asc al) fun x => ?_
  unfold Lib.compact at h2 ⊢
  rw [h2, doms_mem]
  constructor
  · rintro ⟨j, hj, _, rfl⟩
    have := sortT_mem.1 (List.getElem_mem hj)
    obtain ⟨a, ha, e⟩ := List.mem_map.1 this
    exact ⟨a, ha, e.symm⟩
  · rintro ⟨a, ha, rfl⟩
    have : low a.dom ∈ sortT (al.map fun a => low a.dom) := sortT_mem.2 (List.mem_map.2 ⟨a, ha, rfl⟩)
    obtain ⟨j, hj, e⟩ := List.getElem_of_mem this
    exact ⟨j, hj, hj, e⟩
end Go.Proofs.Ythcmdmjijdafoaa
