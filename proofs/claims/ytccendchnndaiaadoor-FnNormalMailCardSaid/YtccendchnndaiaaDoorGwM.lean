/-
  A gateway: the plain functions on lists that the program's functions of chapter 11 compute. No statement is proved here.
-/
import Derived.Test.YtccendchnndaiaaDoorMalM
namespace Go.Proofs.YtccendchnndaiaaDoor
open Go.RowKit

/-! Hops. -/
def recvL : List UInt8 := [82, 101, 99, 101, 105, 118, 101, 100, 58]
/-- A line begins with a mark, in whatever letters. -/
def isMk (mk l : List UInt8) : Bool := decide (mk.length ≤ l.length) && decide (low (l.take mk.length) = low mk)
def cutM (mk l : List UInt8) : List UInt8 × Bool := if isMk mk l then (l.drop mk.length, true) else ([], false)
def hopsL : List (List UInt8) → Nat
  | [] => 0
  | l :: ls => if l = [] then 0 else (if isMk recvL l then 1 else 0) + hopsL ls
def hopsM (m : Ml) : Nat := if isMail m then hopsL m.lines else 0
theorem hops_nil {ls : List (List UInt8)} {k : Nat} (h : k < ls.length) (h0 : ls[k] = []) : hopsL (ls.drop k) = 0 := by
  rw [List.drop_eq_getElem_cons h, hopsL, if_pos h0]
theorem hops_yes {ls : List (List UInt8)} {k : Nat} (h : k < ls.length) (h0 : ls[k] ≠ []) (h1 : isMk recvL ls[k] = true) : hopsL (ls.drop k) = 1 + hopsL (ls.drop (k + 1)) := by
  rw [List.drop_eq_getElem_cons h, hopsL, if_neg h0, if_pos h1]
theorem hops_no {ls : List (List UInt8)} {k : Nat} (h : k < ls.length) (h0 : ls[k] ≠ []) (h1 : isMk recvL ls[k] = false) : hopsL (ls.drop k) = hopsL (ls.drop (k + 1)) := by
  rw [List.drop_eq_getElem_cons h, hopsL, if_neg h0, h1]; simp
theorem hops_end {ls : List (List UInt8)} {k : Nat} (h : ls.length ≤ k) : hopsL (ls.drop k) = 0 := by
  rw [List.drop_eq_nil_of_le h]; rfl
theorem hops_le : ∀ ls : List (List UInt8), hopsL ls ≤ ls.length
  | [] => Nat.le_refl _
  | l :: ls => by
    rw [hopsL, List.length_cons]
    have := hops_le ls
    split
    · omega
    · split <;> omega
theorem hopsM_le (m : Ml) : hopsM m ≤ m.lines.length := by
  unfold hopsM; split
  · exact hops_le _
  · omega
/-! Each one once. -/
def nrm (acc : List (List UInt8)) : List (List UInt8) → List (List UInt8)
  | [] => acc
  | x :: xs => nrm (if acc.contains x then acc else acc ++ [x]) xs
def normM (m : Ml) : Ml := ⟨m.frm, nrm [] m.to, m.lines⟩
def normO (m : Ml) : Ml := if isMail m then normM m else ml0
theorem nrm_in {acc : List (List UInt8)} {xs : List (List UInt8)} {k : Nat} (h : k < xs.length) (h1 : acc.contains xs[k] = true) : nrm acc (xs.drop k) = nrm acc (xs.drop (k + 1)) := by
  rw [List.drop_eq_getElem_cons h, nrm, if_pos h1]
theorem nrm_new {acc : List (List UInt8)} {xs : List (List UInt8)} {k : Nat} (h : k < xs.length) (h1 : acc.contains xs[k] = false) : nrm acc (xs.drop k) = nrm (acc ++ [xs[k]]) (xs.drop (k + 1)) := by
  rw [List.drop_eq_getElem_cons h, nrm, h1]; simp
theorem nrm_end {acc : List (List UInt8)} {xs : List (List UInt8)} {k : Nat} (h : xs.length ≤ k) : nrm acc (xs.drop k) = acc := by
  rw [List.drop_eq_nil_of_le h]; rfl
theorem nrm_len : ∀ (xs acc : List (List UInt8)), (nrm acc xs).length ≤ acc.length + xs.length
  | [], acc => Nat.le_refl _
  | x :: xs, acc => by
    rw [nrm]
    have := nrm_len xs (if acc.contains x then acc else acc ++ [x])
    rw [List.length_cons]
    split at this <;> rename_i h <;> simp only [h, if_true] at * <;> simp at this ⊢ <;> omega
theorem nrm_mem : ∀ (xs acc : List (List UInt8)) (y : List UInt8), y ∈ nrm acc xs ↔ y ∈ acc ∨ y ∈ xs
  | [], acc, y => by rw [nrm]; simp
  | x :: xs, acc, y => by
    rw [nrm, nrm_mem xs, List.mem_cons]
    by_cases h : acc.contains x = true
    · rw [if_pos h]
      have hx : x ∈ acc := by simpa using h
      constructor
      · rintro (h1 | h1)
        · exact .inl h1
        · exact .inr (.inr h1)
      · rintro (h1 | rfl | h1)
        · exact .inl h1
        · exact .inl hx
        · exact .inr h1
    · rw [if_neg h, List.mem_append, List.mem_singleton]
      constructor
      · rintro ((h1 | h1) | h1)
        · exact .inl h1
        · exact .inr (.inl h1)
        · exact .inr (.inr h1)
      · rintro (h1 | h1 | h1)
        · exact .inl (.inl h1)
        · exact .inl (.inr h1)
        · exact .inr h1
theorem nrm_nodup : ∀ (xs acc : List (List UInt8)), acc.Nodup → (nrm acc xs).Nodup
  | [], acc, h => h
  | x :: xs, acc, h => by
    rw [nrm]
    refine nrm_nodup xs _ ?_
    split
    · exact h
    · rename_i hx
      have hx' : x ∉ acc := by simpa using hx
      rw [List.nodup_append]
      exact ⟨h, by simp, fun a ha b hb => by rw [List.mem_singleton.1 hb]; rintro rfl; exact hx' ha⟩
theorem nrm_id : ∀ (xs acc : List (List UInt8)), (acc ++ xs).Nodup → nrm acc xs = acc ++ xs
  | [], acc, _ => by rw [nrm, List.append_nil]
  | x :: xs, acc, h => by
    have hx : acc.contains x = false := by
      rw [List.nodup_append] at h
      simp only [List.contains_eq_mem, decide_eq_false_iff_not]
      intro hm
      exact h.2.2 x hm x (by simp) rfl
    rw [nrm, hx]
    show nrm (acc ++ [x]) xs = _
    rw [nrm_id xs (acc ++ [x]) (by rw [List.append_assoc]; exact h), List.append_assoc]; rfl
theorem norm_mail {m : Ml} (h : isMail m = true) : isMail (normM m) = true := by
  obtain ⟨h1, h0, h3⟩ := isMail_iff.1 h
  obtain ⟨h2, h4, h5, h6, h7⟩ := isDraft_iff.1 h1
  refine isMail_iff.2 ⟨isDraft_iff.2 ⟨h2, ?_, fun x hx => h5 x ?_, h6, h7⟩, ?_, h3⟩
  · have := nrm_len m.to []
    show (nrm [] m.to).length ≤ 10
    simp at this; omega
  · have := (nrm_mem m.to [] x).1 hx; simpa using this
  · show 0 < (nrm [] m.to).length
    rw [List.length_pos_iff_exists_mem] at h0 ⊢
    obtain ⟨x, hx⟩ := h0
    exact ⟨x, (nrm_mem m.to [] x).2 (.inr hx)⟩
theorem norm_twice (m : Ml) : normM (normM m) = normM m := by
  have h := nrm_nodup m.to [] List.nodup_nil
  have h2 := nrm_id (nrm [] m.to) [] (by rw [List.nil_append]; exact h)
  show Ml.mk m.frm (nrm [] (nrm [] m.to)) m.lines = Ml.mk m.frm (nrm [] m.to) m.lines
  rw [h2, List.nil_append]
theorem count_nodup (y : List UInt8) : ∀ xs : List (List UInt8), xs.Nodup → y ∈ xs → xs.count y = 1
  | [], _, h => by cases h
  | x :: xs, h, hy => by
    rw [List.nodup_cons] at h
    by_cases e : x = y
    · subst e
      rw [List.count_cons_self, List.count_eq_zero_of_not_mem h.1]
    · rw [List.count_cons_of_ne e, count_nodup y xs h.2 (by
        rcases List.mem_cons.1 hy with h' | h'
        · exact absurd h'.symm e
        · exact h')]
theorem cnt_norm {m : Ml} {y : List UInt8} (h : y ∈ m.to) : (nrm [] m.to).count y = 1 :=
  count_nodup y _ (nrm_nodup m.to [] List.nodup_nil) ((nrm_mem m.to [] y).2 (.inr h))
end Go.Proofs.YtccendchnndaiaaDoor
