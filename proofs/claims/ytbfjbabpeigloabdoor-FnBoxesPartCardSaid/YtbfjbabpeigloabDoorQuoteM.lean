/-
  Quoted words: the plain functions on lists of bytes, and that what is written is read back. No statement is proved here.
-/
import Derived.Test.YtbfjbabpeigloabDoorAtoms
namespace Go.Proofs.YtbfjbabpeigloabDoor
open Go.RowKit

theorem isAtom_text {l : List UInt8} (h : isAtom l = true) : isText l = true := by
  unfold isAtom at h; unfold isText
  simp only [Bool.and_eq_true, decide_eq_true_eq, List.all_eq_true] at h ⊢
  exact ⟨by omega, fun x hx => (atom_okB (h.2.2 x hx)).1⟩
def esc (c : UInt8) : List UInt8 := if c = 34 ∨ c = 92 then [92, c] else [c]
def escL (l : List UInt8) : List UInt8 := l.flatMap esc
theorem escL_snoc (l : List UInt8) (c : UInt8) : escL (l ++ [c]) = escL l ++ esc c := by simp [escL]
theorem esc_len (c : UInt8) : 1 ≤ (esc c).length ∧ (esc c).length ≤ 2 := by unfold esc; split <;> simp
theorem escL_len : ∀ l : List UInt8, l.length ≤ (escL l).length ∧ (escL l).length ≤ 2 * l.length
  | [] => by simp [escL]
  | c :: l => by
    have h := escL_len l
    have e : escL (c :: l) = esc c ++ escL l := rfl
    have := esc_len c
    rw [e, List.length_append, List.length_cons]; omega
def quoted (l : List UInt8) : List UInt8 := 34 :: (escL l ++ [34])
def quoteW (l : List UInt8) : List UInt8 := if isText l then (if isAtom l then l else quoted l) else []
theorem quoteW_atom {l : List UInt8} (h : isAtom l = true) : quoteW l = l := by
  unfold quoteW; rw [if_pos (isAtom_text h), if_pos h]
theorem quoteW_quoted {l : List UInt8} (h : isText l = true) (h2 : isAtom l = false) : quoteW l = quoted l := by
  unfold quoteW; rw [if_pos h, if_neg (by simp [h2])]
theorem quoteW_none {l : List UInt8} (h : isText l = false) : quoteW l = [] := by
  unfold quoteW; rw [if_neg (by simp [h])]
theorem text_len {l : List UInt8} (h : isText l = true) : l.length ≤ 200 := by
  unfold isText at h; simp only [Bool.and_eq_true, decide_eq_true_eq] at h; exact h.1
theorem quoted_len (l : List UInt8) : l.length + 2 ≤ (quoted l).length ∧ (quoted l).length ≤ 2 * l.length + 2 := by
  have := escL_len l; unfold quoted; simp; omega
theorem quoteW_len (l : List UInt8) : (quoteW l).length ≤ 402 := by
  cases h : isText l
  · rw [quoteW_none h]; simp
  · have := text_len h
    cases h2 : isAtom l
    · rw [quoteW_quoted h h2]; have := quoted_len l; omega
    · rw [quoteW_atom h2]; omega
theorem quoteW_ne {l : List UInt8} (h : isText l = true) : quoteW l ≠ [] := by
  cases h2 : isAtom l
  · rw [quoteW_quoted h h2]; simp [quoted]
  · rw [quoteW_atom h2]; intro e; subst e; simp [isAtom] at h2
/-- Reading behind an opening quote: the text, and what is behind the closing one. -/
def readQ : List UInt8 → Option (List UInt8 × List UInt8)
  | [] => none
  | c :: r => if c = 34 then some ([], r) else if c = 92 then (match r with | [] => none | d :: r' => (readQ r').map fun x => (d :: x.1, x.2)) else (readQ r).map fun x => (c :: x.1, x.2)
theorem readQ_end (r : List UInt8) : readQ (34 :: r) = some ([], r) := by unfold readQ; rw [if_pos rfl]
theorem readQ_plain {c : UInt8} (r : List UInt8) (h : c ≠ 34) (h2 : c ≠ 92) : readQ (c :: r) = (readQ r).map fun x => (c :: x.1, x.2) := by
  conv => lhs; unfold readQ
  rw [if_neg h, if_neg h2]
theorem readQ_slash (d : UInt8) (r : List UInt8) : readQ (92 :: d :: r) = (readQ r).map fun x => (d :: x.1, x.2) := by
  conv => lhs; unfold readQ
  rw [if_neg (by decide), if_pos rfl]
theorem readQ_last : readQ [92] = none := by
  unfold readQ; rw [if_neg (by decide), if_pos rfl]
theorem readQ_escL : ∀ t r : List UInt8, readQ (escL t ++ 34 :: r) = some (t, r)
  | [], r => readQ_end r
  | c :: t, r => by
    have e : escL (c :: t) = esc c ++ escL t := rfl
    rw [e, List.append_assoc]
    have ih := readQ_escL t r
    by_cases h : c = 34 ∨ c = 92
    · have e2 : esc c = [92, c] := by unfold esc; rw [if_pos h]
      rw [e2]
      show readQ (92 :: c :: (escL t ++ 34 :: r)) = _
      rw [readQ_slash, ih]; rfl
    · have e2 : esc c = [c] := by unfold esc; rw [if_neg h]
      rw [e2]
      show readQ (c :: (escL t ++ 34 :: r)) = _
      rw [readQ_plain _ (fun e => h (.inl e)) (fun e => h (.inr e)), ih]; rfl
theorem readQ_bound : ∀ l t r : List UInt8, readQ l = some (t, r) → t.length + r.length < l.length
  | [], t, r, h => by simp [readQ] at h
  | c :: l, t, r, h => by
    by_cases h1 : c = 34
    · subst h1; rw [readQ_end] at h; simp at h; obtain ⟨rfl, rfl⟩ := h; simp
    · by_cases h2 : c = 92
      · subst h2
        match l, h with
        | [], h => rw [readQ_last] at h; cases h
        | d :: l', h =>
          rw [readQ_slash] at h
          obtain ⟨⟨t', r'⟩, ha, hb⟩ := Option.map_eq_some_iff.1 h
          simp at hb; obtain ⟨rfl, rfl⟩ := hb
          have := readQ_bound l' t' r' ha
          simp; omega
      · rw [readQ_plain _ h1 h2] at h
        obtain ⟨⟨t', r'⟩, ha, hb⟩ := Option.map_eq_some_iff.1 h
        simp at hb; obtain ⟨rfl, rfl⟩ := hb
        have := readQ_bound l t' r' ha
        simp; omega
/-- The text of which a word is written. -/
def unq (l : List UInt8) : Option (List UInt8) :=
  if isAtom l then some l else match l with
  | [] => none
  | c :: r => if c = 34 then (match readQ r with | none => none | some (t, _) => if quoteW t = l then some t else none) else none
theorem unq_atom {l : List UInt8} (h : isAtom l = true) : unq l = some l := by unfold unq; rw [if_pos h]
theorem unq_nil : unq [] = none := by unfold unq; rw [if_neg (by decide)]
theorem unq_other {c : UInt8} {r : List UInt8} (h : isAtom (c :: r) = false) (hc : c ≠ 34) : unq (c :: r) = none := by
  unfold unq; rw [if_neg (by simp [h])]; simp [hc]
theorem unq_quote {r : List UInt8} (h : isAtom (34 :: r) = false) : unq (34 :: r) = (match readQ r with | none => none | some (t, _) => if quoteW t = 34 :: r then some t else none) := by
  unfold unq; rw [if_neg (by simp [h])]; simp
theorem atom_34 (r : List UInt8) : isAtom (34 :: r) = false := by
  have : atomB 34 = false := by decide
  unfold isAtom; simp [this]
theorem unq_word {l t : List UInt8} (h : unq l = some t) : quoteW t = l ∧ isText t = true := by
  cases ha : isAtom l
  · match l, ha, h with
    | [], _, h => rw [unq_nil] at h; cases h
    | c :: r, ha, h =>
      by_cases hc : c = 34
      · subst hc
        rw [unq_quote ha] at h
        match hr : readQ r with
        | none => rw [hr] at h; cases h
        | some (t', r') =>
          rw [hr] at h
          simp only at h
          by_cases hq : quoteW t' = 34 :: r
          · rw [if_pos hq] at h; injection h with h; subst h
            refine ⟨hq, ?_⟩
            cases ht : isText t'
            · rw [quoteW_none ht] at hq; cases hq
            · rfl
          · rw [if_neg hq] at h; cases h
      · rw [unq_other ha hc] at h; cases h
  · rw [unq_atom ha] at h; injection h with h; subst h
    exact ⟨quoteW_atom ha, isAtom_text ha⟩
theorem unq_quoteW {t : List UInt8} (h : isText t = true) : unq (quoteW t) = some t := by
  cases ha : isAtom t
  · rw [quoteW_quoted h ha]
    unfold quoted
    rw [unq_quote (atom_34 _), readQ_escL]
    simp only
    rw [if_pos (by rw [quoteW_quoted h ha]; rfl)]
  · rw [quoteW_atom ha, unq_atom ha]
/-- What is read of a word in quotes that has its one form ends with it. -/
theorem quoteW_ends {r t r' : List UInt8} (h : readQ r = some (t, r')) (hq : quoteW t = 34 :: r) : r' = [] ∧ isText t = true ∧ r.length ≤ 401 := by
  have hl := quoteW_len t
  rw [hq] at hl
  cases ht : isText t
  · rw [quoteW_none ht] at hq; cases hq
  · cases ha : isAtom t
    · rw [quoteW_quoted ht ha] at hq
      unfold quoted at hq
      injection hq with _ hq
      rw [← hq, readQ_escL] at h
      injection h with h; injection h with _ h
      exact ⟨h.symm, rfl, by simp at hl; omega⟩
    · rw [quoteW_atom ha] at hq
      rw [hq, atom_34] at ha; cases ha
end Go.Proofs.YtbfjbabpeigloabDoor
