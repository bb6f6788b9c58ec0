/-
  Lists of words: the plain functions on lists of bytes, and that what is joined is split again. No statement is proved here.
-/
import Derived.Test.YtbfjbabpeigloabDoorQuoteM
namespace Go.Proofs.YtbfjbabpeigloabDoor
open Go.RowKit

theorem readQ_app : ∀ (l m t r : List UInt8), readQ l = some (t, r) → readQ (l ++ m) = some (t, r ++ m)
  | [], m, t, r, h => by simp [readQ] at h
  | c :: l, m, t, r, h => by
    by_cases h1 : c = 34
    · subst h1; rw [readQ_end] at h; simp at h; obtain ⟨rfl, rfl⟩ := h
      rw [List.cons_append, readQ_end]
    · by_cases h2 : c = 92
      · subst h2
        match l, h with
        | [], h => rw [readQ_last] at h; cases h
        | d :: l', h =>
          rw [readQ_slash] at h
          obtain ⟨⟨t', r'⟩, ha, hb⟩ := Option.map_eq_some_iff.1 h
          simp at hb; obtain ⟨rfl, rfl⟩ := hb
          rw [List.cons_append, List.cons_append, readQ_slash, readQ_app l' m t' r' ha]; rfl
      · rw [readQ_plain _ h1 h2] at h
        obtain ⟨⟨t', r'⟩, ha, hb⟩ := Option.map_eq_some_iff.1 h
        simp at hb; obtain ⟨rfl, rfl⟩ := hb
        rw [List.cons_append, readQ_plain _ h1 h2, readQ_app l m t' r' ha]; rfl
theorem readQ_rest : ∀ (l t r : List UInt8), readQ l = some (t, r) → l.drop (l.length - r.length) = r
  | [], t, r, h => by simp [readQ] at h
  | c :: l, t, r, h => by
    have hbd := readQ_bound _ _ _ h
    by_cases h1 : c = 34
    · subst h1; rw [readQ_end] at h; simp at h; obtain ⟨rfl, rfl⟩ := h
      simp [show l.length + 1 - l.length = 1 by omega]
    · by_cases h2 : c = 92
      · subst h2
        match l, h with
        | [], h => rw [readQ_last] at h; cases h
        | d :: l', h =>
          rw [readQ_slash] at h
          obtain ⟨⟨t', r'⟩, ha, hb⟩ := Option.map_eq_some_iff.1 h
          simp at hb; obtain ⟨rfl, rfl⟩ := hb
          have ih := readQ_rest l' t' r' ha
          have := readQ_bound _ _ _ ha
          simp only [List.length_cons]
          rw [show l'.length + 1 + 1 - r'.length = (l'.length - r'.length) + 1 + 1 by omega]
          exact ih
      · rw [readQ_plain _ h1 h2] at h
        obtain ⟨⟨t', r'⟩, ha, hb⟩ := Option.map_eq_some_iff.1 h
        simp at hb; obtain ⟨rfl, rfl⟩ := hb
        have ih := readQ_rest l t' r' ha
        have := readQ_bound _ _ _ ha
        simp only [List.length_cons]
        rw [show l.length + 1 - r'.length = (l.length - r'.length) + 1 by omega]
        exact ih
/-- What stands at the head of a text: a word, and how many bytes it takes. -/
def wordAt : List UInt8 → Option (List UInt8 × Nat)
  | [] => none
  | c :: r => if c = 34 then (readQ r).map fun x => (x.1, r.length + 1 - x.2.length) else if run atomB (c :: r) = 0 then none else some ((c :: r).take (run atomB (c :: r)), run atomB (c :: r))
theorem wordAt_cons (c : UInt8) (r : List UInt8) : wordAt (c :: r) = if c = 34 then (readQ r).map fun x => (x.1, r.length + 1 - x.2.length) else if run atomB (c :: r) = 0 then none else some ((c :: r).take (run atomB (c :: r)), run atomB (c :: r)) := rfl
theorem wordAt_bound {l t : List UInt8} {k : Nat} (h : wordAt l = some (t, k)) : 1 ≤ k ∧ k ≤ l.length := by
  match l, h with
  | c :: r, h =>
    rw [wordAt_cons] at h
    by_cases hc : c = 34
    · rw [if_pos hc] at h
      obtain ⟨⟨t', r'⟩, ha, hb⟩ := Option.map_eq_some_iff.1 h
      simp at hb; obtain ⟨rfl, rfl⟩ := hb
      have := readQ_bound _ _ _ ha
      simp; omega
    · rw [if_neg hc] at h
      by_cases h0 : run atomB (c :: r) = 0
      · rw [if_pos h0] at h; cases h
      · rw [if_neg h0] at h
        injection h with h; injection h with _ h; subst h
        exact ⟨by omega, run_le _ _⟩
theorem wordAt_len {l t : List UInt8} {k : Nat} (h : wordAt l = some (t, k)) : t.length ≤ l.length := by
  match l, h with
  | c :: r, h =>
    rw [wordAt_cons] at h
    by_cases hc : c = 34
    · rw [if_pos hc] at h
      obtain ⟨⟨t', r'⟩, ha, hb⟩ := Option.map_eq_some_iff.1 h
      simp at hb; obtain ⟨rfl, rfl⟩ := hb
      have := readQ_bound _ _ _ ha
      simp; omega
    · rw [if_neg hc] at h
      by_cases h0 : run atomB (c :: r) = 0
      · rw [if_pos h0] at h; cases h
      · rw [if_neg h0] at h
        injection h with h; injection h with h _; subst h
        exact List.length_take_le' _ _
theorem run_app {p : UInt8 → Bool} {d : UInt8} (hd : p d = false) : ∀ (l m : List UInt8), run p (l ++ d :: m) = run p l
  | [], m => by show run p (d :: m) = 0; unfold run; rw [hd]; rfl
  | c :: l, m => by
    rw [List.cons_append]
    unfold run
    rw [run_app hd l m]
theorem wordAt_app {l t : List UInt8} {k : Nat} (m : List UInt8) (h : wordAt l = some (t, k)) : wordAt (l ++ 32 :: m) = some (t, k) := by
  match l, h with
  | c :: r, h =>
    have hb := wordAt_bound h
    rw [List.cons_append]
    rw [wordAt_cons] at h ⊢
    by_cases hc : c = 34
    · rw [if_pos hc] at h ⊢
      obtain ⟨⟨t', r'⟩, ha, hb'⟩ := Option.map_eq_some_iff.1 h
      simp at hb'; obtain ⟨rfl, rfl⟩ := hb'
      rw [readQ_app _ (32 :: m) _ _ ha]
      have := readQ_bound _ _ _ ha
      simp; omega
    · rw [if_neg hc] at h ⊢
      have e := run_app (p := atomB) (d := 32) (by decide) (c :: r) m
      rw [List.cons_append] at e
      rw [e]
      by_cases h0 : run atomB (c :: r) = 0
      · rw [if_pos h0] at h; cases h
      · rw [if_neg h0] at h ⊢
        injection h with h; injection h with h1 h2; subst h1 h2
        rw [← List.cons_append, List.take_append_of_le_length (run_le _ _)]
def splitF : Nat → List UInt8 → Option (List (List UInt8))
  | 0, _ => none
  | n + 1, l => match l with
    | [] => some []
    | c :: r => if c = 32 then splitF n r else match wordAt (c :: r) with
      | none => none
      | some (t, k) => match (c :: r).drop k with
        | [] => some [t]
        | d :: r' => if d = 32 then (splitF n (d :: r')).map (t :: ·) else none
theorem splitF_fuel : ∀ (n m : Nat) (l : List UInt8), l.length < n → l.length < m → splitF n l = splitF m l
  | 0, _, l, h, _ => by omega
  | _ + 1, 0, l, _, h => by omega
  | n + 1, m + 1, [], _, _ => rfl
  | n + 1, m + 1, c :: r, h1, h2 => by
    simp only [List.length_cons] at h1 h2
    unfold splitF
    simp only
    by_cases hc : c = 32
    · rw [if_pos hc, if_pos hc]; exact splitF_fuel n m r (by omega) (by omega)
    · rw [if_neg hc, if_neg hc]
      match hw : wordAt (c :: r) with
      | none => rfl
      | some (t, k) =>
        simp only
        have hb := wordAt_bound hw
        match hd : (c :: r).drop k with
        | [] => rfl
        | d :: r' =>
          simp only
          have hl : (d :: r').length = (c :: r).length - k := by rw [← hd, List.length_drop]
          simp only [List.length_cons] at hl hb
          rw [splitF_fuel n m (d :: r') (by simp only [List.length_cons]; omega) (by simp only [List.length_cons]; omega)]
/-- The words of a text. -/
def splitW (l : List UInt8) : Option (List (List UInt8)) := splitF (l.length + 1) l
theorem splitW_nil : splitW [] = some [] := rfl
theorem splitW_space (l : List UInt8) : splitW (32 :: l) = splitW l := by
  unfold splitW; rw [splitF]; simp
theorem splitW_word {c : UInt8} {r : List UInt8} (hc : c ≠ 32) : splitW (c :: r) = match wordAt (c :: r) with
      | none => none
      | some (t, k) => match (c :: r).drop k with
        | [] => some [t]
        | d :: r' => if d = 32 then (splitW (d :: r')).map (t :: ·) else none := by
  unfold splitW
  rw [splitF, if_neg hc]
  match hw : wordAt (c :: r) with
  | none => rfl
  | some (t, k) =>
    simp only
    have hb := wordAt_bound hw
    match hd : (c :: r).drop k with
    | [] => rfl
    | d :: r' =>
      simp only
      have hl : (d :: r').length = (c :: r).length - k := by rw [← hd, List.length_drop]
      simp only [List.length_cons] at hl hb ⊢
      rw [splitF_fuel (r.length + 1) (r'.length + 1 + 1) (d :: r') (by simp only [List.length_cons]; omega) (by simp only [List.length_cons]; omega)]
theorem splitW_none {l : List UInt8} {c : UInt8} {r : List UInt8} (hl : l = c :: r) (hc : c ≠ 32) (hw : wordAt l = none) : splitW l = none := by
  subst hl; rw [splitW_word hc, hw]
theorem splitW_last {l : List UInt8} {c : UInt8} {r t : List UInt8} {k : Nat} (hl : l = c :: r) (hc : c ≠ 32) (hw : wordAt l = some (t, k)) (hd : l.drop k = []) : splitW l = some [t] := by
  subst hl; rw [splitW_word hc, hw]; simp only; rw [hd]
theorem splitW_stuck {l : List UInt8} {c d : UInt8} {r t r' : List UInt8} {k : Nat} (hl : l = c :: r) (hc : c ≠ 32) (hw : wordAt l = some (t, k)) (hd : l.drop k = d :: r') (h : d ≠ 32) : splitW l = none := by
  subst hl; rw [splitW_word hc, hw]; simp only; rw [hd]; simp only; rw [if_neg h]
theorem splitW_more {l : List UInt8} {c : UInt8} {r t r' : List UInt8} {k : Nat} (hl : l = c :: r) (hc : c ≠ 32) (hw : wordAt l = some (t, k)) (hd : l.drop k = 32 :: r') : splitW l = (splitW (32 :: r')).map (t :: ·) := by
  subst hl; rw [splitW_word hc, hw]; simp only; rw [hd]; simp
/-- Texts are joined: the words of two texts with a space between are those of both. -/
theorem splitW_two : ∀ (n : Nat) (l m : List UInt8) (a : List (List UInt8)), l.length ≤ n → splitW l = some a → splitW (l ++ 32 :: m) = (splitW m).map (a ++ ·)
  | n, [], m, a, _, h => by
    rw [splitW_nil] at h; injection h with h; subst h
    rw [List.nil_append, splitW_space]; cases splitW m <;> simp
  | 0, c :: l, m, a, hn, h => by simp at hn
  | n + 1, c :: l, m, a, hn, h => by
    simp only [List.length_cons] at hn
    by_cases hc : c = 32
    · subst hc
      rw [splitW_space] at h
      rw [List.cons_append, splitW_space]
      exact splitW_two n l m a (by omega) h
    · match hw : wordAt (c :: l) with
      | none => rw [splitW_none rfl hc hw] at h; cases h
      | some (t, k) =>
        have hb := wordAt_bound hw
        have hw2 := wordAt_app m hw
        have hd2 : (c :: l ++ 32 :: m).drop k = (c :: l).drop k ++ 32 :: m := List.drop_append_of_le_length hb.2
        match hd : (c :: l).drop k with
        | [] =>
          rw [splitW_last rfl hc hw hd] at h; injection h with h; subst h
          rw [hd, List.nil_append] at hd2
          rw [splitW_more (l := c :: l ++ 32 :: m) rfl hc hw2 hd2, splitW_space]
          cases splitW m <;> simp
        | d :: r' =>
          by_cases h32 : d = 32
          · subst h32
            rw [splitW_more rfl hc hw hd] at h
            obtain ⟨a', ha, rfl⟩ := Option.map_eq_some_iff.1 h
            rw [hd] at hd2
            have hl : (32 :: r').length = (c :: l).length - k := by rw [← hd, List.length_drop]
            have ih := splitW_two n (32 :: r') m a' (by rw [hl]; simp only [List.length_cons]; omega) ha
            have hd3 : (c :: l ++ 32 :: m).drop k = 32 :: (r' ++ 32 :: m) := by rw [hd2]; rfl
            rw [splitW_more (l := c :: l ++ 32 :: m) rfl hc hw2 hd3]
            rw [List.cons_append] at ih
            rw [ih]
            cases splitW m <;> simp
          · rw [splitW_stuck rfl hc hw hd h32] at h; cases h
theorem run_full {p : UInt8 → Bool} : ∀ {l : List UInt8}, (∀ x ∈ l, p x = true) → run p l = l.length
  | [], _ => rfl
  | c :: l, h => by
    unfold run
    rw [if_pos (h c (by simp)), run_full fun x hx => h x (by simp [hx])]; rfl
/-- One word is one. -/
theorem splitW_quoteW {t : List UInt8} (h : isText t = true) : splitW (quoteW t) = some [t] := by
  cases ha : isAtom t
  · rw [quoteW_quoted h ha]
    have hr := readQ_escL t []
    have hw : wordAt (quoted t) = some (t, (quoted t).length) := by
      unfold quoted
      rw [wordAt_cons, if_pos rfl, hr]; simp
    exact splitW_last (l := quoted t) rfl (by decide) hw (List.drop_length)
  · rw [quoteW_atom ha]
    match t, ha with
    | [], ha => cases ha
    | c :: r, ha =>
      have hall := ha
      unfold isAtom at hall
      simp only [Bool.and_eq_true, List.all_eq_true] at hall
      have hc := atom_okB (hall.2.2 c (by simp))
      have hrun := run_full hall.2.2
      have hc34 : c ≠ 34 := fun e => hc.2.2.1 (by rw [e]; rfl)
      have hw : wordAt (c :: r) = some (c :: r, (c :: r).length) := by
        rw [wordAt_cons, if_neg hc34, hrun, if_neg (by simp), List.take_length]
      exact splitW_last (l := c :: r) rfl (fun e => hc.2.1 (by rw [e]; rfl)) hw (List.drop_length)
/-- The words of texts, with one space between. -/
def joinAll : List (List UInt8) → List UInt8
  | [] => []
  | [x] => quoteW x
  | x :: y :: xs => quoteW x ++ 32 :: joinAll (y :: xs)
def joinW (xs : List (List UInt8)) : List UInt8 := if xs.all isText && decide ((joinAll xs).length ≤ 200) then joinAll xs else []
theorem joinAll_snoc : ∀ (xs : List (List UInt8)) (x : List UInt8), joinAll (xs ++ [x]) = if xs = [] then quoteW x else joinAll xs ++ 32 :: quoteW x
  | [], x => rfl
  | [y], x => by rw [if_neg (by simp)]; rfl
  | y :: z :: xs, x => by
    rw [if_neg (by simp)]
    have ih := joinAll_snoc (z :: xs) x
    rw [if_neg (by simp)] at ih
    show quoteW y ++ 32 :: joinAll (z :: (xs ++ [x])) = quoteW y ++ 32 :: joinAll (z :: xs) ++ 32 :: quoteW x
    rw [show z :: (xs ++ [x]) = (z :: xs) ++ [x] from rfl, ih]; simp
theorem split_joinAll : ∀ xs : List (List UInt8), (∀ x ∈ xs, isText x = true) → splitW (joinAll xs) = some xs
  | [], _ => rfl
  | [x], h => splitW_quoteW (h x (by simp))
  | x :: y :: xs, h => by
    have h1 := splitW_quoteW (h x (by simp))
    have h2 := split_joinAll (y :: xs) fun z hz => h z (by simp [hz])
    show splitW (quoteW x ++ 32 :: joinAll (y :: xs)) = _
    rw [splitW_two _ _ _ _ (Nat.le_refl _) h1, h2]; rfl
theorem joinAll_take : ∀ (xs : List (List UInt8)) (k : Nat), (joinAll (xs.take k)).length ≤ (joinAll xs).length
  | [], _ => by simp
  | [x], 0 => by simp [joinAll]
  | [x], k + 1 => by simp
  | x :: y :: xs, 0 => by simp [joinAll]
  | x :: y :: xs, 1 => by simp [joinAll]
  | x :: y :: xs, k + 2 => by
    have ih := joinAll_take (y :: xs) (k + 1)
    show (quoteW x ++ 32 :: joinAll (y :: xs.take k)).length ≤ (quoteW x ++ 32 :: joinAll (y :: xs)).length
    rw [List.take_succ_cons] at ih
    simp only [List.length_append, List.length_cons]; omega
theorem splitW_bound : ∀ (n : Nat) (l : List UInt8) (a : List (List UInt8)), l.length ≤ n → splitW l = some a → a.length ≤ l.length ∧ ∀ x ∈ a, x.length ≤ l.length
  | n, [], a, _, h => by rw [splitW_nil] at h; injection h with h; subst h; simp
  | 0, c :: l, a, hn, h => by simp at hn
  | n + 1, c :: l, a, hn, h => by
    simp only [List.length_cons] at hn
    by_cases hc : c = 32
    · subst hc
      rw [splitW_space] at h
      have ih := splitW_bound n l a (by omega) h
      exact ⟨by simp only [List.length_cons]; omega, fun x hx => by have := ih.2 x hx; simp only [List.length_cons]; omega⟩
    · match hw : wordAt (c :: l) with
      | none => rw [splitW_none rfl hc hw] at h; cases h
      | some (t, k) =>
        have hb := wordAt_bound hw
        have ht := wordAt_len hw
        match hd : (c :: l).drop k with
        | [] =>
          rw [splitW_last rfl hc hw hd] at h; injection h with h; subst h
          exact ⟨by simp, fun x hx => by rw [List.mem_singleton.1 hx]; exact ht⟩
        | d :: r' =>
          by_cases h32 : d = 32
          · subst h32
            rw [splitW_more rfl hc hw hd] at h
            obtain ⟨a', ha, rfl⟩ := Option.map_eq_some_iff.1 h
            have hl : (32 :: r').length = (c :: l).length - k := by rw [← hd, List.length_drop]
            have ih := splitW_bound n (32 :: r') a' (by rw [hl]; simp only [List.length_cons]; omega) ha
            refine ⟨by simp only [List.length_cons] at *; omega, fun x hx => ?_⟩
            rcases List.mem_cons.1 hx with e | e
            · rw [e]; exact ht
            · have := ih.2 x e; simp only [List.length_cons] at *; omega
          · rw [splitW_stuck rfl hc hw hd h32] at h; cases h
theorem esc_ok {c x : UInt8} (hc : okB c = true) (h : x ∈ esc c) : okB x = true := by
  unfold esc at h
  split at h
  · rcases List.mem_cons.1 h with e | e
    · rw [e]; decide
    · rw [List.mem_singleton.1 e]; exact hc
  · rw [List.mem_singleton.1 h]; exact hc
theorem quoteW_ok {t : List UInt8} {x : UInt8} (ht : isText t = true) (h : x ∈ quoteW t) : okB x = true := by
  have hall := ht
  unfold isText at hall
  simp only [Bool.and_eq_true, List.all_eq_true] at hall
  cases ha : isAtom t
  · rw [quoteW_quoted ht ha] at h
    unfold quoted at h
    rcases List.mem_cons.1 h with e | e
    · rw [e]; decide
    · rcases List.mem_append.1 e with e | e
      · obtain ⟨c, hc, hx⟩ := List.mem_flatMap.1 e
        exact esc_ok (hall.2 c hc) hx
      · rw [List.mem_singleton.1 e]; decide
  · rw [quoteW_atom ha] at h; exact hall.2 x h
theorem joinAll_ok : ∀ (xs : List (List UInt8)), (∀ x ∈ xs, isText x = true) → ∀ c ∈ joinAll xs, okB c = true
  | [], _, c, h => by cases h
  | [x], hx, c, h => quoteW_ok (hx x (by simp)) h
  | x :: y :: xs, hx, c, h => by
    have h' : c ∈ quoteW x ++ 32 :: joinAll (y :: xs) := h
    rcases List.mem_append.1 h' with e | e
    · exact quoteW_ok (hx x (by simp)) e
    · rcases List.mem_cons.1 e with e | e
      · rw [e]; decide
      · exact joinAll_ok (y :: xs) (fun z hz => hx z (by simp [hz])) c e
/-- What is joined is a text, and is split into what was joined. -/
theorem joinW_ne {xs : List (List UInt8)} (h : joinW xs ≠ []) : isText (joinW xs) = true ∧ splitW (joinW xs) = some xs ∧ (∀ x ∈ xs, isText x = true) ∧ joinW xs = joinAll xs := by
  unfold joinW at h ⊢
  by_cases hc : (xs.all isText && decide ((joinAll xs).length ≤ 200)) = true
  · rw [if_pos hc]
    rw [Bool.and_eq_true, decide_eq_true_eq, List.all_eq_true] at hc
    refine ⟨?_, split_joinAll xs hc.1, hc.1, rfl⟩
    unfold isText
    rw [Bool.and_eq_true, decide_eq_true_eq, List.all_eq_true]
    exact ⟨hc.2, joinAll_ok xs hc.1⟩
  · rw [if_neg hc] at h; exact absurd rfl h
theorem joinW_le (xs : List (List UInt8)) : (joinW xs).length ≤ 200 := by
  unfold joinW
  split
  · rename_i h; rw [Bool.and_eq_true, decide_eq_true_eq] at h; exact h.2
  · simp
end Go.Proofs.YtbfjbabpeigloabDoor
