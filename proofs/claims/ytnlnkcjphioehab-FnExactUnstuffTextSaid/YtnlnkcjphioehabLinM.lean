/-
  Lines with points: the mathematics. No statement is proved here.
-/
import Derived.Test.YtnlnkcjphioehabBase
import Derived.Test.YtnlnkcjphioehabWordsM
import Derived.Lib.IndexMore
namespace Go.Proofs.Ytnlnkcjphioehab

/-- The text up to the first end of a line, and what is behind it. -/
def cutW : List UInt8 → Option (List UInt8 × List UInt8)
  | [] => none
  | a :: r => if a = 13 ∧ r.head? = some 10 then some ([], r.tail) else (cutW r).map fun p => (a :: p.1, p.2)
/-- An end of a line lies at a place. -/
def occW (s : List UInt8) (i : Nat) : Prop := s[i]? = some 13 ∧ s[i + 1]? = some 10
theorem occW_zero (a : UInt8) (r : List UInt8) : occW (a :: r) 0 ↔ (a = 13 ∧ r.head? = some 10) := by
  unfold occW; rw [List.head?_eq_getElem?]; simp
theorem occW_succ (a : UInt8) (r : List UInt8) (i : Nat) : occW (a :: r) (i + 1) ↔ occW r i := by unfold occW; simp
theorem cutW_at : ∀ (i : Nat) (s : List UInt8), occW s i → (∀ j, j < i → ¬ occW s j) → cutW s = some (s.take i, s.drop (i + 2)) := by
  intro i
  induction i with
  | zero =>
    intro s h _
    cases s with
    | nil => unfold occW at h; simp at h
    | cons a r =>
      have h' := (occW_zero a r).1 h
      unfold cutW; rw [if_pos h']
      cases r with
      | nil => simp at h'
      | cons b r => simp
  | succ i ih =>
    intro s h hn
    cases s with
    | nil => unfold occW at h; simp at h
    | cons a r =>
      have h0 : ¬ (a = 13 ∧ r.head? = some 10) := fun c => hn 0 (by omega) ((occW_zero a r).2 c)
      unfold cutW; rw [if_neg h0, ih r ((occW_succ a r i).1 h) (fun j hj c => hn (j + 1) (by omega) ((occW_succ a r j).2 c))]
      rfl
theorem cutW_none_of : ∀ (s : List UInt8), (∀ j, ¬ occW s j) → cutW s = none := by
  intro s
  induction s with
  | nil => intro _; rfl
  | cons a r ih =>
    intro h
    have h0 : ¬ (a = 13 ∧ r.head? = some 10) := fun c => h 0 ((occW_zero a r).2 c)
    unfold cutW; rw [if_neg h0, ih (fun j c => h (j + 1) ((occW_succ a r j).2 c))]; rfl
theorem cutW_some : ∀ {s l t : List UInt8}, cutW s = some (l, t) → s = l ++ 13 :: 10 :: t := by
  intro s
  induction s with
  | nil => intro l t h; cases h
  | cons a r ih =>
    intro l t h
    unfold cutW at h
    split at h
    · rename_i h0
      injection h with h; injection h with h1 h2
      subst h1 h2
      cases r with
      | nil => simp at h0
      | cons b r => simp at h0; rw [h0.1, h0.2]; rfl
    · cases hc : cutW r with
      | none => rw [hc] at h; cases h
      | some p =>
        rw [hc] at h; obtain ⟨p1, p2⟩ := p
        injection h with h; injection h with h1 h2
        subst h1 h2
        rw [ih hc]; rfl
theorem cutW_len {s l t : List UInt8} (h : cutW s = some (l, t)) : l.length + t.length + 2 = s.length := by
  rw [cutW_some h]; simp; omega
theorem cutW_app {l : List UInt8} (t : List UInt8) (h : ∀ x ∈ l, x ≠ 13) : cutW (l ++ 13 :: 10 :: t) = some (l, t) := by
  induction l with
  | nil => unfold cutW; simp
  | cons a r ih =>
    have h0 : a ≠ 13 := h a (List.mem_cons_self ..)
    show cutW (a :: (r ++ 13 :: 10 :: t)) = _
    unfold cutW; rw [if_neg (fun c => h0 c.1), ih (fun x hx => h x (List.mem_cons_of_mem _ hx))]; rfl
theorem cutW_free {l : List UInt8} (h : ∀ x ∈ l, x ≠ 10) : cutW l = none := by
  refine cutW_none_of l (fun j c => ?_)
  exact h 10 (List.mem_of_getElem? c.2) rfl
theorem cut_lib (s : List UInt8) : Lib.cut s [13, 10] = (match cutW s with | some (l, t) => (l, t, true) | none => (s, [], false)) := by
  have occ : ∀ i, Lib.occAt s [13, 10] i = true ↔ occW s i := by
    intro i
    unfold Lib.occAt occW
    rw [List.isPrefixOf_iff_prefix]
    constructor
    · rintro ⟨r, hr⟩
      have e0 : (s.drop i)[0]? = some 13 := by rw [← hr]; rfl
      have e1 : (s.drop i)[1]? = some 10 := by rw [← hr]; rfl
      rw [List.getElem?_drop] at e0 e1
      exact ⟨e0, e1⟩
    · rintro ⟨e0, e1⟩
      have h0 : (s.drop i)[0]? = some 13 := by rw [List.getElem?_drop]; exact e0
      have h1 : (s.drop i)[1]? = some 10 := by rw [List.getElem?_drop]; exact e1
      generalize s.drop i = d at h0 h1
      cases d with
      | nil => cases h0
      | cons a d =>
        cases d with
        | nil => cases h1
        | cons b d =>
          simp at h0 h1
          subst h0 h1
          exact ⟨d, rfl⟩
  unfold Lib.cut
  rcases Lib.index_spec s [13, 10] with ⟨h1, h2⟩ | ⟨i, h1, h2, h3, h4⟩
  · have hn : cutW s = none := cutW_none_of s (fun j c => by
      have := c.1
      have hj : j < s.length := (List.getElem?_eq_some_iff.1 this).1
      have := h2 j (by omega)
      rw [(occ j).2 c] at this; cases this)
    rw [hn, h1]; rfl
  · have hs : cutW s = some (s.take i, s.drop (i + 2)) := cutW_at i s ((occ i).1 h3) (fun j hj c => by
      have := h4 j hj
      rw [(occ j).2 c] at this; cases this)
    rw [hs, h1]
    simp

/-- The parts before each end, and what is behind the last. -/
def spliN : Nat → List UInt8 → List (List UInt8) × List UInt8
  | 0, s => ([], s)
  | n + 1, s => match cutW s with
    | none => ([], s)
    | some p => (p.1 :: (spliN n p.2).1, (spliN n p.2).2)
def spliL (s : List UInt8) : List (List UInt8) × List UInt8 := spliN (s.length + 1) s
def endsL (ls : List (List UInt8)) : List UInt8 := ls.flatMap fun l => l ++ [13, 10]
theorem spliN_join : ∀ (n : Nat) (s : List UInt8), endsL (spliN n s).1 ++ (spliN n s).2 = s := by
  intro n
  induction n with
  | zero => intro s; rfl
  | succ n ih =>
    intro s
    unfold spliN
    cases h : cutW s with
    | none => rfl
    | some p =>
      show endsL (p.1 :: (spliN n p.2).1) ++ (spliN n p.2).2 = s
      have := ih p.2
      rw [cutW_some (l := p.1) (t := p.2) h]
      unfold endsL at this ⊢
      rw [List.flatMap_cons]
      simp only [List.append_assoc]
      rw [this]; rfl
theorem spliN_rest : ∀ (n : Nat) (s : List UInt8), s.length < n → cutW (spliN n s).2 = none := by
  intro n
  induction n with
  | zero => intro s h; omega
  | succ n ih =>
    intro s h
    unfold spliN
    cases h2 : cutW s with
    | none => exact h2
    | some p => exact ih p.2 (by have := cutW_len (l := p.1) (t := p.2) h2; omega)
theorem spliL_of_none {s : List UInt8} (h : cutW s = none) : spliL s = ([], s) := by unfold spliL spliN; rw [h]
theorem spliN_lens : ∀ (n : Nat) (s : List UInt8), 2 * (spliN n s).1.length + (spliN n s).2.length ≤ s.length ∧ ∀ l ∈ (spliN n s).1, l.length + 2 ≤ s.length := by
  intro n
  induction n with
  | zero => intro s; exact ⟨by simp [spliN], by simp [spliN]⟩
  | succ n ih =>
    intro s
    unfold spliN
    cases h : cutW s with
    | none => exact ⟨by simp, by simp⟩
    | some p =>
      have hl := cutW_len (l := p.1) (t := p.2) h
      obtain ⟨i1, i2⟩ := ih p.2
      refine ⟨?_, ?_⟩
      · show 2 * (p.1 :: (spliN n p.2).1).length + (spliN n p.2).2.length ≤ _
        rw [List.length_cons]; omega
      · intro l hm
        rcases List.mem_cons.1 hm with rfl | hm
        · omega
        · have := i2 l hm; omega

/-- A line without the point at its beginning; with a point more. -/
def unP (l : List UInt8) : List UInt8 := if l.head? = some 46 then l.tail else l
def stuP (l : List UInt8) : List UInt8 := if l.head? = some 46 then 46 :: l else l
theorem unP_stuP (l : List UInt8) : unP (stuP l) = l := by
  unfold unP stuP
  by_cases h : l.head? = some 46
  · rw [if_pos h]; simp
  · rw [if_neg h, if_neg h]
theorem stuP_ne (l : List UInt8) : stuP l ≠ [46] := by
  unfold stuP
  split
  · rename_i h; intro c; injection c with _ c; subst c; simp at h
  · rename_i h; intro c; subst c; simp at h
theorem stuP_len (l : List UInt8) : (stuP l).length = l.length + (if l.head? = some 46 then 1 else 0) := by
  unfold stuP; split <;> simp
theorem unP_le (l : List UInt8) : (unP l).length ≤ l.length := by unfold unP; split <;> simp
theorem text_plain {l : List UInt8} (h : isText l = true) : ∀ x ∈ l, x ≠ 13 ∧ x ≠ 10 := by
  unfold isText at h
  rw [Bool.and_eq_true, List.all_eq_true] at h
  intro x hx
  have := h.2 x hx
  refine ⟨fun c => ?_, fun c => ?_⟩ <;> (subst c; revert this; decide)
theorem stuP_plain {l : List UInt8} (h : isText l = true) : ∀ x ∈ stuP l, x ≠ 13 ∧ x ≠ 10 := by
  intro x hx
  unfold stuP at hx
  split at hx
  · rcases List.mem_cons.1 hx with rfl | hx
    · decide
    · exact text_plain h x hx
  · exact text_plain h x hx
/-- What is sent for lines. -/
def stuB (ls : List (List UInt8)) : List UInt8 := ls.flatMap fun l => stuP l ++ [13, 10]
def stuAll (ls : List (List UInt8)) : List UInt8 := stuB ls ++ [46, 13, 10]
def stuW (ls : List (List UInt8)) : Option (List UInt8) := if ls.all isText = true ∧ (stuAll ls).length ≤ 2000 then some (stuAll ls) else none
theorem stuB_cons (l : List UInt8) (ls : List (List UInt8)) : stuB (l :: ls) = stuP l ++ 13 :: 10 :: stuB ls := by unfold stuB; rw [List.flatMap_cons]; simp
theorem stuB_app (ls ks : List (List UInt8)) : stuB (ls ++ ks) = stuB ls ++ stuB ks := by unfold stuB; rw [List.flatMap_append]
theorem stuB_one (l : List UInt8) : stuB [l] = stuP l ++ [13, 10] := by unfold stuB; simp
theorem stuW_some {ls : List (List UInt8)} {s : List UInt8} (h : stuW ls = some s) : s = stuAll ls ∧ (∀ l ∈ ls, isText l = true) ∧ s.length ≤ 2000 := by
  unfold stuW at h
  split at h
  · rename_i h0; injection h with h; subst h; exact ⟨rfl, List.all_eq_true.1 h0.1, h0.2⟩
  · cases h
theorem stuW_bad {ls : List (List UInt8)} {l : List UInt8} (hm : l ∈ ls) (h : isText l = false) : stuW ls = none := by
  unfold stuW; rw [if_neg]
  rintro ⟨h1, _⟩
  have := List.all_eq_true.1 h1 l hm
  rw [h] at this; cases this
theorem stuW_long {ls : List (List UInt8)} (k : Nat) (h : 2000 < (stuB (ls.take k)).length) : stuW ls = none := by
  unfold stuW; rw [if_neg]
  rintro ⟨_, h2⟩
  have : stuB ls = stuB (ls.take k) ++ stuB (ls.drop k) := by rw [← stuB_app, List.take_append_drop]
  unfold stuAll at h2
  rw [List.length_append, this, List.length_append] at h2
  omega
theorem stuW_long' {ls : List (List UInt8)} (h : 2000 < (stuAll ls).length) : stuW ls = none := by
  unfold stuW; rw [if_neg]
  rintro ⟨_, h2⟩; omega
theorem stuW_good {ls : List (List UInt8)} (h1 : ∀ l ∈ ls, isText l = true) (h2 : (stuAll ls).length ≤ 2000) : stuW ls = some (stuAll ls) := by
  unfold stuW; rw [if_pos ⟨List.all_eq_true.2 h1, h2⟩]
theorem stuAll_len (ls : List (List UInt8)) : (stuAll ls).length = (stuB ls).length + 3 := by unfold stuAll; simp
theorem stuB_step {ls : List (List UInt8)} {k : Nat} (h : k < ls.length) : stuB (ls.take (k + 1)) = stuB (ls.take k) ++ (stuP ls[k] ++ [13, 10]) := by
  rw [List.take_succ_eq_append_getElem h, stuB_app, stuB_one]

/-- The lines before the first one that has only a point, and what is behind. -/
def unsN : Nat → List UInt8 → Option (List (List UInt8) × List UInt8)
  | 0, _ => none
  | n + 1, s => match cutW s with
    | none => none
    | some p => if p.1 = [46] then some ([], p.2) else if isText (unP p.1) = true then (unsN n p.2).map fun q => (unP p.1 :: q.1, q.2) else none
def unsW (s : List UInt8) : Option (List (List UInt8) × List UInt8) := if s.length ≤ 2000 then unsN (s.length + 1) s else none
theorem uns_stu : ∀ (ls : List (List UInt8)) (n : Nat) (rest : List UInt8), (∀ l ∈ ls, isText l = true) → ls.length < n → unsN n (stuAll ls ++ rest) = some (ls, rest) := by
  intro ls
  induction ls with
  | nil =>
    intro n rest _ hn
    cases n with
    | zero => omega
    | succ n =>
      unfold unsN
      have : cutW (stuAll [] ++ rest) = some ([46], rest) := cutW_app (l := [46]) rest (by decide)
      rw [this]; simp
  | cons l ls ih =>
    intro n rest ht hn
    cases n with
    | zero => omega
    | succ n =>
      have hl := ht l (List.mem_cons_self ..)
      unfold unsN
      have : cutW (stuAll (l :: ls) ++ rest) = some (stuP l, stuAll ls ++ rest) := by
        have := cutW_app (l := stuP l) (stuAll ls ++ rest) (fun x hx => (stuP_plain hl x hx).1)
        rw [← this]; unfold stuAll; rw [stuB_cons]; simp
      rw [this]
      show (if stuP l = [46] then _ else _) = _
      rw [if_neg (stuP_ne l), unP_stuP, if_pos hl, ih n rest (fun x hx => ht x (List.mem_cons_of_mem _ hx)) (by simpa using hn)]
      rfl
theorem stuB_ge (ls : List (List UInt8)) : ls.length ≤ (stuB ls).length := by
  induction ls with
  | nil => simp
  | cons l ls ih => rw [stuB_cons]; simp; omega
theorem unsW_stu {ls : List (List UInt8)} (rest : List UInt8) (ht : ∀ l ∈ ls, isText l = true) (hl : (stuAll ls ++ rest).length ≤ 2000) : unsW (stuAll ls ++ rest) = some (ls, rest) := by
  unfold unsW; rw [if_pos hl]
  refine uns_stu ls _ rest ht ?_
  have := stuB_ge ls
  unfold stuAll; simp; omega
theorem uns_cut : ∀ (ls : List (List UInt8)) (n : Nat), (∀ l ∈ ls, isText l = true) → unsN n (stuB ls ++ [46, 13]) = none := by
  intro ls
  induction ls with
  | nil =>
    intro n _
    cases n with
    | zero => rfl
    | succ n => unfold unsN; rw [cutW_free (l := stuB [] ++ [46, 13]) (by decide)]
  | cons l ls ih =>
    intro n ht
    cases n with
    | zero => rfl
    | succ n =>
      have hl := ht l (List.mem_cons_self ..)
      unfold unsN
      have : cutW (stuB (l :: ls) ++ [46, 13]) = some (stuP l, stuB ls ++ [46, 13]) := by
        have := cutW_app (l := stuP l) (stuB ls ++ [46, 13]) (fun x hx => (stuP_plain hl x hx).1)
        rw [← this, stuB_cons]; simp
      rw [this]
      show (if stuP l = [46] then _ else _) = _
      rw [if_neg (stuP_ne l), unP_stuP, if_pos hl, ih n (fun x hx => ht x (List.mem_cons_of_mem _ hx))]
      rfl
theorem unsW_cut {ls : List (List UInt8)} (ht : ∀ l ∈ ls, isText l = true) : unsW (stuB ls ++ [46, 13]) = none := by
  unfold unsW; split
  · exact uns_cut ls _ ht
  · rfl
theorem unsN_lens : ∀ (n : Nat) (s : List UInt8) (q : List (List UInt8) × List UInt8), unsN n s = some q → q.1.length + q.2.length ≤ s.length ∧ ∀ l ∈ q.1, isText l = true := by
  intro n
  induction n with
  | zero => intro s q h; cases h
  | succ n ih =>
    intro s q h
    unfold unsN at h
    cases hc : cutW s with
    | none => rw [hc] at h; cases h
    | some p =>
      have hl := cutW_len (l := p.1) (t := p.2) hc
      rw [hc] at h
      replace h : (if p.1 = [46] then some ([], p.2) else if isText (unP p.1) = true then (unsN n p.2).map fun q => (unP p.1 :: q.1, q.2) else none) = some q := h
      split at h
      · injection h with h; subst h; exact ⟨by simp; omega, by simp⟩
      · split at h
        · rename_i ht
          cases hu : unsN n p.2 with
          | none => rw [hu] at h; cases h
          | some u =>
            rw [hu] at h; injection h with h; subst h
            obtain ⟨i1, i2⟩ := ih _ _ hu
            refine ⟨by simp; omega, fun l hm => ?_⟩
            rcases List.mem_cons.1 hm with rfl | hm
            · exact ht
            · exact i2 l hm
        · cases h

/-- A byte that is half an end of a line; p: the byte before it is a carriage return. -/
def bareB (p : Bool) (a : UInt8) (r : List UInt8) : Bool := (a == 13 && !(r.head? == some 10)) || (a == 10 && !p)
def normG : Bool → List UInt8 → List UInt8
  | _, [] => []
  | p, a :: r => (if bareB p a r = true then [13, 10] else [a]) ++ normG (a == 13) r
def cntG : Bool → List UInt8 → Nat
  | _, [] => 0
  | p, a :: r => (if bareB p a r = true then 1 else 0) + cntG (a == 13) r
theorem norm_len : ∀ (s : List UInt8) (p : Bool), (normG p s).length = s.length + cntG p s := by
  intro s
  induction s with
  | nil => intro p; rfl
  | cons a r ih => intro p; unfold normG cntG; rw [List.length_append, ih, List.length_cons]; split <;> simp <;> omega
theorem cnt_le : ∀ (s : List UInt8) (p : Bool), cntG p s ≤ s.length := by
  intro s
  induction s with
  | nil => intro p; simp [cntG]
  | cons a r ih => intro p; unfold cntG; have := ih (a == 13); rw [List.length_cons]; split <;> omega
theorem norm_same : ∀ (s : List UInt8) (p : Bool), cntG p s = 0 → normG p s = s := by
  intro s
  induction s with
  | nil => intro p _; rfl
  | cons a r ih =>
    intro p h
    unfold cntG at h; unfold normG
    split at h
    · omega
    · rename_i hb; rw [if_neg hb, ih _ (by omega)]; rfl
theorem norm_iff (s : List UInt8) : cntG false s = 0 ↔ normG false s = s := by
  refine ⟨norm_same s false, fun h => ?_⟩
  have := norm_len s false
  rw [h] at this; omega
theorem norm_cons (p : Bool) (a : UInt8) (r : List UInt8) : normG p (a :: r) = (if bareB p a r = true then [13, 10] else [a]) ++ normG (a == 13) r := rfl
theorem cnt_cons (p : Bool) (a : UInt8) (r : List UInt8) : cntG p (a :: r) = (if bareB p a r = true then 1 else 0) + cntG (a == 13) r := rfl
theorem norm_head10 (r : List UInt8) : normG true (10 :: r) = 10 :: normG false r := by rw [norm_cons]; rfl
theorem cnt_norm : ∀ (s : List UInt8) (p : Bool), cntG (p && (s.head? == some 10)) (normG p s) = 0 := by
  intro s
  induction s with
  | nil => intro p; simp [normG, cntG]
  | cons a r ih =>
    intro p
    by_cases h13 : a = 13
    · subst h13
      by_cases h10 : r.head? = some 10
      · cases r with
        | nil => simp at h10
        | cons b r =>
          simp at h10; subst h10
          have i := ih true
          rw [norm_head10] at i
          rw [norm_cons, show bareB p 13 (10 :: r) = false from by simp [bareB], show ((13 : UInt8) == 13) = true from rfl, norm_head10]
          show cntG _ (13 :: 10 :: normG false r) = 0
          unfold cntG
          rw [show bareB (p && (List.head? (13 :: 10 :: r) == some 10)) 13 (10 :: normG false r) = false from by simp [bareB]]
          simpa using i
      · have i := ih true
        rw [show (true && (r.head? == some 10)) = false from by simp [h10]] at i
        unfold normG
        rw [show bareB p 13 r = true from by simp [bareB, h10]]
        show cntG _ (13 :: 10 :: normG true r) = 0
        unfold cntG
        rw [show bareB (p && (List.head? (13 :: r) == some 10)) 13 (10 :: normG true r) = false from by simp [bareB]]
        unfold cntG
        simpa [bareB] using i
    · by_cases h10 : a = 10
      · subst h10
        have i := ih false
        cases p with
        | true =>
          rw [norm_head10]
          unfold cntG
          simpa [bareB] using i
        | false =>
          unfold normG
          rw [show bareB false 10 r = true from by simp [bareB]]
          show cntG _ (13 :: 10 :: normG false r) = 0
          unfold cntG; unfold cntG
          simpa [bareB] using i
      · have i := ih false
        have e13 : (a == (13 : UInt8)) = false := by simp [h13]
        have e10 : (a == (10 : UInt8)) = false := by simp [h10]
        unfold normG
        rw [show bareB p a r = false from by simp [bareB, h13, h10]]
        show cntG _ (a :: normG (a == 13) r) = 0
        unfold cntG
        rw [show bareB (p && (List.head? (a :: r) == some 10)) a (normG (a == 13) r) = false from by simp [bareB, h13, h10], e13]
        simpa using i
theorem cnt_norm0 (s : List UInt8) : cntG false (normG false s) = 0 := by
  have := cnt_norm s false; simpa using this
theorem bare_app {p : Bool} {a b : UInt8} {r t : List UInt8} (hb : b ≠ 10) : bareB p a (r ++ b :: t) = bareB p a r := by
  have e : (b == (10 : UInt8)) = false := by simp [hb]
  unfold bareB
  cases r with
  | nil => show (a == 13 && !(some b == some 10) || a == 10 && !p) = (a == 13 && !(none == some 10) || a == 10 && !p); rw [show (some b == some (10 : UInt8)) = (b == 10) from rfl, e]; rfl
  | cons c r => rfl
theorem bare_flag {p : Bool} {a : UInt8} {r : List UInt8} (ha : a ≠ 10) : bareB p a r = bareB false a r := by
  have e : (a == (10 : UInt8)) = false := by simp [ha]
  unfold bareB; rw [e]; rfl
theorem norm_app {b : UInt8} (hb : b ≠ 10) (t : List UInt8) : ∀ (s : List UInt8) (p : Bool), normG p (s ++ b :: t) = normG p s ++ normG false (b :: t) := by
  intro s
  induction s with
  | nil => intro p; show normG p (b :: t) = [] ++ normG false (b :: t); rw [norm_cons, norm_cons, bare_flag hb]; rfl
  | cons a r ih =>
    intro p
    show normG p (a :: (r ++ b :: t)) = _
    rw [show normG p (a :: r) = (if bareB p a r = true then [13, 10] else [a]) ++ normG (a == 13) r from rfl]
    rw [show normG p (a :: (r ++ b :: t)) = (if bareB p a (r ++ b :: t) = true then [13, 10] else [a]) ++ normG (a == 13) (r ++ b :: t) from rfl]
    rw [bare_app hb, ih]; simp
theorem cnt_app {b : UInt8} (hb : b ≠ 10) (t : List UInt8) : ∀ (s : List UInt8) (p : Bool), cntG p (s ++ b :: t) = cntG p s + cntG false (b :: t) := by
  intro s
  induction s with
  | nil => intro p; show cntG p (b :: t) = 0 + cntG false (b :: t); rw [cnt_cons, cnt_cons, bare_flag hb]; omega
  | cons a r ih =>
    intro p
    show cntG p (a :: (r ++ b :: t)) = _
    rw [show cntG p (a :: r) = (if bareB p a r = true then 1 else 0) + cntG (a == 13) r from rfl]
    rw [show cntG p (a :: (r ++ b :: t)) = (if bareB p a (r ++ b :: t) = true then 1 else 0) + cntG (a == 13) (r ++ b :: t) from rfl]
    rw [bare_app hb, ih]; omega
theorem norm_plain {b : UInt8} (h1 : b ≠ 10) (h2 : b ≠ 13) (t : List UInt8) : normG false (b :: t) = b :: normG false t := by
  rw [norm_cons, show bareB false b t = false from by simp [bareB, h1, h2], show (b == (13 : UInt8)) = false from by simp [h2]]; rfl
theorem cnt_plain {b : UInt8} (h1 : b ≠ 10) (h2 : b ≠ 13) (t : List UInt8) : cntG false (b :: t) = cntG false t := by
  rw [cnt_cons, show bareB false b t = false from by simp [bareB, h1, h2], show (b == (13 : UInt8)) = false from by simp [h2]]; simp
theorem norm_join (s : List UInt8) : normG false (97 :: (s ++ [98])) = 97 :: (normG false s ++ [98]) := by
  rw [norm_plain (by decide) (by decide), norm_app (by decide)]; rfl
theorem cnt_join (s : List UInt8) : cntG false (normG false s ++ 97 :: (normG false s ++ [98])) = 0 := by
  rw [cnt_app (by decide), cnt_norm0, cnt_plain (by decide) (by decide), cnt_app (by decide), cnt_norm0]; rfl
theorem cnt_twice (s : List UInt8) : cntG false (s ++ 120 :: s) = 2 * cntG false s := by
  rw [cnt_app (by decide), cnt_plain (by decide) (by decide)]; omega
theorem cnt_x (s : List UInt8) : cntG false (120 :: s) = cntG false s := cnt_plain (by decide) (by decide) s

/-- How many ends lie in a text. -/
def crl : List UInt8 → Nat
  | [] => 0
  | a :: r => (if a = 13 ∧ r.head? = some 10 then 1 else 0) + crl r
theorem crl_cons (a : UInt8) (r : List UInt8) : crl (a :: r) = (if a = 13 ∧ r.head? = some 10 then 1 else 0) + crl r := rfl
theorem crl_10 (r : List UInt8) : crl (10 :: r) = crl r := by rw [crl_cons]; simp
theorem crl_cut : ∀ (s : List UInt8), crl s = match cutW s with | none => 0 | some p => 1 + crl p.2 := by
  intro s
  induction s with
  | nil => rfl
  | cons a r ih =>
    rw [crl_cons, show cutW (a :: r) = (if a = 13 ∧ r.head? = some 10 then some ([], r.tail) else (cutW r).map fun p => (a :: p.1, p.2)) from rfl]
    by_cases h : a = 13 ∧ r.head? = some 10
    · rw [if_pos h, if_pos h]
      cases r with
      | nil => simp at h
      | cons b r => simp at h; rw [h.2, crl_10]; show 1 + crl r = 1 + crl r; rfl
    · rw [if_neg h, if_neg h, ih]
      cases cutW r with
      | none => rfl
      | some q => show 0 + (1 + crl q.2) = 1 + crl q.2; omega
theorem split_crl : ∀ (n : Nat) (s : List UInt8), s.length < n → (spliN n s).1.length = crl s := by
  intro n
  induction n with
  | zero => intro s h; omega
  | succ n ih =>
    intro s h
    unfold spliN
    rw [crl_cut]
    cases hc : cutW s with
    | none => rfl
    | some p =>
      show (p.1 :: (spliN n p.2).1).length = 1 + crl p.2
      rw [List.length_cons, ih p.2 (by have := cutW_len (l := p.1) (t := p.2) hc; omega)]; omega
theorem crl_norm : ∀ (s : List UInt8) (p : Bool), crl (normG p s) = crl s + cntG p s := by
  intro s
  induction s with
  | nil => intro p; rfl
  | cons a r ih =>
    intro p
    by_cases h13 : a = 13
    · subst h13
      have i := ih true
      by_cases h10 : r.head? = some 10
      · cases r with
        | nil => simp at h10
        | cons b r =>
          simp at h10; subst h10
          rw [norm_head10] at i
          unfold normG cntG
          rw [show bareB p 13 (10 :: r) = false from by simp [bareB]]
          rw [show ((13 : UInt8) == 13) = true from rfl, norm_head10]
          show crl (13 :: 10 :: normG false r) = crl (13 :: 10 :: r) + (0 + cntG true (10 :: r))
          rw [show crl (13 :: 10 :: normG false r) = 1 + crl (10 :: normG false r) from rfl, show crl (13 :: 10 :: r) = 1 + crl (10 :: r) from rfl]
          omega
      · unfold normG cntG
        rw [show bareB p 13 r = true from by simp [bareB, h10], show ((13 : UInt8) == 13) = true from rfl]
        show crl (13 :: 10 :: normG true r) = crl (13 :: r) + (1 + cntG true r)
        rw [show crl (13 :: 10 :: normG true r) = 1 + crl (10 :: normG true r) from rfl, crl_10, i]
        rw [show crl (13 :: r) = 0 + crl r from by rw [crl.eq_2, if_neg (by simp [h10])]]
        omega
    · have e13 : (a == (13 : UInt8)) = false := by simp [h13]
      have i := ih false
      have hc : crl (a :: r) = crl r := by rw [crl.eq_2, if_neg (by simp [h13])]; omega
      by_cases h10 : a = 10
      · subst h10
        cases p with
        | true =>
          rw [norm_head10]
          unfold cntG
          rw [show bareB true 10 r = false from by simp [bareB], show ((10 : UInt8) == 13) = false from rfl, crl_10, hc]
          simp only [Bool.false_eq_true, if_false]
          omega
        | false =>
          unfold normG cntG
          rw [show bareB false 10 r = true from by simp [bareB], show ((10 : UInt8) == 13) = false from rfl]
          show crl (13 :: 10 :: normG false r) = _ + (1 + _)
          rw [show crl (13 :: 10 :: normG false r) = 1 + crl (10 :: normG false r) from rfl, crl_10, hc]
          omega
      · unfold normG cntG
        rw [show bareB p a r = false from by simp [bareB, h13, h10], e13]
        show crl (a :: normG false r) = _ + (0 + _)
        rw [show crl (a :: normG false r) = crl (normG false r) from by rw [crl.eq_2, if_neg (by simp [h13])]; omega, hc]
        omega
theorem cut_cnt : ∀ (s : List UInt8) (p : Bool) (l t : List UInt8), cutW s = some (l, t) → cntG p s = 0 → cntG false t = 0 := by
  intro s
  induction s with
  | nil => intro p l t h; cases h
  | cons a r ih =>
    intro p l t h hz
    unfold cutW at h; rw [cnt_cons] at hz
    split at h
    · rename_i h0
      injection h with h; injection h with h1 h2
      subst h2
      cases r with
      | nil => simp at h0
      | cons b r =>
        simp at h0; obtain ⟨rfl, rfl⟩ := h0
        have h9 : cntG ((13 : UInt8) == 13) (10 :: r) = 0 := by omega
        rw [cnt_cons, show ((10 : UInt8) == 13) = false from rfl] at h9
        show cntG false r = 0
        omega
    · cases hc : cutW r with
      | none => rw [hc] at h; cases h
      | some p =>
        rw [hc] at h; obtain ⟨p1, p2⟩ := p
        injection h with h; injection h with h1 h2
        subst h2
        exact ih (a == 13) _ _ hc (by omega)
theorem split_cnt : ∀ (n : Nat) (s : List UInt8), cntG false s = 0 → cntG false (spliN n s).2 = 0 := by
  intro n
  induction n with
  | zero => intro s h; exact h
  | succ n ih =>
    intro s h
    unfold spliN
    cases hc : cutW s with
    | none => exact h
    | some p => exact ih p.2 (cut_cnt s false p.1 p.2 hc h)
theorem split_norm (s : List UInt8) : (spliL (normG false s)).1.length = (spliL s).1.length + cntG false s ∧ cntG false (spliL (normG false s)).2 = 0 := by
  refine ⟨?_, split_cnt _ _ (cnt_norm0 s)⟩
  unfold spliL
  rw [split_crl _ _ (by omega), split_crl _ _ (by omega), crl_norm]
/-- What is sent, cut into lines. -/
theorem split_stu : ∀ (ls : List (List UInt8)) (n : Nat), (∀ l ∈ ls, isText l = true) → ls.length + 1 < n → spliN n (stuAll ls) = (ls.map stuP ++ [[46]], []) := by
  intro ls
  induction ls with
  | nil =>
    intro n _ hn
    obtain ⟨m, rfl⟩ : ∃ m, n = m + 2 := ⟨n - 2, by simp at hn; omega⟩
    rfl
  | cons l ls ih =>
    intro n ht hn
    cases n with
    | zero => omega
    | succ n =>
      have hl := ht l (List.mem_cons_self ..)
      unfold spliN
      have : cutW (stuAll (l :: ls)) = some (stuP l, stuAll ls) := by
        have := cutW_app (l := stuP l) (stuAll ls) (fun x hx => (stuP_plain hl x hx).1)
        rw [← this]; unfold stuAll; rw [stuB_cons]; simp
      rw [this]
      show (stuP l :: (spliN n (stuAll ls)).1, (spliN n (stuAll ls)).2) = _
      rw [ih n (fun x hx => ht x (List.mem_cons_of_mem _ hx)) (by simpa using hn)]
      rfl
theorem spliL_stu {ls : List (List UInt8)} (ht : ∀ l ∈ ls, isText l = true) : spliL (stuAll ls) = (ls.map stuP ++ [[46]], []) := by
  refine split_stu ls _ ht ?_
  have := stuB_ge ls
  rw [stuAll_len]; omega
theorem cnt_line : ∀ (l t : List UInt8), (∀ x ∈ l, x ≠ 13 ∧ x ≠ 10) → cntG false (l ++ 13 :: 10 :: t) = cntG false t := by
  intro l
  induction l with
  | nil => intro t _; show cntG false (13 :: 10 :: t) = _; rw [cnt_cons, cnt_cons]; simp [bareB]
  | cons a r ih =>
    intro t h
    have h0 := h a (List.mem_cons_self ..)
    show cntG false (a :: (r ++ 13 :: 10 :: t)) = _
    rw [cnt_plain h0.2 h0.1, ih t (fun x hx => h x (List.mem_cons_of_mem _ hx))]
theorem cnt_stu : ∀ (ls : List (List UInt8)), (∀ l ∈ ls, isText l = true) → cntG false (stuAll ls) = 0 := by
  intro ls
  induction ls with
  | nil => intro _; rfl
  | cons l ls ih =>
    intro ht
    have hl := ht l (List.mem_cons_self ..)
    have : stuAll (l :: ls) = stuP l ++ 13 :: 10 :: stuAll ls := by unfold stuAll; rw [stuB_cons]; simp
    rw [this, cnt_line _ _ (stuP_plain hl), ih (fun x hx => ht x (List.mem_cons_of_mem _ hx))]
/-- The size of what is sent. -/
def sizeG : List (List UInt8) → Nat
  | [] => 3
  | l :: ls => l.length + 2 + (if l.head? = some 46 then 1 else 0) + sizeG ls
theorem size_stu : ∀ ls : List (List UInt8), (stuAll ls).length = sizeG ls := by
  intro ls
  induction ls with
  | nil => rfl
  | cons l ls ih =>
    rw [stuAll_len] at ih ⊢
    rw [stuB_cons, List.length_append, stuP_len, List.length_cons, List.length_cons]
    unfold sizeG; omega
end Go.Proofs.Ytnlnkcjphioehab
