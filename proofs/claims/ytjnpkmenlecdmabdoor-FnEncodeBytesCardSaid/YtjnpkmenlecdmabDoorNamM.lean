/-
  Coded names: coded words and names, as plain functions on lists of bytes, and that what is written is read back. No statement is proved here.
-/
import Derived.Test.YtjnpkmenlecdmabDoorCodQ
namespace Go.Proofs.YtjnpkmenlecdmabDoor
open Go.RowKit

/-! What stands for a byte. -/
def selfC (c : UInt8) : Bool := alnumB c || decide (c = 45) || decide (c = 46)
def cbB (c : UInt8) : List UInt8 := if selfC c then [c] else if c = 32 then [95] else hexL c
def und (c : UInt8) : UInt8 := if c = 95 then 32 else c
def codL (l : List UInt8) : List UInt8 := l.flatMap cbB
theorem codL_nil : codL [] = [] := rfl
theorem codL_cons (c : UInt8) (l : List UInt8) : codL (c :: l) = cbB c ++ codL l := List.flatMap_cons
theorem codL_app (a b : List UInt8) : codL (a ++ b) = codL a ++ codL b := List.flatMap_append
theorem cbB_len (c : UInt8) : 1 ≤ (cbB c).length ∧ (cbB c).length ≤ 3 := by
  unfold cbB; split
  · simp
  · split <;> simp [hexL]
theorem codL_len : ∀ l : List UInt8, l.length ≤ (codL l).length ∧ (codL l).length ≤ 3 * l.length
  | [] => by simp [codL]
  | c :: l => by
    have h1 := cbB_len c
    have h2 := codL_len l
    rw [codL_cons, List.length_append, List.length_cons]; omega
def wB (c : UInt8) : Bool := okB c && decide (c ≠ 32) && decide (c ≠ 63)
theorem cbB_wB_nat : ∀ n, n < 256 → (cbB (UInt8.ofNat n)).all wB = true := by decide +kernel
theorem cbB_wB (c : UInt8) : ∀ x ∈ cbB c, okB x = true ∧ x ≠ 32 ∧ x ≠ 63 := by
  have h := cbB_wB_nat c.toNat c.toNat_lt
  rw [UInt8.ofNat_toNat] at h
  intro x hx
  have := List.all_eq_true.1 h x hx
  unfold wB at this
  simpa [and_assoc] using this
theorem codL_wB {l : List UInt8} {x : UInt8} (h : x ∈ codL l) : okB x = true ∧ x ≠ 32 ∧ x ≠ 63 := by
  obtain ⟨c, _, hc⟩ := List.mem_flatMap.1 h
  exact cbB_wB c x hc
theorem selfC_nat : ∀ n, n < 256 → selfC (UInt8.ofNat n) = true → UInt8.ofNat n ≠ 61 ∧ und (UInt8.ofNat n) = UInt8.ofNat n := by decide +kernel
theorem selfC_und {c : UInt8} (h : selfC c = true) : c ≠ 61 ∧ und c = c := by
  have := selfC_nat c.toNat c.toNat_lt
  rw [UInt8.ofNat_toNat] at this; exact this h
theorem hexV_und_nat : ∀ n, n < 256 → hexV (und (UInt8.ofNat n)) = hexV (UInt8.ofNat n) := by decide +kernel
theorem hexV_und (c : UInt8) : hexV (und c) = hexV c := by
  have := hexV_und_nat c.toNat c.toNat_lt
  rw [UInt8.ofNat_toNat] at this; exact this
theorem und_61 {c : UInt8} : und c = 61 ↔ c = 61 := by
  unfold und
  split
  · rename_i h; subst h; decide
  · exact Iff.rfl
/-! Bytes of which some are escaped. -/
/-- The byte that '=' and two digits stand for. -/
def escN (l : List UInt8) : Option UInt8 := match l with
  | _ :: x :: y :: _ => (match hexV x, hexV y with | some a, some b => some (UInt8.ofNat (16 * a + b)) | _, _ => none)
  | _ => none
def unE (f : UInt8 → UInt8) : List UInt8 → Option (List UInt8)
  | [] => some []
  | [c] => if c = 61 then none else some [f c]
  | [c, x] => if c = 61 then none else (unE f [x]).map (f c :: ·)
  | c :: x :: y :: m => if c = 61 then (match hexV x, hexV y with | some a, some b => (unE f m).map (UInt8.ofNat (16 * a + b) :: ·) | _, _ => none)
      else (unE f (x :: y :: m)).map (f c :: ·)
theorem unE_nil (f : UInt8 → UInt8) : unE f [] = some [] := by simp [unE]
theorem unE_plain (f : UInt8 → UInt8) {c : UInt8} (l : List UInt8) (h : c ≠ 61) : unE f (c :: l) = (unE f l).map (f c :: ·) := by
  match l with
  | [] => simp [unE, h]
  | [x] => simp [unE, h]
  | x :: y :: m => rw [unE, if_neg h]
theorem unE_esc (f : UInt8 → UInt8) {c : UInt8} (l : List UInt8) (h : c = 61) : unE f (c :: l) = match escN (c :: l) with | none => none | some b => (unE f (l.drop 2)).map (b :: ·) := by
  subst h
  match l with
  | [] => simp [unE, escN]
  | [x] => simp [unE, escN]
  | x :: y :: m =>
    rw [unE, if_pos rfl]
    unfold escN; dsimp only
    cases hexV x with
    | none => rfl
    | some a => cases hexV y <;> rfl
theorem escN_len {l : List UInt8} {b : UInt8} (h : escN l = some b) : 3 ≤ l.length := by
  match l, h with
  | _ :: _ :: _ :: _, _ => simp
theorem unE_und (l : List UInt8) : ∀ n, l.length ≤ n → unE id (l.map und) = unE und l := by
  intro n
  induction n generalizing l with
  | zero =>
    intro h
    have : l = [] := List.length_eq_zero_iff.1 (by omega)
    subst this; simp [unE]
  | succ n ih =>
    intro h
    match l with
    | [] => simp [unE]
    | c :: l =>
      rw [List.length_cons] at h
      by_cases h61 : c = 61
      · rw [List.map_cons, unE_esc id (l.map und) (und_61.2 h61), unE_esc und l h61]
        have he : escN (und c :: l.map und) = escN (c :: l) := by
          match l with
          | [] => rfl
          | [_] => rfl
          | x :: y :: m => unfold escN; simp only [List.map_cons, hexV_und]
        rw [he, ← List.map_drop]
        cases escN (c :: l) with
        | none => rfl
        | some b => dsimp only; rw [ih (l.drop 2) (by rw [List.length_drop]; omega)]
      · rw [List.map_cons, unE_plain id _ (fun e => h61 (und_61.1 e)), unE_plain und _ h61, ih l (by omega)]; rfl
theorem unE_len (f : UInt8 → UInt8) : ∀ (n : Nat) (l : List UInt8), l.length ≤ n → ∀ p, unE f l = some p → p.length ≤ l.length
  | _, [], _, p, h => by rw [unE_nil] at h; injection h with h; subst h; simp
  | n + 1, c :: l, hn, p, h => by
    rw [List.length_cons] at hn
    by_cases h61 : c = 61
    · rw [unE_esc f l h61] at h
      cases he : escN (c :: l) with
      | none => rw [he] at h; cases h
      | some b =>
        rw [he] at h
        obtain ⟨q, hq, rfl⟩ := Option.map_eq_some_iff.1 h
        have h3 := escN_len he
        have := unE_len f n (l.drop 2) (by rw [List.length_drop]; omega) q hq
        rw [List.length_drop] at this
        simp only [List.length_cons] at h3 ⊢; omega
    · rw [unE_plain f l h61] at h
      obtain ⟨q, hq, rfl⟩ := Option.map_eq_some_iff.1 h
      have := unE_len f n l (by omega) q hq
      simp only [List.length_cons]; omega
theorem unE_cb (c : UInt8) (m : List UInt8) : unE und (cbB c ++ m) = (unE und m).map (c :: ·) := by
  unfold cbB
  by_cases h : selfC c = true
  · obtain ⟨h1, h2⟩ := selfC_und h
    rw [if_pos h, List.singleton_append, unE_plain und m h1, h2]
  · rw [if_neg h]
    by_cases h32 : c = 32
    · subst h32
      rw [if_pos rfl, List.singleton_append, unE_plain und m (by decide)]; rfl
    · rw [if_neg h32]
      have hlt := c.toNat_lt
      have h1 := hexV_hexC_nat (c.toNat / 16) (by omega)
      have h2 := hexV_hexC_nat (c.toNat % 16) (by omega)
      show unE und (61 :: hexC (c.toNat / 16) :: hexC (c.toNat % 16) :: m) = _
      rw [unE, if_pos rfl, h1, h2]
      dsimp only
      rw [show 16 * (c.toNat / 16) + c.toNat % 16 = c.toNat by omega, UInt8.ofNat_toNat]
theorem unE_code : ∀ l : List UInt8, unE und (codL l) = some l
  | [] => by rw [codL_nil, unE_nil]
  | c :: l => by rw [codL_cons, unE_cb, unE_code l]; rfl
/-! Coded words. -/
def preL : List UInt8 := [61, 63, 117, 116, 102, 45, 56, 63, 113, 63]
def sufL : List UInt8 := [63, 61]
def wordL (l : List UInt8) : List UInt8 := preL ++ (codL l ++ sufL)
def codeW (l : List UInt8) : Option (List UInt8) := if l ≠ [] ∧ (codL l).length ≤ 28 then some (wordL l) else none
theorem wordL_len (l : List UInt8) : (wordL l).length = (codL l).length + 12 := by
  unfold wordL; simp [preL, sufL]
theorem codeW_in {l : List UInt8} (h : l ≠ []) (h2 : (codL l).length ≤ 28) : codeW l = some (wordL l) := by unfold codeW; rw [if_pos ⟨h, h2⟩]
theorem codeW_nil : codeW [] = none := by unfold codeW; rw [if_neg (fun h => h.1 rfl)]
theorem codeW_out {l : List UInt8} (h : 28 < (codL l).length) : codeW l = none := by unfold codeW; rw [if_neg (fun h2 => by have := h2.2; omega)]
theorem codeW_some {l s : List UInt8} (h : codeW l = some s) : s = wordL l ∧ l ≠ [] ∧ (codL l).length ≤ 28 := by
  unfold codeW at h
  split at h
  · rename_i h2; injection h with h; exact ⟨h.symm, h2⟩
  · cases h
theorem codeW_size {l s : List UInt8} (h : codeW l = some s) : 13 ≤ s.length ∧ s.length ≤ 40 ∧ s.length = (codL l).length + 12 := by
  obtain ⟨rfl, h1, h2⟩ := codeW_some h
  have h3 := (codL_len l).1
  have h4 : 1 ≤ l.length := List.length_pos_iff.2 h1
  rw [wordL_len]; omega
theorem wordL_byte {l : List UInt8} {x : UInt8} (h : x ∈ wordL l) : okB x = true ∧ x ≠ 32 := by
  unfold wordL at h
  rcases List.mem_append.1 h with h | h
  · have : ∀ y ∈ preL, okB y = true ∧ y ≠ 32 := by decide
    exact this x h
  · rcases List.mem_append.1 h with h | h
    · have := codL_wB h; exact ⟨this.1, this.2.1⟩
    · have : ∀ y ∈ sufL, okB y = true ∧ y ≠ 32 := by decide
      exact this x h
theorem codeW_text {l s : List UInt8} (h : codeW l = some s) : isText s = true := by
  obtain ⟨rfl, _, _⟩ := codeW_some h
  have := codeW_size h
  unfold isText
  rw [Bool.and_eq_true, decide_eq_true_iff, List.all_eq_true]
  exact ⟨by omega, fun x hx => (wordL_byte hx).1⟩
def innerL (s : List UInt8) : List UInt8 := (s.drop 10).take (s.length - 12)
def readW (s : List UInt8) : Option (List UInt8) := match unE und (innerL s) with
  | some b => if codeW b = some s then some b else none
  | none => none
theorem inner_word (l : List UInt8) : innerL (wordL l) = codL l := by
  unfold innerL
  rw [wordL_len]
  unfold wordL
  rw [show (10 : Nat) = preL.length from rfl, List.drop_left]
  exact List.take_left' (by omega)
theorem readW_code {l s : List UInt8} (h : codeW l = some s) : readW s = some l := by
  obtain ⟨rfl, _, _⟩ := codeW_some h
  unfold readW
  rw [inner_word, unE_code]
  dsimp only
  rw [if_pos h]
theorem readW_sound {l s : List UInt8} (h : readW s = some l) : codeW l = some s := by
  unfold readW at h
  split at h
  · split at h
    · injection h with h; subst h; assumption
    · cases h
  · cases h
theorem readW_off {s : List UInt8} (h : ∀ l, s ≠ wordL l ∨ s.length < 13 ∨ 40 < s.length) : readW s = none := by
  cases hr : readW s with
  | none => rfl
  | some l =>
    have h1 := readW_sound hr
    have h2 := codeW_size h1
    rcases h l with h | h | h
    · exact absurd (codeW_some h1).1 h
    · omega
    · omega
theorem readW_len {s l : List UInt8} (h : readW s = some l) : l.length ≤ 28 ∧ 1 ≤ l.length ∧ 13 ≤ s.length ∧ s.length ≤ 40 := by
  have h1 := readW_sound h
  have h2 := codeW_size h1
  obtain ⟨_, h3, h4⟩ := codeW_some h1
  have h5 := (codL_len l).1
  exact ⟨by omega, List.length_pos_iff.2 h3, by omega, by omega⟩
/-! How many bytes one coded word has room for. -/
def room : Nat → List UInt8 → Nat
  | _, [] => 0
  | r, c :: l => if (cbB c).length ≤ r then room (r - (cbB c).length) l + 1 else 0
theorem room_le : ∀ (l : List UInt8) (r : Nat), room r l ≤ l.length
  | [], r => by simp [room]
  | c :: l, r => by
    rw [room]; split
    · have := room_le l (r - (cbB c).length); rw [List.length_cons]; omega
    · omega
theorem room_fit : ∀ (l : List UInt8) (r : Nat), (codL (l.take (room r l))).length ≤ r
  | [], r => by simp [room, codL]
  | c :: l, r => by
    rw [room]; split
    · have := room_fit l (r - (cbB c).length)
      rw [List.take_succ_cons, codL_cons, List.length_append]; omega
    · rw [List.take_zero, codL_nil]; simp
theorem room_max : ∀ (l : List UInt8) (r : Nat), room r l < l.length → r < (codL (l.take (room r l + 1))).length
  | [], r, h => by simp [room] at h
  | c :: l, r, h => by
    rw [room] at h ⊢
    split
    · rename_i h2
      rw [if_pos h2, List.length_cons] at h
      have := room_max l (r - (cbB c).length) (by omega)
      rw [List.take_succ_cons, codL_cons, List.length_append]; omega
    · rename_i h2
      rw [List.take_succ_cons, codL_cons, List.length_append]; omega
theorem room_char : ∀ (l : List UInt8) (r m : Nat), m ≤ l.length → (codL (l.take m)).length ≤ r → (m = l.length ∨ r < (codL (l.take (m + 1))).length) → room r l = m
  | [], r, m, h, _, _ => by simp at h; simp [room, h]
  | c :: l, r, 0, _, _, h => by
    rcases h with h | h
    · simp at h
    · rw [List.take_succ_cons, codL_cons, List.length_append, List.take_zero, codL_nil, List.length_nil] at h
      rw [room, if_neg (by omega)]
  | c :: l, r, m + 1, h, h1, h2 => by
    rw [List.take_succ_cons, codL_cons, List.length_append] at h1
    rw [List.length_cons] at h
    rw [room, if_pos (by omega), room_char l (r - (cbB c).length) m (by omega) (by omega) (by
      rcases h2 with h2 | h2
      · rw [List.length_cons] at h2; exact .inl (by omega)
      · rw [List.take_succ_cons, codL_cons, List.length_append] at h2; exact .inr (by omega))]
theorem room_all (l : List UInt8) (r : Nat) : room r l = l.length ↔ (codL l).length ≤ r := by
  constructor
  · intro h
    have := room_fit l r
    rw [h, List.take_length] at this; exact this
  · intro h
    exact room_char l r l.length (Nat.le_refl _) (by rw [List.take_length]; exact h) (.inl rfl)
theorem room_pos {l : List UInt8} (h : l ≠ []) : 1 ≤ room 28 l := by
  match l, h with
  | c :: l, _ =>
    have := cbB_len c
    rw [room, if_pos (by omega)]; omega
theorem room_big {l : List UInt8} (h : room 28 l < l.length) : 26 ≤ (codL (l.take (room 28 l))).length := by
  have h1 := room_max l 28 h
  have h2 : l.take (room 28 l + 1) = l.take (room 28 l) ++ [l[room 28 l]] := by rw [List.take_add_one, List.getElem?_eq_getElem h]; rfl
  rw [h2, codL_app, List.length_append] at h1
  have h3 := (cbB_len l[room 28 l]).2
  have : (codL [l[room 28 l]]).length = (cbB l[room 28 l]).length := by simp [codL]
  omega
/-! Names. -/
def wordsN : Nat → List UInt8 → List (List UInt8)
  | 0, _ => []
  | n + 1, l => if l = [] then [] else wordL (l.take (room 28 l)) :: wordsN n (l.drop (room 28 l))
def wordsOf (l : List UInt8) : List (List UInt8) := wordsN l.length l
theorem wordsN_fuel : ∀ (n m : Nat) (l : List UInt8), l.length ≤ n → l.length ≤ m → wordsN n l = wordsN m l
  | 0, m, l, h, _ => by
    have : l = [] := List.length_eq_zero_iff.1 (by omega)
    subst this
    cases m <;> simp [wordsN]
  | n + 1, 0, l, _, h => by
    have : l = [] := List.length_eq_zero_iff.1 (by omega)
    subst this; simp [wordsN]
  | n + 1, m + 1, l, h, h2 => by
    unfold wordsN
    by_cases h0 : l = []
    · rw [if_pos h0, if_pos h0]
    · have hp := room_pos h0
      rw [if_neg h0, if_neg h0, wordsN_fuel n m _ (by rw [List.length_drop]; omega) (by rw [List.length_drop]; omega)]
theorem wordsOf_nil : wordsOf [] = [] := rfl
theorem wordsOf_step {l : List UInt8} (h : l ≠ []) : wordsOf l = wordL (l.take (room 28 l)) :: wordsOf (l.drop (room 28 l)) := by
  have hp := room_pos h
  have hl : 1 ≤ l.length := List.length_pos_iff.2 h
  unfold wordsOf
  obtain ⟨n, hn⟩ : ∃ n, l.length = n + 1 := ⟨l.length - 1, by omega⟩
  rw [hn]
  conv => lhs; rw [wordsN, if_neg h]
  rw [wordsN_fuel n _ _ (by rw [List.length_drop]; omega) (Nat.le_refl _)]
theorem take_ne {l : List UInt8} (h : l ≠ []) : l.take (room 28 l) ≠ [] := by
  have hp := room_pos h
  intro e
  have := congrArg List.length e
  have hr := room_le l 28
  rw [List.length_take, List.length_nil] at this; omega
theorem word_code {l : List UInt8} (h : l ≠ []) : codeW (l.take (room 28 l)) = some (wordL (l.take (room 28 l))) := codeW_in (take_ne h) (room_fit l 28)
theorem wordsOf_rec {P : List UInt8 → Prop} (h0 : P []) (h1 : ∀ l, l ≠ [] → P (l.drop (room 28 l)) → P l) : ∀ (n : Nat) (l : List UInt8), l.length ≤ n → P l
  | 0, l, h => by
    have : l = [] := List.length_eq_zero_iff.1 (by omega)
    subst this; exact h0
  | n + 1, l, h => by
    by_cases he : l = []
    · subst he; exact h0
    · have hp := room_pos he
      exact h1 l he (wordsOf_rec h0 h1 n _ (by rw [List.length_drop]; omega))
theorem wordsOf_mem (l : List UInt8) : ∀ s ∈ wordsOf l, ∃ b, codeW b = some s := by
  refine wordsOf_rec (P := fun l => ∀ s ∈ wordsOf l, ∃ b, codeW b = some s) ?_ ?_ l.length l (Nat.le_refl _)
  · intro s hs; cases hs
  · intro l hl ih s hs
    rw [wordsOf_step hl] at hs
    rcases List.mem_cons.1 hs with rfl | hs
    · exact ⟨_, word_code hl⟩
    · exact ih s hs
theorem wordsOf_ne {l : List UInt8} (h : l ≠ []) : wordsOf l ≠ [] := by rw [wordsOf_step h]; simp
/-- Sums: the lengths of the words, and how many there are. -/
theorem wordsOf_sum (l : List UInt8) : ((wordsOf l).map List.length).sum = (codL l).length + 12 * (wordsOf l).length ∧ 26 * (wordsOf l).length ≤ (codL l).length + 26 := by
  refine wordsOf_rec (P := fun l => ((wordsOf l).map List.length).sum = (codL l).length + 12 * (wordsOf l).length ∧ 26 * (wordsOf l).length ≤ (codL l).length + 26) ?_ ?_ l.length l (Nat.le_refl _)
  · simp [wordsOf_nil, codL_nil]
  · intro l hl ih
    have hc : codL l = codL (l.take (room 28 l)) ++ codL (l.drop (room 28 l)) := by rw [← codL_app, List.take_append_drop]
    have hcl := congrArg List.length hc
    rw [List.length_append] at hcl
    rw [wordsOf_step hl, List.map_cons, List.sum_cons, wordL_len, List.length_cons]
    refine ⟨by omega, ?_⟩
    by_cases hr : room 28 l < l.length
    · have := room_big hr; omega
    · have hd : l.drop (room 28 l) = [] := List.drop_eq_nil_of_le (by omega)
      rw [hd, wordsOf_nil]; simp
theorem join_cons2 (x y : List UInt8) (r : List (List UInt8)) (sep : List UInt8) : Lib.join (x :: y :: r) sep = x ++ (sep ++ Lib.join (y :: r) sep) := by
  rw [Lib.join_cons, Lib.join_cons]; unfold Lib.joinTail; simp
theorem join_len : ∀ xs : List (List UInt8), (Lib.join xs [32]).length ≤ (xs.map List.length).sum + xs.length
  | [] => by simp [Lib.join_nil]
  | [x] => by rw [Lib.join_one]; simp
  | x :: y :: r => by
    have := join_len (y :: r)
    rw [join_cons2]
    simp only [List.length_append, List.map_cons, List.sum_cons, List.length_cons, List.length_nil] at this ⊢; omega
theorem join_snoc : ∀ (xs : List (List UInt8)) (y : List UInt8), Lib.join (xs ++ [y]) [32] = (if xs = [] then [] else Lib.join xs [32] ++ [32]) ++ y
  | [], y => by simp [Lib.join_one]
  | [x], y => by rw [List.singleton_append, join_cons2, Lib.join_one, Lib.join_one, if_neg (by simp)]; simp
  | x :: z :: r, y => by
    have := join_snoc (z :: r) y
    rw [if_neg (by simp)] at this ⊢
    rw [List.cons_append, List.cons_append, join_cons2, ← List.cons_append, this, join_cons2]; simp
theorem joinWords_len {l : List UInt8} (h : l.length ≤ 120) : (Lib.join (wordsOf l) [32]).length ≤ 560 := by
  have h1 := wordsOf_sum l
  have h2 := (codL_len l).2
  have h3 := join_len (wordsOf l)
  omega
theorem splitC_one (c : UInt8) : ∀ (p : List UInt8), (∀ x ∈ p, x ≠ c) → splitC c p = [p]
  | [], _ => rfl
  | y :: p, h => by rw [splitC_skip p (h y (by simp)), splitC_one c p (fun x hx => h x (by simp [hx]))]; rfl
theorem splitC_two (c : UInt8) : ∀ (p l : List UInt8), (∀ x ∈ p, x ≠ c) → splitC c (p ++ c :: l) = p :: splitC c l
  | [], l, _ => splitC_hit c l
  | y :: p, l, h => by rw [List.cons_append, splitC_skip _ (h y (by simp)), splitC_two c p l (fun x hx => h x (by simp [hx]))]; rfl
theorem splitC_join (c : UInt8) : ∀ (xs : List (List UInt8)), xs ≠ [] → (∀ p ∈ xs, ∀ x ∈ p, x ≠ c) → splitC c (Lib.join xs [c]) = xs
  | [], h, _ => absurd rfl h
  | [x], _, h => by rw [Lib.join_one]; exact splitC_one c x (h x (by simp))
  | x :: y :: r, _, h => by
    rw [join_cons2, List.singleton_append, splitC_two c x _ (h x (by simp)), splitC_join c (y :: r) (by simp) (fun p hp => h p (by simp [hp]))]
theorem joinC_split (c : UInt8) : ∀ (n : Nat) (l : List UInt8), l.length ≤ n → Lib.join (splitC c l) [c] = l
  | n, l, hn => by
    rcases splitC_parts c l with ⟨p, h1, h2⟩ | ⟨p, r, h1, h2⟩
    · rw [h1, Lib.join_one, h2]
    · match n, hn with
      | 0, hn => rw [h2] at hn; simp at hn
      | n + 1, hn =>
        have ih := joinC_split c n r (by rw [h2, List.length_append, List.length_cons] at hn; omega)
        rw [h1]
        cases hs : splitC c r with
        | nil => exact absurd hs (splitC_ne c r)
        | cons y ys => rw [join_cons2, ← hs, ih, h2]; rfl
theorem splitC_infix (c : UInt8) : ∀ (n : Nat) (l : List UInt8), l.length ≤ n → ∀ p ∈ splitC c l, ∃ a b, l = a ++ (p ++ b)
  | n, l, hn, q, hq => by
    rcases splitC_parts c l with ⟨p, h1, h2⟩ | ⟨p, r, h1, h2⟩
    · rw [h1] at hq; rw [List.mem_singleton.1 hq, h2]; exact ⟨[], [], by simp⟩
    · rw [h1] at hq
      rcases List.mem_cons.1 hq with rfl | hq
      · exact ⟨[], c :: r, by rw [h2]; rfl⟩
      · match n, hn with
        | 0, hn => rw [h2] at hn; simp at hn
        | n + 1, hn =>
          obtain ⟨a, b, hab⟩ := splitC_infix c n r (by rw [h2, List.length_append, List.length_cons] at hn; omega) q hq
          exact ⟨p ++ c :: a, b, by rw [h2, hab]; simp⟩
/-! Names that need code. -/
def hasQ : List UInt8 → Bool
  | a :: b :: l => (decide (a = 61) && decide (b = 63)) || hasQ (b :: l)
  | _ => false
theorem hasQ_mid : ∀ (a r : List UInt8), hasQ (a ++ 61 :: 63 :: r) = true
  | [], r => by simp [hasQ]
  | [x], r => by rw [List.singleton_append, hasQ, Bool.or_eq_true]; exact .inr (hasQ_mid [] r)
  | x :: y :: a, r => by
    rw [List.cons_append, List.cons_append, hasQ, Bool.or_eq_true]; exact .inr (by have := hasQ_mid (y :: a) r; rwa [List.cons_append] at this)
theorem hasQ_iff : ∀ l : List UInt8, hasQ l = true → ∃ a r, l = a ++ 61 :: 63 :: r
  | [], h => by simp [hasQ] at h
  | [_], h => by simp [hasQ] at h
  | x :: y :: l, h => by
    rw [hasQ, Bool.or_eq_true] at h
    rcases h with h | h
    · simp at h; exact ⟨[], l, by rw [h.1, h.2]; rfl⟩
    · obtain ⟨a, r, hr⟩ := hasQ_iff (y :: l) h
      exact ⟨x :: a, r, by rw [hr]; rfl⟩
def needs (b : List UInt8) : Bool := decide (120 < b.length) || (!isText b || (decide (b.head? = some 32) || (decide (b.getLast? = some 32) || hasQ b)))
theorem needs_false {b : List UInt8} : needs b = false ↔ b.length ≤ 120 ∧ isText b = true ∧ b.head? ≠ some 32 ∧ b.getLast? ≠ some 32 ∧ hasQ b = false := by
  unfold needs; simp
def encN (b : List UInt8) : Option (List UInt8) := if b.length ≤ 120 then some (if needs b then Lib.join (wordsOf b) [32] else b) else none
theorem encN_out {b : List UInt8} (h : 120 < b.length) : encN b = none := by unfold encN; rw [if_neg (by omega)]
theorem encN_in {b : List UInt8} (h : b.length ≤ 120) : encN b = some (if needs b then Lib.join (wordsOf b) [32] else b) := by unfold encN; rw [if_pos h]
/-! Names read. -/
def dgo : Bool → Bool → List (List UInt8) → List UInt8
  | _, _, [] => []
  | fst, cd, p :: ps => (if fst || ((readW p).isSome && cd) then [] else [32]) ++ ((readW p).getD p ++ dgo false (readW p).isSome ps)
def decN (s : List UInt8) : Option (List UInt8) := if s.length ≤ 600 ∧ (dgo true false (splitC 32 s)).length ≤ 120 then some (dgo true false (splitC 32 s)) else none
theorem decN_in {s : List UInt8} (h : s.length ≤ 600) (h2 : (dgo true false (splitC 32 s)).length ≤ 120) : decN s = some (dgo true false (splitC 32 s)) := by unfold decN; rw [if_pos ⟨h, h2⟩]
theorem decN_some {s b : List UInt8} (h : decN s = some b) : s.length ≤ 600 ∧ b.length ≤ 120 ∧ b = dgo true false (splitC 32 s) := by
  unfold decN at h
  split at h
  · rename_i h2; injection h with h; subst h; exact ⟨h2.1, h2.2, rfl⟩
  · cases h
theorem dgo_plain : ∀ (xs : List (List UInt8)) (cd : Bool), (∀ p ∈ xs, readW p = none) → dgo true cd xs = Lib.join xs [32] ∧ (xs ≠ [] → dgo false cd xs = 32 :: Lib.join xs [32])
  | [], cd, _ => ⟨rfl, fun h => absurd rfl h⟩
  | [x], cd, h => by
    have hx := h x (by simp)
    rw [Lib.join_one]
    simp [dgo, hx]
  | x :: y :: r, cd, h => by
    have hx := h x (by simp)
    have ih := (dgo_plain (y :: r) false (fun p hp => h p (by simp [hp]))).2 (by simp)
    constructor
    · rw [dgo, hx, join_cons2]; simp [ih]
    · intro _
      rw [dgo, hx, join_cons2]; simp [ih]
theorem decN_plain {s : List UInt8} (h : ∀ p ∈ splitC 32 s, readW p = none) : dgo true false (splitC 32 s) = s := by
  rw [(dgo_plain _ false h).1]; exact joinC_split 32 _ s (Nat.le_refl _)
theorem readW_q {s b : List UInt8} (h : readW s = some b) : ∃ r, s = 61 :: 63 :: r := by
  obtain ⟨rfl, _⟩ := codeW_some (readW_sound h)
  exact ⟨_, rfl⟩
theorem noQ_parts {s : List UInt8} (h : hasQ s = false) : ∀ p ∈ splitC 32 s, readW p = none := by
  intro p hp
  cases hr : readW p with
  | none => rfl
  | some b =>
    obtain ⟨r, rfl⟩ := readW_q hr
    obtain ⟨a, t, hab⟩ := splitC_infix 32 _ s (Nat.le_refl _) _ hp
    rw [hab, List.cons_append, List.cons_append, hasQ_mid] at h
    cases h
theorem hasQ_63 {s : List UInt8} (h : (63 : UInt8) ∉ s) : hasQ s = false := by
  cases hq : hasQ s
  · rfl
  · obtain ⟨a, r, rfl⟩ := hasQ_iff s hq
    exact absurd (by simp) h
theorem dgo_words (l : List UInt8) : dgo false true (wordsOf l) = l ∧ dgo true false (wordsOf l) = l := by
  refine wordsOf_rec (P := fun l => dgo false true (wordsOf l) = l ∧ dgo true false (wordsOf l) = l) ?_ ?_ l.length l (Nat.le_refl _)
  · exact ⟨rfl, rfl⟩
  · intro l hl ih
    have hr := readW_code (word_code hl)
    rw [wordsOf_step hl]
    constructor
    · rw [dgo, hr]; simp [ih.1, List.take_append_drop]
    · rw [dgo, hr]; simp [ih.1, List.take_append_drop]
theorem split_words {l : List UInt8} (h : l ≠ []) : splitC 32 (Lib.join (wordsOf l) [32]) = wordsOf l := by
  refine splitC_join 32 _ (wordsOf_ne h) ?_
  intro p hp x hx
  obtain ⟨b, hb⟩ := wordsOf_mem l p hp
  obtain ⟨rfl, _⟩ := codeW_some hb
  exact (wordL_byte hx).2
theorem needs_nil : needs [] = false := by decide
theorem dec_enc {b s : List UInt8} (h : encN b = some s) : decN s = some b ∧ b.length ≤ 120 := by
  unfold encN at h
  split at h
  · rename_i h120
    injection h with h
    cases hn : needs b
    · rw [hn] at h
      have h' : b = s := by simpa using h
      subst h'
      have hq := (needs_false.1 hn).2.2.2.2
      have hd := decN_plain (noQ_parts hq)
      exact ⟨by rw [decN_in (by omega) (by rw [hd]; exact h120), hd], h120⟩
    · rw [hn, if_pos rfl] at h
      subst h
      have hne : b ≠ [] := by intro e; subst e; rw [needs_nil] at hn; cases hn
      have hl := joinWords_len h120
      have hd : dgo true false (splitC 32 (Lib.join (wordsOf b) [32])) = b := by rw [split_words hne]; exact (dgo_words b).2
      exact ⟨by rw [decN_in (by omega) (by rw [hd]; exact h120), hd], h120⟩
  · cases h
theorem encN_size {b s : List UInt8} (h : encN b = some s) : s.length ≤ 560 := by
  unfold encN at h
  split at h
  · rename_i h120
    injection h with h
    subst h
    split
    · exact joinWords_len h120
    · omega
  · cases h
end Go.Proofs.YtjnpkmenlecdmabDoor
