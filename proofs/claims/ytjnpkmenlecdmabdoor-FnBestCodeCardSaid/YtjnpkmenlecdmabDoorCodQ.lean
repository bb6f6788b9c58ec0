/-
  Codes of bytes: quoted lines and plain lines, as plain functions on lists of bytes, and that what is written is read back. No statement is proved here.
-/
import Derived.Test.YtjnpkmenlecdmabDoorCodM
import Derived.Lib.Join
namespace Go.Proofs.YtjnpkmenlecdmabDoor
open Go.RowKit

/-! Bytes as they are written. -/
def hexC (n : Nat) : UInt8 := UInt8.ofNat (if n < 10 then 48 + n else 55 + n)
def hexV (c : UInt8) : Option Nat := if 48 ≤ c.toNat ∧ c.toNat ≤ 57 then some (c.toNat - 48) else if 65 ≤ c.toNat ∧ c.toNat ≤ 70 then some (c.toNat - 55) else none
theorem hexV_hexC_nat : ∀ n, n < 16 → hexV (hexC n) = some n := by decide +kernel
theorem hexC_ok_nat : ∀ n, n < 16 → okB (hexC n) = true ∧ hexC n ≠ 61 ∧ hexC n ≠ 32 := by decide +kernel
theorem hexV_lt {c : UInt8} {n : Nat} (h : hexV c = some n) : n < 16 := by
  unfold hexV at h
  split at h
  · injection h with h; omega
  · split at h
    · injection h with h; omega
    · cases h
theorem hexV_61 : hexV 61 = none := by decide +kernel
def plainB (c : UInt8) (last : Bool) : Bool := (decide (33 ≤ c.toNat) && decide (c.toNat ≤ 126) && decide (c ≠ 61)) || (decide (c = 32) && !last)
def hexL (c : UInt8) : List UInt8 := [61, hexC (c.toNat / 16), hexC (c.toNat % 16)]
def qb (c : UInt8) (last : Bool) : List UInt8 := if plainB c last then [c] else hexL c
theorem qb_len (c : UInt8) (last : Bool) : 1 ≤ (qb c last).length ∧ (qb c last).length ≤ 3 := by
  unfold qb; split <;> simp [hexL]
def lastB : List UInt8 → Bool
  | [] => true
  | c :: _ => decide (c = 10)
/-- Lines that go on from a line that is begun. -/
def qgo : List UInt8 → List UInt8 → List (List UInt8)
  | line, [] => [line]
  | line, c :: l => if c = 10 then line :: qgo [] l else
      if 39 < line.length + (qb c (lastB l)).length then (line ++ [61]) :: qgo (qb c (lastB l)) l else qgo (line ++ qb c (lastB l)) l
theorem qgo_nil (line : List UInt8) : qgo line [] = [line] := rfl
theorem qgo_line (line l : List UInt8) : qgo line (10 :: l) = line :: qgo [] l := by rw [qgo, if_pos rfl]
theorem qgo_full {line l : List UInt8} {c : UInt8} (h : c ≠ 10) (h2 : 39 < line.length + (qb c (lastB l)).length) : qgo line (c :: l) = (line ++ [61]) :: qgo (qb c (lastB l)) l := by rw [qgo, if_neg h, if_pos h2]
theorem qgo_more {line l : List UInt8} {c : UInt8} (h : c ≠ 10) (h2 : ¬ 39 < line.length + (qb c (lastB l)).length) : qgo line (c :: l) = qgo (line ++ qb c (lastB l)) l := by rw [qgo, if_neg h, if_neg h2]
def encQ (b : List UInt8) : Option (List (List UInt8)) := if b.length ≤ 300 then some (qgo [] b) else none
theorem qgo_count : ∀ (l line : List UInt8), (qgo line l).length ≤ l.length + 1 ∧ 1 ≤ (qgo line l).length
  | [], line => by simp [qgo]
  | c :: l, line => by
    by_cases h : c = 10
    · subst h; rw [qgo_line]; have := qgo_count l []; simp only [List.length_cons]; omega
    · by_cases h2 : 39 < line.length + (qb c (lastB l)).length
      · rw [qgo_full h h2]; have := qgo_count l (qb c (lastB l)); simp only [List.length_cons]; omega
      · rw [qgo_more h h2]; have := qgo_count l (line ++ qb c (lastB l)); simp only [List.length_cons]; omega
/-- Each part between newlines is written for itself. -/
theorem qgo_part : ∀ (p line l : List UInt8), (∀ x ∈ p, x ≠ 10) → qgo line (p ++ 10 :: l) = qgo line p ++ qgo [] l
  | [], line, l, _ => by rw [List.nil_append, qgo_line, qgo_nil]; rfl
  | c :: p, line, l, h => by
    have hc : c ≠ 10 := h c (by simp)
    have hp : ∀ x ∈ p, x ≠ 10 := fun x hx => h x (by simp [hx])
    have hl : lastB (p ++ 10 :: l) = lastB p := by cases p <;> simp [lastB]
    rw [List.cons_append]
    by_cases h2 : 39 < line.length + (qb c (lastB p)).length
    · rw [qgo_full hc (by rw [hl]; exact h2), qgo_full hc h2, hl, qgo_part p _ l hp]; rfl
    · rw [qgo_more hc (by rw [hl]; exact h2), qgo_more hc h2, hl, qgo_part p _ l hp]
theorem splitC_free (c : UInt8) : ∀ (l : List UInt8), ∀ p ∈ splitC c l, ∀ x ∈ p, x ≠ c
  | [], p, hp, x, hx => by simp [splitC] at hp; subst hp; cases hx
  | y :: l, p, hp, x, hx => by
    by_cases hy : y = c
    · subst hy
      rw [splitC_hit] at hp
      rcases List.mem_cons.1 hp with e | e
      · subst e; cases hx
      · exact splitC_free y l p e x hx
    · rw [splitC_skip l hy] at hp
      cases hs : splitC c l with
      | nil => exact absurd hs (splitC_ne c l)
      | cons q qs =>
        rw [hs] at hp
        simp only [glue, List.singleton_append, List.mem_cons] at hp
        rcases hp with e | e
        · subst e
          rcases List.mem_cons.1 hx with e2 | e2
          · subst e2; exact hy
          · exact splitC_free c l q (by rw [hs]; simp) x e2
        · exact splitC_free c l p (by rw [hs]; simp [e]) x hx
/-- The first part of a text, and the rest behind the newline. -/
theorem splitC_parts (c : UInt8) : ∀ (l : List UInt8), (∃ p, splitC c l = [p] ∧ l = p) ∨ ∃ p r, splitC c l = p :: splitC c r ∧ l = p ++ c :: r
  | [] => .inl ⟨[], rfl, rfl⟩
  | y :: l => by
    by_cases hy : y = c
    · subst hy; exact .inr ⟨[], l, splitC_hit y l, rfl⟩
    · rw [splitC_skip l hy]
      rcases splitC_parts c l with ⟨p, h1, h2⟩ | ⟨p, r, h1, h2⟩
      · exact .inl ⟨y :: p, by rw [h1]; rfl, by rw [← h2]⟩
      · exact .inr ⟨y :: p, r, by rw [h1]; rfl, by rw [h2]; rfl⟩
theorem qgo_split : ∀ (n : Nat) (l : List UInt8), l.length ≤ n → (splitC 10 l).flatMap (qgo []) = qgo [] l
  | n, l, hn => by
    have hf := splitC_free 10 l
    rcases splitC_parts 10 l with ⟨p, h1, h2⟩ | ⟨p, r, h1, h2⟩
    · rw [h1, h2]; simp
    · match n, hn with
      | 0, hn => rw [h2] at hn; simp at hn
      | n + 1, hn =>
        rw [h1, List.flatMap_cons, qgo_split n r (by rw [h2, List.length_append, List.length_cons] at hn; omega)]
        conv => rhs; rw [h2]
        rw [qgo_part p [] r (hf p (by rw [h1]; simp))]
/-! Reading. -/
/-- A line: its bytes, and whether it goes on. -/
def uq : List UInt8 → Option (List UInt8 × Bool)
  | [] => some ([], false)
  | [c] => if c = 61 then some ([], true) else if okB c then some ([c], false) else none
  | [c, x] => if c = 61 then none else if okB c then (uq [x]).map (fun r => (c :: r.1, r.2)) else none
  | c :: x :: y :: m => if c = 61 then (match hexV x, hexV y with | some a, some b => (uq m).map (fun r => (UInt8.ofNat (16 * a + b) :: r.1, r.2)) | _, _ => none)
      else if okB c then (uq (x :: y :: m)).map (fun r => (c :: r.1, r.2)) else none
/-- A line without the mark that it goes on. -/
def rq : List UInt8 → Option (List UInt8)
  | [] => some []
  | [c] => if okB c = false then none else if c = 61 then none else some [c]
  | [c, x] => if okB c = false then none else if c = 61 then none else (rq [x]).map (c :: ·)
  | c :: x :: y :: m => if okB c = false then none else if c = 61 then (match hexV x, hexV y with | some a, some b => (rq m).map (UInt8.ofNat (16 * a + b) :: ·) | _, _ => none)
      else (rq (x :: y :: m)).map (c :: ·)
theorem uq_plain {c : UInt8} (l : List UInt8) (h : c ≠ 61) (h2 : okB c = true) : uq (c :: l) = (uq l).map (fun r => (c :: r.1, r.2)) := by
  match l with
  | [] => simp [uq, h, h2]
  | [x] => simp only [uq, h, h2, if_true, if_false]
  | x :: y :: m => rw [uq, if_neg h, if_pos h2]
theorem uq_bad {c : UInt8} (l : List UInt8) (h2 : okB c = false) : uq (c :: l) = none := by
  have h : c ≠ 61 := by intro e; subst e; exact absurd h2 (by decide)
  match l with
  | [] => simp [uq, h, h2]
  | [x] => simp [uq, h, h2]
  | x :: y :: m => rw [uq, if_neg h, if_neg (by simp [h2])]
theorem uq_end : uq [61] = some ([], true) := by simp [uq]
theorem uq_short (x : UInt8) : uq [61, x] = none := by simp [uq]
theorem uq_hex {x y : UInt8} {a b : Nat} (m : List UInt8) (hx : hexV x = some a) (hy : hexV y = some b) : uq (61 :: x :: y :: m) = (uq m).map (fun r => (UInt8.ofNat (16 * a + b) :: r.1, r.2)) := by
  rw [uq, if_pos rfl, hx, hy]
theorem uq_nohex {x y : UInt8} (m : List UInt8) (h : hexV x = none ∨ hexV y = none) : uq (61 :: x :: y :: m) = none := by
  rw [uq, if_pos rfl]
  rcases h with h | h
  · rw [h]
  · rw [h]; cases hexV x <;> rfl
theorem rq_plain {c : UInt8} (l : List UInt8) (h : c ≠ 61) (h2 : okB c = true) : rq (c :: l) = (rq l).map (c :: ·) := by
  match l with
  | [] => simp [rq, h, h2]
  | [x] => simp only [rq, h, h2, if_false, Bool.true_eq_false]
  | x :: y :: m => rw [rq, if_neg (by simp [h2]), if_neg h]
theorem rq_bad {c : UInt8} (l : List UInt8) (h2 : okB c = false) : rq (c :: l) = none := by
  match l with
  | [] => simp [rq, h2]
  | [x] => simp [rq, h2]
  | x :: y :: m => rw [rq, if_pos h2]
theorem rq_end : rq [61] = none := by decide +kernel
theorem rq_short (x : UInt8) : rq [61, x] = none := by
  rw [rq, if_neg (by decide), if_pos rfl]
theorem rq_hex {x y : UInt8} {a b : Nat} (m : List UInt8) (hx : hexV x = some a) (hy : hexV y = some b) : rq (61 :: x :: y :: m) = (rq m).map (UInt8.ofNat (16 * a + b) :: ·) := by
  rw [rq, if_neg (by decide), if_pos rfl, hx, hy]
theorem rq_nohex {x y : UInt8} (m : List UInt8) (h : hexV x = none ∨ hexV y = none) : rq (61 :: x :: y :: m) = none := by
  rw [rq, if_neg (by decide), if_pos rfl]
  rcases h with h | h
  · rw [h]
  · rw [h]; cases hexV x <;> rfl
theorem uq_soft : ∀ (n : Nat) (l : List UInt8), l.length ≤ n → uq (l ++ [61]) = (rq l).map (·, true)
  | _, [], _ => by simp [uq, rq]
  | n + 1, c :: l, hn => by
    rw [List.length_cons] at hn
    cases h2 : okB c
    · rw [List.cons_append, uq_bad _ h2, rq_bad _ h2]; rfl
    by_cases h : c = 61
    · subst h
      match l, hn with
      | [], _ => rw [rq_end]; exact uq_short 61
      | [x], _ => rw [rq_short]; exact uq_nohex [] (.inr hexV_61)
      | x :: y :: m, hn =>
        rw [List.cons_append, List.cons_append, List.cons_append]
        cases hx : hexV x with
        | none => rw [uq_nohex _ (.inl hx), rq_nohex _ (.inl hx)]; rfl
        | some a =>
          cases hy : hexV y with
          | none => rw [uq_nohex _ (.inr hy), rq_nohex _ (.inr hy)]; rfl
          | some b =>
            rw [uq_hex _ hx hy, rq_hex _ hx hy, uq_soft n m (by simp only [List.length_cons] at hn; omega)]
            cases rq m <;> rfl
    · rw [List.cons_append, uq_plain _ h h2, rq_plain _ h h2, uq_soft n l (by omega)]
      cases rq l <;> rfl
theorem uq_hard : ∀ (n : Nat) (l : List UInt8), l.length ≤ n → l.getLast? ≠ some 61 → uq l = (rq l).map (·, false)
  | _, [], _, _ => by simp [uq, rq]
  | n + 1, c :: l, hn, hl => by
    rw [List.length_cons] at hn
    cases h2 : okB c
    · rw [uq_bad _ h2, rq_bad _ h2]; rfl
    by_cases h : c = 61
    · subst h
      match l, hn, hl with
      | [], _, hl => exact absurd rfl hl
      | [x], _, _ => rw [rq_short, uq_short]; rfl
      | x :: y :: m, hn, hl =>
        cases hx : hexV x with
        | none => rw [uq_nohex _ (.inl hx), rq_nohex _ (.inl hx)]; rfl
        | some a =>
          cases hy : hexV y with
          | none => rw [uq_nohex _ (.inr hy), rq_nohex _ (.inr hy)]; rfl
          | some b =>
            have hm : m.getLast? ≠ some 61 := by
              intro e; apply hl
              cases m with
              | nil => cases e
              | cons z m => rw [← e]; simp [List.getLast?_cons_cons]
            rw [uq_hex _ hx hy, rq_hex _ hx hy, uq_hard n m (by simp only [List.length_cons] at hn; omega) hm]
            cases rq m <;> rfl
    · have hm : l.getLast? ≠ some 61 := by
        intro e; apply hl
        cases l with
        | nil => cases e
        | cons z m => rw [← e]; simp [List.getLast?_cons_cons]
      rw [uq_plain _ h h2, rq_plain _ h h2, uq_hard n l (by omega) hm]
      cases rq l <;> rfl
/-- Lines behind one that went on (g) or did not. -/
def decG : Bool → List (List UInt8) → Option (List UInt8)
  | g, [] => if g then none else some []
  | g, l :: ls => match uq l with
    | none => none
    | some x => (decG x.2 ls).map fun t => (if g then [] else [10]) ++ x.1 ++ t
def decQ (ls : List (List UInt8)) : Option (List UInt8) := lim (decG true ls)
theorem decG_none {g : Bool} {l : List UInt8} (ls : List (List UInt8)) (h : uq l = none) : decG g (l :: ls) = none := by rw [decG, h]
theorem decG_some {g : Bool} {l : List UInt8} {x : List UInt8 × Bool} (ls : List (List UInt8)) (h : uq l = some x) : decG g (l :: ls) = (decG x.2 ls).map fun t => (if g then [] else [10]) ++ x.1 ++ t := by rw [decG, h]
theorem decG_false {ls : List (List UInt8)} (h : ls ≠ []) : decG false ls = (decG true ls).map (10 :: ·) := by
  cases ls with
  | nil => exact absurd rfl h
  | cons l ls =>
    cases hu : uq l with
    | none => rw [decG_none _ hu, decG_none _ hu]; rfl
    | some x =>
      rw [decG_some _ hu, decG_some _ hu]
      cases decG x.2 ls <;> rfl
/-- A written form of bytes, whatever is behind it. -/
def WL (line B : List UInt8) : Prop := ∀ m, uq (line ++ m) = (uq m).map (fun r => (B ++ r.1, r.2))
theorem WL.nil : WL [] [] := fun m => by show uq m = _; cases uq m <;> rfl
theorem WL.app {a b A B : List UInt8} (h : WL a A) (k : WL b B) : WL (a ++ b) (A ++ B) := fun m => by
  rw [List.append_assoc, h, k]; cases uq m <;> simp
theorem wl_qb (c : UInt8) (last : Bool) : WL (qb c last) [c] := fun m => by
  unfold qb
  split
  · rename_i h
    have hc : c ≠ 61 ∧ okB c = true := by
      unfold plainB at h; simp only [Bool.or_eq_true, Bool.and_eq_true, decide_eq_true_eq] at h
      rcases h with ⟨⟨h1, h2⟩, h3⟩ | ⟨h1, _⟩
      · exact ⟨h3, by unfold okB; simp; omega⟩
      · subst h1; exact ⟨by decide, by decide⟩
    rw [List.singleton_append, uq_plain _ hc.1 hc.2]; rfl
  · have hc := c.toNat_lt
    show uq (61 :: _ :: _ :: m) = _
    rw [uq_hex m (hexV_hexC_nat _ (by omega)) (hexV_hexC_nat _ (by omega)), byte_of c (by omega)]; rfl
theorem WL.last {l B : List UInt8} (h : WL l B) : uq l = some (B, false) := by
  have := h []; rw [List.append_nil] at this; rw [this]; simp [uq]
theorem WL.soft {l B : List UInt8} (h : WL l B) : uq (l ++ [61]) = some (B, true) := by
  rw [h, uq_end]; simp
theorem decG_qgo : ∀ (l line B : List UInt8) (g : Bool), WL line B → decG g (qgo line l) = some ((if g then [] else [10]) ++ B ++ l)
  | [], line, B, g, h => by rw [qgo_nil, decG_some _ h.last]; simp [decG]
  | c :: l, line, B, g, h => by
    by_cases hc : c = 10
    · subst hc
      rw [qgo_line, decG_some _ h.last, decG_qgo l [] [] false WL.nil]; simp
    · by_cases h2 : 39 < line.length + (qb c (lastB l)).length
      · rw [qgo_full hc h2, decG_some _ h.soft, decG_qgo l _ _ true (wl_qb c (lastB l))]; simp
      · rw [qgo_more hc h2, decG_qgo l _ _ g (h.app (wl_qb c (lastB l)))]; simp
theorem decQ_qgo {b : List UInt8} (h : b.length ≤ 300) : decQ (qgo [] b) = some b := by
  unfold decQ; rw [decG_qgo b [] [] true WL.nil]; exact lim_in h
/-- Each line is a text that is not too wide. -/
theorem qb_ok (c : UInt8) (last : Bool) : ∀ x ∈ qb c last, okB x = true := by
  intro x hx
  unfold qb at hx
  split at hx
  · rename_i h
    simp at hx; subst hx
    unfold plainB at h; simp only [Bool.or_eq_true, Bool.and_eq_true, decide_eq_true_eq] at h
    rcases h with ⟨⟨h1, h2⟩, h3⟩ | ⟨h1, _⟩
    · unfold okB; simp; omega
    · subst h1; decide
  · have hc := c.toNat_lt
    simp only [hexL, List.mem_cons, List.not_mem_nil, or_false] at hx
    rcases hx with rfl | rfl | rfl
    · decide
    · exact (hexC_ok_nat _ (by omega)).1
    · exact (hexC_ok_nat _ (by omega)).1
theorem qgo_wide : ∀ (l line : List UInt8), line.length ≤ 39 → (∀ x ∈ line, okB x = true) → ∀ p ∈ qgo line l, p.length ≤ 40 ∧ ∀ x ∈ p, okB x = true
  | [], line, h, ho, p, hp => by simp [qgo] at hp; subst hp; exact ⟨by omega, ho⟩
  | c :: l, line, h, ho, p, hp => by
    have hq := qb_len c (lastB l)
    have hqo := qb_ok c (lastB l)
    by_cases hc : c = 10
    · subst hc
      rw [qgo_line] at hp
      rcases List.mem_cons.1 hp with e | e
      · subst e; exact ⟨by omega, ho⟩
      · exact qgo_wide l [] (by simp) (by simp) p e
    · by_cases h2 : 39 < line.length + (qb c (lastB l)).length
      · rw [qgo_full hc h2] at hp
        rcases List.mem_cons.1 hp with e | e
        · subst e
          refine ⟨by simp; omega, fun x hx => ?_⟩
          rcases List.mem_append.1 hx with e | e
          · exact ho x e
          · simp at e; subst e; decide
        · exact qgo_wide l _ (by omega) hqo p e
      · rw [qgo_more hc h2] at hp
        refine qgo_wide l _ (by rw [List.length_append]; omega) (fun x hx => ?_) p hp
        rcases List.mem_append.1 hx with e | e
        · exact ho x e
        · exact hqo x e
theorem qgo_text {b p : List UInt8} (h : p ∈ qgo [] b) : isText p = true ∧ p.length ≤ 40 := by
  obtain ⟨h1, h2⟩ := qgo_wide b [] (by simp) (by simp) p h
  refine ⟨?_, h1⟩
  unfold isText
  rw [Bool.and_eq_true]; refine ⟨by simp; omega, List.all_eq_true.2 h2⟩
/-! Plain lines. -/
def plOk (l : List UInt8) : Bool := isText l && decide (l.length ≤ 40)
def encP (b : List UInt8) : Option (List (List UInt8)) := if b.length ≤ 300 ∧ (splitC 10 b).all plOk = true then some (splitC 10 b) else none
def joinNl : List (List UInt8) → List UInt8
  | [] => []
  | [x] => x
  | x :: y :: xs => x ++ 10 :: joinNl (y :: xs)
theorem join_nl : ∀ xs : List (List UInt8), Lib.join xs [10] = joinNl xs
  | [] => rfl
  | [x] => Lib.join_one x _
  | x :: y :: xs => by
    rw [Lib.join_cons]
    show x ++ Lib.joinTail [10] (y :: xs) = x ++ 10 :: joinNl (y :: xs)
    rw [← join_nl (y :: xs), Lib.join_cons]; rfl
def decP (ls : List (List UInt8)) : Option (List UInt8) := if ls ≠ [] ∧ ls.all plOk = true then lim (some (joinNl ls)) else none
theorem joinNl_cons (x : List UInt8) {xs : List (List UInt8)} (h : xs ≠ []) : joinNl (x :: xs) = x ++ 10 :: joinNl xs := by
  cases xs with
  | nil => exact absurd rfl h
  | cons y ys => rfl
theorem join_split : ∀ (n : Nat) (l : List UInt8), l.length ≤ n → joinNl (splitC 10 l) = l
  | n, l, hn => by
    rcases splitC_parts 10 l with ⟨p, h1, h2⟩ | ⟨p, r, h1, h2⟩
    · rw [h1, h2]; rfl
    · match n, hn with
      | 0, hn => rw [h2] at hn; simp at hn
      | n + 1, hn => rw [h1, joinNl_cons _ (splitC_ne 10 r), join_split n r (by rw [h2, List.length_append, List.length_cons] at hn; omega), ← h2]
theorem split_one : ∀ (p : List UInt8), (∀ x ∈ p, x ≠ 10) → splitC 10 p = [p]
  | [], _ => rfl
  | y :: p, h => by rw [splitC_skip p (h y (by simp)), split_one p (fun x hx => h x (by simp [hx]))]; rfl
theorem split_two : ∀ (p l : List UInt8), (∀ x ∈ p, x ≠ 10) → splitC 10 (p ++ 10 :: l) = p :: splitC 10 l
  | [], l, _ => splitC_hit 10 l
  | y :: p, l, h => by rw [List.cons_append, splitC_skip _ (h y (by simp)), split_two p l (fun x hx => h x (by simp [hx]))]; rfl
theorem split_join : ∀ (xs : List (List UInt8)), xs ≠ [] → (∀ p ∈ xs, ∀ x ∈ p, x ≠ 10) → splitC 10 (joinNl xs) = xs
  | [], h, _ => absurd rfl h
  | [x], _, h => split_one x (h x (by simp))
  | x :: y :: xs, _, h => by
    show splitC 10 (x ++ 10 :: joinNl (y :: xs)) = _
    rw [split_two x _ (h x (by simp)), split_join (y :: xs) (by simp) (fun p hp => h p (by simp only [List.mem_cons] at hp ⊢; exact .inr hp))]
theorem plOk_free {p : List UInt8} (h : plOk p = true) : ∀ x ∈ p, x ≠ 10 := by
  intro x hx e
  unfold plOk isText at h
  simp only [Bool.and_eq_true, List.all_eq_true] at h
  have := h.1.2 x hx
  subst e; exact absurd this (by decide)
theorem decP_encP {b : List UInt8} {ls : List (List UInt8)} (h : encP b = some ls) : decP ls = some b ∧ b.length ≤ 300 := by
  unfold encP at h
  split at h
  · rename_i h2
    injection h with h; subst h
    unfold decP
    rw [if_pos ⟨splitC_ne 10 b, h2.2⟩, join_split _ b (Nat.le_refl _), lim_in h2.1]
    exact ⟨rfl, h2.1⟩
  · cases h
theorem encP_decP {b : List UInt8} {ls : List (List UInt8)} (h : decP ls = some b) : encP b = some ls ∧ b.length ≤ 300 := by
  unfold decP at h
  split at h
  · rename_i h2
    obtain ⟨h3, h4⟩ := lim_some h
    injection h3 with h3
    have hs : splitC 10 b = ls := by rw [← h3]; exact split_join ls h2.1 (fun p hp => plOk_free (List.all_eq_true.1 h2.2 p hp))
    refine ⟨?_, h4⟩
    unfold encP
    rw [hs, if_pos ⟨h4, h2.2⟩]
  · cases h
/-! All ways. -/
def encW (b : List UInt8) (code : Int) : Option (List (List UInt8)) := if code = 0 then encP b else if code = 1 then encQ b else if code = 2 then encB b else none
def decW (ls : List (List UInt8)) (code : Int) : Option (List UInt8) := if code = 0 then decP ls else if code = 1 then decQ ls else if code = 2 then decB ls else none
def lenL (ls : List (List UInt8)) : Nat := (ls.map fun l => l.length + 1).sum
def best (b : List UInt8) : Option Nat := if 300 < b.length then none else if (encP b).isSome then some 0 else if lenL (chop (b64 b)) < lenL (qgo [] b) then some 2 else some 1
theorem encB_in {b : List UInt8} (h : b.length ≤ 300) : encB b = some (chop (b64 b)) := by unfold encB; rw [if_pos h]
theorem encB_out {b : List UInt8} (h : 300 < b.length) : encB b = none := by unfold encB; rw [if_neg (by omega)]
theorem encQ_in {b : List UInt8} (h : b.length ≤ 300) : encQ b = some (qgo [] b) := by unfold encQ; rw [if_pos h]
theorem encQ_out {b : List UInt8} (h : 300 < b.length) : encQ b = none := by unfold encQ; rw [if_neg (by omega)]
end Go.Proofs.YtjnpkmenlecdmabDoor
