/-
  Codes of bytes: what the laws of chapter 5 say of the plain functions. No statement is proved here.
-/
import Derived.Test.YtjnpkmenlecdmabDoorCodQ
namespace Go.Proofs.YtjnpkmenlecdmabDoor
open Go.RowKit

/-! Lines of letters are full. -/
theorem chop_width : ∀ (n : Nat) (l : List UInt8), l.length ≤ n → ∀ i, (h : i < (chop l).length) → (i + 1 < (chop l).length → (chop l)[i].length = 40) ∧ (i + 1 = (chop l).length → (chop l)[i].length ≤ 40 ∧ (0 < (chop l)[i].length ↔ 0 < l.length))
  | n, l, hn, i, h => by
    by_cases h40 : 40 < l.length
    · match n, hn with
      | 0, hn => omega
      | n + 1, hn =>
        have hd : (l.drop 40).length = l.length - 40 := List.length_drop
        have ih := chop_width n (l.drop 40) (by omega)
        have hc := chop_long h40
        have hne : 1 ≤ (chop (l.drop 40)).length := by
          by_cases h2 : 40 < (l.drop 40).length
          · rw [chop_long h2]; simp
          · rw [chop_short (by omega)]; simp
        have hl : (chop l).length = (chop (l.drop 40)).length + 1 := by rw [hc]; simp
        match i, h with
        | 0, h =>
          have h0 : (chop l)[0] = l.take 40 := by simp only [hc]; rfl
          rw [h0, List.length_take]
          exact ⟨fun _ => by omega, fun e => by omega⟩
        | i + 1, h =>
          have h1 : (chop l)[i + 1] = (chop (l.drop 40))[i]'(by omega) := by simp only [hc]; rfl
          rw [h1]
          obtain ⟨a, b⟩ := ih i (by omega)
          refine ⟨fun e => a (by omega), fun e => ?_⟩
          obtain ⟨b1, b2⟩ := b (by omega)
          exact ⟨b1, by rw [b2]; omega⟩
    · have hc := chop_short (l := l) (by omega)
      have h0 : i = 0 := by rw [hc] at h; simp at h; exact h
      subst h0
      have h1 : (chop l)[0] = l := by simp only [hc]; rfl
      rw [h1, hc]
      exact ⟨fun e => by simp at e, fun _ => ⟨by omega, Iff.rfl⟩⟩
theorem b64_pos (b : List UInt8) : 0 < (b64 b).length ↔ 0 < b.length := by rw [b64_len]; omega
/-! Plain bytes in quoted lines. -/
def selfB (c : UInt8) : Bool := decide (33 ≤ c.toNat) && decide (c.toNat ≤ 126) && decide (c ≠ 61)
theorem qb_self {c : UInt8} {last : Bool} (h : selfB c = true) : qb c last = [c] := by
  unfold qb plainB; unfold selfB at h; rw [h]; simp
theorem qgo_self : ∀ (l line : List UInt8), line.length + l.length ≤ 39 → (∀ x ∈ l, selfB x = true) → qgo line l = [line ++ l]
  | [], line, _, _ => by simp [qgo]
  | c :: l, line, h, hs => by
    have hc := hs c (by simp)
    have h10 : c ≠ 10 := by intro e; subst e; exact absurd hc (by decide)
    rw [List.length_cons] at h
    rw [qgo_more h10 (by rw [qb_self hc]; simp; omega), qb_self hc, qgo_self l _ (by simp; omega) (fun x hx => hs x (by simp [hx]))]; simp
/-! Newlines and soft breaks. -/
def nls (b : List UInt8) : Nat := b.count 10
def softs (ls : List (List UInt8)) : Nat := ls.countP fun l => decide (l.getLast? = some 61)
theorem qb_last (c : UInt8) (last : Bool) (line : List UInt8) : (line ++ qb c last).getLast? ≠ some 61 ∧ (last = true → (line ++ qb c last).getLast? ≠ some 32) := by
  unfold qb
  split
  · rename_i h
    rw [List.getLast?_append]
    simp only [List.getLast?_singleton, Option.some_or]
    unfold plainB at h; simp only [Bool.or_eq_true, Bool.and_eq_true, decide_eq_true_eq, Bool.not_eq_true'] at h
    rcases h with ⟨⟨h1, h2⟩, h3⟩ | ⟨h1, h2⟩
    · refine ⟨fun e => h3 (Option.some.inj e), fun _ e => ?_⟩
      have := Option.some.inj e
      subst this; exact absurd h1 (by decide)
    · subst h1
      exact ⟨by decide, fun e => by rw [h2] at e; cases e⟩
  · have hc := c.toNat_lt
    have := hexC_ok_nat (c.toNat % 16) (by omega)
    rw [List.getLast?_append]
    simp only [hexL, List.getLast?_cons_cons, List.getLast?_singleton, Option.some_or]
    exact ⟨fun e => this.2.1 (Option.some.inj e), fun _ e => this.2.2 (Option.some.inj e)⟩
theorem qgo_breaks : ∀ (l line : List UInt8), line.getLast? ≠ some 61 → (lastB l = true → line.getLast? ≠ some 32) → (qgo line l).length = nls l + softs (qgo line l) + 1 ∧ ∀ p ∈ qgo line l, p.getLast? ≠ some 32
  | [], line, h, h2 => by
    have h2 := h2 rfl
    rw [qgo_nil]
    refine ⟨?_, fun p hp => by simp at hp; subst hp; exact h2⟩
    simp [nls, softs, h]
  | c :: l, line, h, h2 => by
    by_cases hc : c = 10
    · subst hc
      have h2 := h2 rfl
      obtain ⟨i1, i2⟩ := qgo_breaks l [] (by simp) (by simp)
      rw [qgo_line]
      refine ⟨?_, fun p hp => ?_⟩
      · have e1 : nls (10 :: l) = nls l + 1 := by simp [nls]
        have e2 : softs (line :: qgo [] l) = softs (qgo [] l) := by simp [softs, h]
        rw [List.length_cons, e1, e2, i1]; omega
      · rcases List.mem_cons.1 hp with e | e
        · subst e; exact h2
        · exact i2 p e
    · have e1 : nls (c :: l) = nls l := by simp [nls, hc]
      by_cases h3 : 39 < line.length + (qb c (lastB l)).length
      · have hq := qb_last c (lastB l) []
        rw [List.nil_append] at hq
        obtain ⟨i1, i2⟩ := qgo_breaks l (qb c (lastB l)) hq.1 hq.2
        rw [qgo_full hc h3]
        refine ⟨?_, fun p hp => ?_⟩
        · have e2 : softs ((line ++ [61]) :: qgo (qb c (lastB l)) l) = softs (qgo (qb c (lastB l)) l) + 1 := by simp [softs]
          rw [List.length_cons, e1, e2, i1]; omega
        · rcases List.mem_cons.1 hp with e | e
          · subst e; simp
          · exact i2 p e
      · have hq := qb_last c (lastB l) line
        obtain ⟨i1, i2⟩ := qgo_breaks l (line ++ qb c (lastB l)) hq.1 hq.2
        rw [qgo_more hc h3, e1]
        exact ⟨i1, i2⟩
/-! Soft breaks are nothing; a line more is a newline. -/
theorem decG_soft (ls : List (List UInt8)) : decG true ([61] :: ls) = decG true ls := by
  rw [decG_some _ uq_end]; cases decG true ls <;> rfl
theorem decG_more : ∀ (ls : List (List UInt8)) (g : Bool) (b : List UInt8), decG g ls = some b → decG g (ls ++ [[]]) = some (b ++ [10]) ∨ (ls = [] ∧ g = false)
  | [], g, b, h => by
    cases g
    · exact .inr ⟨rfl, rfl⟩
    · cases h
  | l :: ls, g, b, h => by
    cases hu : uq l with
    | none => rw [decG_none _ hu] at h; cases h
    | some x =>
      rw [decG_some _ hu] at h
      obtain ⟨t, ht, rfl⟩ := Option.map_eq_some_iff.1 h
      left
      rw [List.cons_append, decG_some _ hu]
      rcases decG_more ls x.2 t ht with e | ⟨e1, e2⟩
      · rw [e]; simp
      · subst e1; rw [e2] at ht ⊢
        have : t = [] := by simp [decG] at ht; exact ht
        subst this
        simp [decG, uq]
theorem decG_last {ls : List (List UInt8)} {b : List UInt8} (h : decG true ls = some b) : decG true (ls ++ [[]]) = some (b ++ [10]) := by
  rcases decG_more ls true b h with e | ⟨_, e⟩
  · exact e
  · cases e
/-! Plain lines: one more than newlines. -/
theorem split_count : ∀ (l : List UInt8), (splitC 10 l).length = nls l + 1 ∧ (splitC 10 l).flatten.length + nls l = l.length
  | [] => by simp [splitC, nls]
  | y :: l => by
    obtain ⟨i1, i2⟩ := split_count l
    by_cases hy : y = 10
    · subst hy
      rw [splitC_hit]
      have e1 : nls (10 :: l) = nls l + 1 := by simp [nls]
      rw [e1]
      simp only [List.length_cons, List.flatten_cons, List.nil_append]
      omega
    · have e1 : nls (y :: l) = nls l := by simp [nls, hy]
      rw [splitC_skip l hy, e1]
      cases hs : splitC 10 l with
      | nil => exact absurd hs (splitC_ne 10 l)
      | cons q qs =>
        rw [hs] at i1 i2
        simp only [glue, List.length_cons, List.flatten_cons, List.singleton_append, List.length_append] at i1 i2 ⊢
        omega
end Go.Proofs.YtjnpkmenlecdmabDoor
