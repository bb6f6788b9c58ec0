/-
  Addresses, read: what the program's functions return. No statement is proved here.
-/
import Derived.Test.YtfheajfcepcepaaDoorAddr2
import Derived.Test.YtfheajfcepcepaaDoorAdrV
import Derived.Lib.Join
import Derived.Lib.TrimByte
namespace Go.Proofs.YtfheajfcepcepaaDoor
open Go.RowKit

/-! Trimming. -/
theorem trimF_app : ∀ (m k : List UInt8), trimF m ≠ [] → trimF (m ++ k) = trimF m ++ k
  | [], _, h => absurd rfl h
  | x :: m, k, h => by
    by_cases hx : x = 32
    · subst hx; rw [List.cons_append, trimF_space, trimF_space]; rw [trimF_space] at h; exact trimF_app m k h
    · rw [List.cons_append, trimF_ne _ hx, trimF_ne _ hx]; rfl
theorem trim_swap : ∀ l : List UInt8, trimF (trimF l.reverse).reverse = (trimF (trimF l).reverse).reverse
  | [] => rfl
  | x :: l => by
    by_cases hx : x = 32
    · subst hx
      rw [trimF_space, ← trim_swap l, List.reverse_cons]
      by_cases hn : trimF l.reverse = []
      · have h1 := (trimF_nil _).1 hn
        have h2 : trimF (l.reverse ++ [32]) = [] := (trimF_nil _).2 (fun y hy => by
          rcases List.mem_append.1 hy with h | h
          · exact h1 y h
          · exact List.mem_singleton.1 h)
        rw [h2, hn]
      · rw [trimF_app _ _ hn, List.reverse_append]; exact trimF_space _
    · rw [trimF_ne l hx, List.reverse_cons]
      have key : ∀ m : List UInt8, ∃ p, trimF (m ++ [x]) = p ++ [x] := fun m => by
        by_cases hn : trimF m = []
        · refine ⟨[], ?_⟩
          have h1 := (trimF_nil _).1 hn
          have : ∀ k : List UInt8, (∀ y ∈ k, y = 32) → trimF (k ++ [x]) = [x] := by
            intro k
            induction k with
            | nil => intro _; exact trimF_ne [] hx
            | cons y k ih =>
              intro hk
              rw [hk y (by simp), List.cons_append, trimF_space]
              exact ih (fun z hz => hk z (by simp [hz]))
          exact this m h1
        · exact ⟨_, trimF_app _ _ hn⟩
      obtain ⟨p, hp⟩ := key l.reverse
      rw [hp, List.reverse_append]
      show trimF (x :: p.reverse) = x :: p.reverse
      exact trimF_ne _ hx
theorem isText_sub {l k : List UInt8} (h : isText l = true) (hk : ∀ x ∈ k, x ∈ l) (hl : k.length ≤ l.length) : isText k = true :=
  isText_mk (fun x hx => isText_byte h (hk x hx)) (by have := text_len h; omega)
theorem trim_any (s : ByteArray) (w : World) (hs : s.size ≤ 1073741824) :
    Calls Tryd.prog 37 #[.string s, .string ⟨#[32]⟩] w fun e w' => e = .returned (.string (str (trimS s.data.toList))) ∧ Below w.heap.size w w' := by
  refine (Tryd.strings_Trim_one s 32 (by decide) w (by omega)).mono ?_
  rintro e w' ⟨rfl, hw⟩
  refine ⟨ret_str ?_, ?_⟩
  · show str _ = str _
    congr 1
    exact trim_swap s.data.toList
  · rcases hw with rfl | rfl
    · exact Below.refl _ _
    · exact (Below.refl _ _).drew
/-! Joining. -/
theorem join_spaced : ∀ xs : List (List UInt8), Lib.join xs [32] = spaced xs
  | [] => rfl
  | [x] => Lib.join_one x _
  | x :: y :: xs => by
    rw [Lib.join_cons]
    show x ++ Lib.joinTail [32] (y :: xs) = x ++ 32 :: spaced (y :: xs)
    rw [← join_spaced (y :: xs), Lib.join_cons]; rfl
theorem join_comma : ∀ xs : List (List UInt8), Lib.join xs [44, 32] = joinC xs
  | [] => rfl
  | [x] => Lib.join_one x _
  | x :: y :: xs => by
    rw [Lib.join_cons]
    show x ++ Lib.joinTail [44, 32] (y :: xs) = x ++ 44 :: 32 :: joinC (y :: xs)
    rw [← join_comma (y :: xs), Lib.join_cons]; rfl
theorem spaced_len (M : Nat) : ∀ xs : List (List UInt8), (∀ x ∈ xs, x.length ≤ M) → (spaced xs).length ≤ xs.length * (M + 1)
  | [], _ => by simp [spaced]
  | [x], h => by have := h x (by simp); simp [spaced]; omega
  | x :: y :: xs, h => by
    have ih := spaced_len M (y :: xs) (fun z hz => h z (by simp only [List.mem_cons] at hz ⊢; exact .inr hz))
    have := h x (by simp)
    show (x ++ 32 :: spaced (y :: xs)).length ≤ (xs.length + 1 + 1) * (M + 1)
    rw [List.length_append, List.length_cons, Nat.add_mul]
    rw [List.length_cons] at ih; omega
theorem joinC_len (M : Nat) : ∀ xs : List (List UInt8), (∀ x ∈ xs, x.length ≤ M) → (joinC xs).length ≤ xs.length * (M + 2)
  | [], _ => by simp [joinC]
  | [x], h => by have := h x (by simp); simp [joinC]; omega
  | x :: y :: xs, h => by
    have ih := joinC_len M (y :: xs) (fun z hz => h z (by simp only [List.mem_cons] at hz ⊢; exact .inr hz))
    have := h x (by simp)
    show (x ++ 44 :: 32 :: joinC (y :: xs)).length ≤ (xs.length + 1 + 1) * (M + 2)
    rw [List.length_append, List.length_cons, List.length_cons, Nat.add_mul]
    rw [List.length_cons] at ih; omega
end Go.Proofs.YtfheajfcepcepaaDoor
