/-
  Addresses, read: what the program's functions return. No statement is proved here.
-/
import Derived.Test.YtbfjbabpeigloabDoorAddr2
import Derived.Test.YtbfjbabpeigloabDoorAdrV
import Derived.Lib.Join
import Derived.Lib.TrimByte
namespace Go.Proofs.YtbfjbabpeigloabDoor
open Go.RowKit

/-! Trimming. -/
theorem trimF_app : ∀ (m k : List UInt8), trimF m ≠ [] → trimF (m ++ k) = trimF m ++ k
  | [], _, h => absurd rfl h
  | x :: m, k, h => by
    by_cases hx : x = 32
    · subst hx; rw [List.cons_append, trimF_space, trimF_space]; rw [trimF_space] at h; exact trimF_app m k h
    · rw [List.cons_append, trimF_ne _ hx, trimF_ne _ hx]; rfl
theorem trim_swap : ∀ l : List UInt8, trimF (trimF l.reverse).reverse = (trimF (trimF l).reverse).reverse
  | [] => rfl
  | x :: l => by
    by_cases hx : x = 32
    · subst hx
      rw [trimF_space, ← trim_swap l, List.reverse_cons]
      by_cases hn : trimF l.reverse = []
      · have h1 := (trimF_nil _).1 hn
        have h2 : trimF (l.reverse ++ [32]) = [] := (trimF_nil _).2 (fun y hy => by
          rcases List.mem_append.1 hy with h | h
          · exact h1 y h
          · exact List.mem_singleton.1 h)
        rw [h2, hn]
      · rw [trimF_app _ _ hn, List.reverse_append]; exact trimF_space _
    · rw [trimF_ne l hx, List.reverse_cons]
      have key : ∀ m : List UInt8, ∃ p, trimF (m ++ [x]) = p ++ [x] := fun m => by
        by_cases hn : trimF m = []
        · refine ⟨[], ?_⟩
          have h1 := (trimF_nil _).1 hn
          have : ∀ k : List UInt8, (∀ y ∈ k, y = 32) → trimF (k ++ [x]) = [x] := by
            intro k
            induction k with
            | nil => intro _; exact trimF_ne [] hx
            | cons y k ih =>
              intro hk
              rw [hk y (by simp), List.cons_append, trimF_space]
              exact ih (fun z hz => hk z (by simp [hz]))
          exact this m h1
        · exact ⟨_, trimF_app _ _ hn⟩
      obtain ⟨p, hp⟩ := key l.reverse
      rw [hp, List.reverse_append]
      show trimF (x :: p.reverse) = x :: p.reverse
      exact trimF_ne _ hx
theorem isText_sub {l k : List UInt8} (h : isText l = true) (hk : ∀ x ∈ k, x ∈ l) (hl : k.length ≤ l.length) : isText k = true :=
  isText_mk (fun x hx => isText_byte h (hk x hx)) (by have := text_len h; omega)
end Go.Proofs.YtbfjbabpeigloabDoor
