/-
  Codes of bytes: quoted lines written: what the program's functions return. No statement is proved here.
-/
import Derived.Test.YtdaoeoociamdnabCodR
import Derived.Test.YtdaoeoociamdnabRowL
import Derived.Test.YtdaoeoociamdnabQuietB
import Derived.RegionTactic
import Derived.ChangeAlike
import Derived.Outline
namespace Go.Proofs.Ytdaoeoociamdnab
open Go.RowKit

theorem hex_at {n : Nat} (h : n < 16) (h' : n < (ByteArray.mk #[48, 49, 50, 51, 52, 53, 54, 55, 56, 57, 65, 66, 67, 68, 69, 70]).size) : (ByteArray.mk #[48, 49, 50, 51, 52, 53, 54, 55, 56, 57, 65, 66, 67, 68, 69, 70])[n] = hexC n := by
  have key : ∀ n, (h : n < 16) → (ByteArray.mk #[48, 49, 50, 51, 52, 53, 54, 55, 56, 57, 65, 66, 67, 68, 69, 70])[n]'h = hexC n := by decide +kernel
  exact key n h
theorem plainB_t {c : UInt8} {last : Bool} (h : (33 ≤ c.toNat ∧ c.toNat ≤ 126 ∧ c ≠ 61) ∨ (c = 32 ∧ last = false)) : plainB c last = true := by
  unfold plainB; simp only [Bool.or_eq_true, Bool.and_eq_true, decide_eq_true_eq, Bool.not_eq_true']
  rcases h with ⟨a, b, c⟩ | h
  · exact .inl ⟨⟨a, b⟩, c⟩
  · exact .inr h
theorem plainB_f {c : UInt8} {last : Bool} (h : ¬ ((33 ≤ c.toNat ∧ c.toNat ≤ 126 ∧ c ≠ 61) ∨ (c = 32 ∧ last = false))) : plainB c last = false := by
  cases hp : plainB c last
  · rfl
  · exfalso; apply h
    unfold plainB at hp; simp only [Bool.or_eq_true, Bool.and_eq_true, decide_eq_true_eq, Bool.not_eq_true'] at hp
    rcases hp with ⟨⟨a, b⟩, c⟩ | h
    · exact .inl ⟨a, b, c⟩
    · exact .inr h
theorem conv_oneC (w : World) (c : UInt8) : (convert 41 9 (.slice (some ⟨w.heap.size, 0, none⟩) 1 1)).run Try.prog (w.alloc (.cells #[.int .u8 c.toNat] 5)) = .ok (.string ⟨#[c]⟩) (w.alloc (.cells #[.int .u8 c.toNat] 5)) :=
  run_convert_bytes_back (P := Try.prog) (w.alloc (.cells #[.int .u8 (c.toNat : Int)] 5)) 41 9 5 ⟨w.heap.size, 0, none⟩ 1 [c] Try.underlying41 Try.underlying5 Try.underlying9 (fun j hj => by
    obtain rfl : j = 0 := by simpa using hj
    rw [add0, World.cell?_alloc_at _ _ _ _ rfl]; rfl)
end Go.Proofs.Ytdaoeoociamdnab
