/-
  Codes of bytes: quoted lines written: what the program's functions return. No statement is proved here.
-/
import Derived.Test.YtboopbjdehdhgabDoorCodR
import Derived.Test.YtboopbjdehdhgabDoorRowL
import Derived.Test.YtboopbjdehdhgabDoorQuietB
import Derived.RegionTactic
import Derived.ChangeAlike
import Derived.Outline
namespace Go.Proofs.YtboopbjdehdhgabDoor
open Go.RowKit

theorem hex_at {n : Nat} (h : n < 16) (h' : n < (ByteArray.mk #[48, 49, 50, 51, 52, 53, 54, 55, 56, 57, 65, 66, 67, 68, 69, 70]).size) : (ByteArray.mk #[48, 49, 50, 51, 52, 53, 54, 55, 56, 57, 65, 66, 67, 68, 69, 70])[n] = hexC n := by
  have key : ∀ n, (h : n < 16) → (ByteArray.mk #[48, 49, 50, 51, 52, 53, 54, 55, 56, 57, 65, 66, 67, 68, 69, 70])[n]'h = hexC n := by decide +kernel
  exact key n h
theorem plainB_t {c : UInt8} {last : Bool} (h : (33 ≤ c.toNat ∧ c.toNat ≤ 126 ∧ c ≠ 61) ∨ (c = 32 ∧ last = false)) : plainB c last = true := by
  unfold plainB; simp only [Bool.or_eq_true, Bool.and_eq_true, decide_eq_true_eq, Bool.not_eq_true']
  rcases h with ⟨a, b, c⟩ | h
  · exact .inl ⟨⟨a, b⟩, c⟩
  · exact .inr h
theorem plainB_f {c : UInt8} {last : Bool} (h : ¬ ((33 ≤ c.toNat ∧ c.toNat ≤ 126 ∧ c ≠ 61) ∨ (c = 32 ∧ last = false))) : plainB c last = false := by
  cases hp : plainB c last
  · rfl
  · exfalso; apply h
    unfold plainB at hp; simp only [Bool.or_eq_true, Bool.and_eq_true, decide_eq_true_eq, Bool.not_eq_true'] at hp
    rcases hp with ⟨⟨a, b⟩, c⟩ | h
    · exact .inl ⟨a, b, c⟩
    · exact .inr h
theorem conv_oneC (w : World) (c : UInt8) : (convert 22 9 (.slice (some ⟨w.heap.size, 0, none⟩) 1 1)).run Tryd.prog (w.alloc (.cells #[.int .u8 c.toNat] 5)) = .ok (.string ⟨#[c]⟩) (w.alloc (.cells #[.int .u8 c.toNat] 5)) :=
  run_convert_bytes_back (P := Tryd.prog) (w.alloc (.cells #[.int .u8 (c.toNat : Int)] 5)) 22 9 5 ⟨w.heap.size, 0, none⟩ 1 [c] Tryd.underlying22 Tryd.underlying5 Tryd.underlying9 (fun j hj => by
    obtain rfl : j = 0 := by simpa using hj
    rw [add0, World.cell?_alloc_at _ _ _ _ rfl]; rfl)
theorem conv_threeC (w : World) (l : List UInt8) (h3 : l.length = 3) {x y z : Int} (hc : Lib.byteCells l = [.int .u8 x, .int .u8 y, .int .u8 z]) : (convert 22 9 (.slice (some ⟨w.heap.size, 0, none⟩) 3 3)).run Tryd.prog (w.alloc (.cells #[.int .u8 x, .int .u8 y, .int .u8 z] 5)).drew = .ok (.string (str l)) (w.alloc (.cells #[.int .u8 x, .int .u8 y, .int .u8 z] 5)).drew := by
  have := run_convert_bytes_back (P := Tryd.prog) (w.alloc (.cells #[.int .u8 x, .int .u8 y, .int .u8 z] 5)).drew 22 9 5 ⟨w.heap.size, 0, none⟩ 3 l Tryd.underlying22 Tryd.underlying5 Tryd.underlying9 (fun j hj => by
    show (w.alloc _).cell? _ = _
    rw [add0, World.cell?_alloc_at _ _ _ _ rfl]
    have h2 : (Lib.byteCells l)[j]? = some (.int .u8 (l[j].toNat : Int)) := by simp [Lib.byteCells, hj]
    rw [hc] at h2
    rw [← h2]
    simp)
  rw [h3] at this
  exact this
theorem escapeByte_any (c : UInt8) (w : World) : Calls Tryd.prog 60 #[.int .u8 c.toNat] w fun e w' => e = .returned (.string (str (hexL c))) ∧ Below w.heap.size w w' := by
  have hc := c.toNat_lt
  have HCV : Hid (∀ x y : Int, x = ((hexC (c.toNat / 16)).toNat : Int) → y = ((hexC (c.toNat % 16)).toNat : Int) → (convert 22 9 (.slice (some ⟨w.heap.size, 0, none⟩) 3 3)).run Tryd.prog (w.alloc (.cells #[.int .u8 61, .int .u8 x, .int .u8 y] 5)).drew = .ok (.string (str (hexL c))) (w.alloc (.cells #[.int .u8 61, .int .u8 x, .int .u8 y] 5)).drew) :=
    fun x y hx hy => conv_threeC w (hexL c) rfl (by subst hx hy; rfl)
  have hcv := HCV.out _ _ (by rw [← hex_at (show c.toNat / 16 < 16 by omega) (by show _ < 16; omega)]) (by rw [← hex_at (show c.toNat % 16 < 16 by omega) (by show _ < 16; omega)])
  have b1 : (c.toNat : Int) / 16 < 16 := by omega
  have b2 : 0 ≤ (c.toNat : Int) / 16 := by omega
  have b3 : (c.toNat : Int) % 16 < 16 := by omega
  have b4 : 0 ≤ (c.toNat : Int) % 16 := by omega
  have b5 : IntKind.u8.wrap ((c.toNat : Int) / 16) = (c.toNat : Int) / 16 := IntWalk.u8_in _ (by omega)
  have b6 : IntKind.u8.wrap ((c.toNat : Int) % 16) = (c.toNat : Int) % 16 := IntWalk.u8_in _ (by omega)
  go_enter Tryd.func60, Tryd.ntmps60
  go_wp2
  go_region
  all_goals
    go_wp2
    go_ret
    exact ⟨rfl, ((Below.refl _ _).alloc (Nat.le_refl _) _).drew⟩
theorem hexD_ext {n : Nat} (h : n < 16) : (ByteArray.mk #[48, 49, 50, 51, 52, 53, 54, 55, 56, 57, 65, 66, 67, 68, 69, 70]).extract n (n + 1) = str [hexC n] := by
  have key : ∀ n, n < 16 → ((ByteArray.mk #[48, 49, 50, 51, 52, 53, 54, 55, 56, 57, 65, 66, 67, 68, 69, 70]).extract n (n + 1)).data.toList = [hexC n] := by decide +kernel
  apply bytes_ext; rw [key n h, str_list]
theorem l5Hex_any (c : UInt8) (w : World) : Calls Tryd.prog 63 #[.int .u8 c.toNat] w fun e w' => e = .returned (.string (str (hexL c))) ∧ Below w.heap.size w w' := by
  have hc := c.toNat_lt
  have HX : Hid ((ByteArray.mk #[61]) ++ (ByteArray.mk #[48, 49, 50, 51, 52, 53, 54, 55, 56, 57, 65, 66, 67, 68, 69, 70]).extract (c.toNat / 16) (c.toNat / 16 + 1) ++ (ByteArray.mk #[48, 49, 50, 51, 52, 53, 54, 55, 56, 57, 65, 66, 67, 68, 69, 70]).extract (c.toNat % 16) (c.toNat % 16 + 1) = str (hexL c)) := by
    show _ = _
    rw [hexD_ext (by omega), hexD_ext (by omega), show (ByteArray.mk #[61]) = str [61] from rfl, str_app, str_app]; rfl
  have hz : (ByteArray.mk #[48, 49, 50, 51, 52, 53, 54, 55, 56, 57, 65, 66, 67, 68, 69, 70]).size = 16 := rfl
  have hz1 : (ByteArray.mk #[61]).size = 1 := rfl
  have b1 : (c.toNat : Int) / 16 < 16 := by omega
  have b2 : 0 ≤ (c.toNat : Int) / 16 := by omega
  have b3 : (c.toNat : Int) % 16 < 16 := by omega
  have b4 : 0 ≤ (c.toNat : Int) % 16 := by omega
  have b7 : bits .and .u8 (c.toNat : Int) 15 = (c.toNat : Int) % 16 := bits_mask .u8 8 (by decide) wraps_u8 4 (by decide) _ (by omega) (by omega)
  go_enter Tryd.func63, Tryd.ntmps63
  go_wp2
  go_quiet (fail)
  go_wp2
  go_ret
  exact ⟨ret_str HX.out, below_drewN (Below.refl _ _) _⟩
end Go.Proofs.YtboopbjdehdhgabDoor
