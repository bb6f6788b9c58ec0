/-
  Lists of strings in the exact laws: their sizes, copies and comparisons. No statement is proved here.
-/
import Derived.Test.YtdoclfbfhlgejacDoorDraw2
import Derived.Deep.QuietTactic
import Derived.BigQuiet
import Derived.Deep.RegionWith
namespace Go.Proofs.YtdoclfbfhlgejacDoor
open Go.RowKit

def dg : Nat → Nat → List UInt8 → List UInt8
  | 0, _, acc => acc
  | f + 1, k, acc => if k = 0 then acc else dg f (k / 10) (UInt8.ofNat (48 + k % 10) :: acc)
theorem dg_zero (f : Nat) (acc : List UInt8) : dg f 0 acc = acc := by cases f <;> simp [dg]
theorem dg_step {f k : Nat} (hk : 0 < k) (hf : k < f) (acc : List UInt8) : dg f k acc = dg (f - 1) (k / 10) (UInt8.ofNat (48 + k % 10) :: acc) := by
  match f, hf with
  | f + 1, _ => rw [dg, if_neg (by omega)]; rfl
/-- The mark of a number. -/
def markT (k : Nat) : ByteArray := str (109 :: dg (k + 1) k [])
def mT (k : Nat) : List UInt8 := 109 :: dg (k + 1) k []
theorem mT_eq (k : Nat) : markT k = str (mT k) := rfl
set_option maxRecDepth 100000 in
set_option maxHeartbeats 2000000 in
theorem markText_any (k : Nat) (w : World) (hk0 : 0 < k) (hk : k ≤ 1073741824) :
    Calls Tryd.prog 81 #[.int .i64 k] w fun e w' => e = .returned (.string (markT k)) ∧ Below w.heap.size w w' := by
  go_enter Tryd.func81, Tryd.ntmps81
  go_wp2_with fail
  go_loopw [0, 3] (fun i v wr => ∃ (m f : Nat) (o : ByteArray), i = .int .i64 m ∧ v = .string o ∧ m < f ∧ o.size + m ≤ k ∧ dg f m o.data.toList = dg (k + 1) k [] ∧ Below w.heap.size w wr) (fun i _ _ => (intOf i).toNat)
  case atStart => exact ⟨k, k + 1, _, rfl, rfl, by omega, (by show 0 + k ≤ k; omega), rfl, Below.refl _ _⟩
  case round =>
    obtain ⟨m, f, o, rfl, rfl, hmf, hos, hdg, hb⟩ := hrel
    have HD := Lib.hid hdg
    clear hdg
    by_cases hm : 0 < m
    · have HN : Hid (dg (f - 1) (m / 10) (UInt8.ofNat (48 + m % 10) :: o.data.toList) = dg (k + 1) k []) := by show _ = _; rw [← HD.out, dg_step hm hmf]
      have hcv := conv_one wr (UInt8.ofNat (48 + m % 10)) (n := (48 : Int) + (m : Int) % 10) (by rw [UInt8.toNat_ofNat_of_lt' (by show _ < 256; omega)]; omega)
      have q1 : 0 ≤ (m : Int) % 10 := Int.emod_nonneg _ (by omega)
      have q2 : (m : Int) % 10 < 10 := Int.emod_lt_of_pos _ (by omega)
      generalize UInt8.ofNat (48 + m % 10) = ch at *
      have hz1 : (ByteArray.mk #[ch]).size = 1 := rfl
      go_wp2
      go_roundw
      case rel => exact ⟨m / 10, f - 1, _, by go_num, rfl, by omega, by rw [ByteArray.size_append, hz1]; omega, by rw [Joins.data_append]; exact HN.out, hb.alloc hb.size _⟩
      case measure => simp [intOf]; omega
    · have hm0 : m = 0 := by omega
      subst hm0
      have HE : Hid (o.data.toList = dg (k + 1) k []) := by show _ = _; rw [← HD.out, dg_zero]
      have hz1 : (ByteArray.mk #[109]).size = 1 := rfl
      clear hm
      go_wp2
      go_ret
      exact ⟨ret_str (bytes_ext (by rw [Joins.data_append, HE.out]; unfold markT; rw [str_list]; rfl)), hb⟩
end Go.Proofs.YtdoclfbfhlgejacDoor
