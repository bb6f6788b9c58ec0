/-
  Parts between boundaries: what the model's functions return. No statement is proved here.
-/
import Derived.Test.YtdoclfbfhlgejacDoorPart
namespace Go.Proofs.YtdoclfbfhlgejacDoor
open Go.RowKit

set_option maxRecDepth 100000 in
set_option maxHeartbeats 2000000 in
theorem l7Boundary_any (s : ByteArray) (w : World) (hs : s.size ≤ 1073741824) :
    Calls Tryd.prog 30 #[.string s] w fun e w' => e = .returned (.bool (isBnd s.data.toList)) ∧ w = w' := by
  go_enter Tryd.func30, Tryd.ntmps30
  go_wp2_with fail
  go_loop [3] (fun i => ∃ k : Nat, k ≤ s.size ∧ i = .int .i64 k ∧ ∀ j, (h : j < k) → (h' : j < s.size) → alnumB s[j] = true) (fun i => s.size - (intOf i).toNat)
  case atStart => exact ⟨0, Nat.zero_le _, rfl, fun j h => by omega⟩
  case round =>
    obtain ⟨k, hk, rfl, hall⟩ := hrel
    have H := Lib.hid hall
    clear hall
    by_cases hlt : k < s.size
    · by_cases h20 : k ≤ 20
      · have d0 : decide ((k : Int) ≤ 20) = true := by simp; omega
        cases h1 : alnumB s[k]
        · have HN := Lib.hid (isBnd_bad s k hlt h1)
          have H1 := Lib.hid h1
          clear h1
          go_wp2_with fail
          refine (l1Letter_any _ _).mono ?_
          rintro e w1 ⟨rfl, rfl⟩
          rw [H1.out]
          go_wp2
          go_ret
          exact ⟨ret_bool HN.out.symm, rfl⟩
        · have H1 := Lib.hid h1
          clear h1
          go_wp2_with fail
          refine (l1Letter_any _ _).mono ?_
          rintro e w1 ⟨rfl, rfl⟩
          rw [H1.out]
          go_wp2
          go_round
          case rel => exact ⟨k + 1, by omega, by go_num, fun j h h' => by
            by_cases e : j = k
            · subst e; exact H1.out
            · exact H.out j (by omega) h'⟩
          case measure => simp [intOf]; omega
      · have d0 : decide ((k : Int) ≤ 20) = false := by simp; omega
        have HN := Lib.hid (isBnd_len s (.inr (by omega)))
        have d1 : decide ((1 : Int) ≤ (s.size : Int)) = true := by simp; omega
        have d2 : decide ((s.size : Int) ≤ 20) = false := by simp; omega
        go_wp2
        go_ret
        exact ⟨ret_bool HN.out.symm, rfl⟩
    · by_cases h0 : s.size = 0
      · have HN := Lib.hid (isBnd_len s (.inl (by omega)))
        have d1 : decide ((1 : Int) ≤ (s.size : Int)) = false := by simp; omega
        go_wp2
        go_ret
        exact ⟨ret_bool HN.out.symm, rfl⟩
      · have d1 : decide ((1 : Int) ≤ (s.size : Int)) = true := by simp; omega
        by_cases h20 : s.size ≤ 20
        · have HN := Lib.hid (isBnd_good s (by omega) h20 (fun j h' => H.out j (by omega) h'))
          have d2 : decide ((s.size : Int) ≤ 20) = true := by simp; omega
          go_wp2
          go_ret
          exact ⟨ret_bool HN.out.symm, rfl⟩
        · have HN := Lib.hid (isBnd_len s (.inr (by omega)))
          have d2 : decide ((s.size : Int) ≤ 20) = false := by simp; omega
          go_wp2
          go_ret
          exact ⟨ret_bool HN.out.symm, rfl⟩
end Go.Proofs.YtdoclfbfhlgejacDoor
