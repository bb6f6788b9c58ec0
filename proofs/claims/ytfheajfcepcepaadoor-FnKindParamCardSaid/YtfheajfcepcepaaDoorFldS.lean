/-
  Fields: what the model's functions on names and fields return. No statement is proved here.
-/
import Derived.Test.YtfheajfcepcepaaDoorFld
import Derived.Test.YtfheajfcepcepaaDoorParseS
namespace Go.Proofs.YtfheajfcepcepaaDoor
open Go.RowKit

theorem let_gt_nat : ∀ n, n < 256 → nameC (UInt8.ofNat n) = true → letB (UInt8.ofNat n) = decide (57 < n) := by decide +kernel
theorem let_gt {c : UInt8} (h : nameC c = true) : letB c = decide (57 < c.toNat) := by
  have := let_gt_nat c.toNat c.toNat_lt; rw [UInt8.ofNat_toNat] at this; exact this h
theorem isFName_low0 (s : ByteArray) (h : 0 < s.size) (hc : s[0].toNat ≤ 57) : isFName s.data.toList = false := by
  cases hn : nameC s[0]
  · exact isFName_bad s 0 h hn
  · have : headLet s.data.toList = false := by rw [headLet_at s h, let_gt hn]; simp; omega
    unfold isFName; rw [this]; simp
set_option maxRecDepth 100000 in
set_option maxHeartbeats 2000000 in
theorem l3Name_any (s : ByteArray) (w : World) (hs : s.size ≤ 1073741824) :
    Calls Tryd.prog 62 #[.string s] w fun e w' => e = .returned (.bool (isFName s.data.toList)) ∧ w = w' := by
  go_enter Tryd.func62, Tryd.ntmps62
  go_wp2_with fail
  go_loop [3] (fun i => ∃ k : Nat, k ≤ s.size ∧ k ≤ 31 ∧ i = .int .i64 k ∧ ((h : 0 < s.size) → 0 < k → 57 < s[0].toNat) ∧ ∀ j, (h : j < k) → (h' : j < s.size) → nameC s[j] = true) (fun i => s.size - (intOf i).toNat)
  case atStart => exact ⟨0, Nat.zero_le _, by omega, rfl, fun _ h => by omega, fun j h => by omega⟩
  case round =>
    obtain ⟨k, hk, hk2, rfl, h57, hall⟩ := hrel
    have H := Lib.hid hall
    have H57 := Lib.hid h57
    clear hall h57
    by_cases hlt : k < s.size
    · by_cases hl : k ≤ 30
      · have hd : decide ((k : Int) ≤ 30) = true := by simp; omega
        by_cases hn : nameC s[k] = true
        · have HN := Lib.hid hn
          by_cases hk0 : k = 0
          · subst hk0
            by_cases h0 : s[0].toNat ≤ 57
            · have HB := Lib.hid (isFName_low0 s hlt h0)
              have h0' : (s[0].toNat : Int) ≤ 57 := by omega
              cases h1 : alnumB s[0]
              · have h2 : s[0] = 45 := by unfold nameC at hn; rw [h1] at hn; simpa using hn
                have H1 := Lib.hid h1
                have e3 := bneq_f h2 (n := 45) rfl
                clear h1 h2 hn h0
                go_wp2_with fail
                refine (l1Letter_any _ _).mono ?_
                rintro e w1 ⟨rfl, rfl⟩
                rw [H1.out]
                go_wp2
                go_ret
                exact ⟨ret_bool HB.out.symm, rfl⟩
              · have H1 := Lib.hid h1
                clear h1 hn h0
                go_wp2_with fail
                refine (l1Letter_any _ _).mono ?_
                rintro e w1 ⟨rfl, rfl⟩
                rw [H1.out]
                go_wp2
                go_ret
                exact ⟨ret_bool HB.out.symm, rfl⟩
            · have h0' : ¬ ((s[0].toNat : Int) ≤ 57) := by omega
              have H0 : Hid (57 < s[0].toNat) := by show _ < _; omega
              cases h1 : alnumB s[0]
              · have h2 : s[0] = 45 := by unfold nameC at hn; rw [h1] at hn; simpa using hn
                rw [h2] at h0; simp at h0
              · have H1 := Lib.hid h1
                clear h1 hn h0
                go_wp2_with fail
                refine (l1Letter_any _ _).mono ?_
                rintro e w1 ⟨rfl, rfl⟩
                rw [H1.out]
                go_wp2
                go_round
                case rel => exact ⟨1, by omega, by omega, by go_num, fun _ _ => H0.out, fun j h h' => by
                  have e : j = 0 := by omega
                  subst e; exact HN.out⟩
                case measure => simp [intOf]; omega
          · have e0 : ((k : Int) == 0) = false := by rw [beq_eq_false_iff_ne]; omega
            have HS : Hid ((h : 0 < s.size) → 0 < k + 1 → 57 < s[0].toNat) := fun h _ => H57.out h (by omega)
            cases h1 : alnumB s[k]
            · have h2 : s[k] = 45 := by unfold nameC at hn; rw [h1] at hn; simpa using hn
              have H1 := Lib.hid h1
              have e3 := bneq_f h2 (n := 45) rfl
              clear h1 h2 hn hk0
              go_wp2_with fail
              refine (l1Letter_any _ _).mono ?_
              rintro e w1 ⟨rfl, rfl⟩
              rw [H1.out]
              go_wp2
              go_round
              case rel => exact ⟨k + 1, by omega, by omega, by go_num, HS.out, fun j h h' => by
                by_cases e : j = k
                · subst e; exact HN.out
                · exact H.out j (by omega) h'⟩
              case measure => simp [intOf]; omega
            · have H1 := Lib.hid h1
              clear h1 hn hk0
              go_wp2_with fail
              refine (l1Letter_any _ _).mono ?_
              rintro e w1 ⟨rfl, rfl⟩
              rw [H1.out]
              go_wp2
              go_round
              case rel => exact ⟨k + 1, by omega, by omega, by go_num, HS.out, fun j h h' => by
                by_cases e : j = k
                · subst e; exact HN.out
                · exact H.out j (by omega) h'⟩
              case measure => simp [intOf]; omega
        · have hn : nameC s[k] = false := by simpa using hn
          have HB := Lib.hid (isFName_bad s k hlt hn)
          have h1 : alnumB s[k] = false ∧ s[k] ≠ 45 := by unfold nameC at hn; simpa using hn
          have H1 := Lib.hid h1.1
          have e3 := bneq_t h1.2 (n := 45) rfl
          clear h1 hn
          go_wp2_with fail
          refine (l1Letter_any _ _).mono ?_
          rintro e w1 ⟨rfl, rfl⟩
          rw [H1.out]
          go_wp2
          go_ret
          exact ⟨ret_bool HB.out.symm, rfl⟩
      · have hd : decide ((k : Int) ≤ 30) = false := by simp; omega
        have HB := Lib.hid (isFName_size s (.inr (by omega)))
        have d1 : decide ((1 : Int) ≤ s.size) = true := by simp; omega
        have d2 : decide ((s.size : Int) ≤ 30) = false := by simp; omega
        go_wp2
        go_ret
        exact ⟨ret_bool HB.out.symm, rfl⟩
    · by_cases h0 : s.size = 0
      · have HB := Lib.hid (isFName_size s (.inl (by omega)))
        have d1 : decide ((1 : Int) ≤ s.size) = false := by simp; omega
        clear h0
        go_wp2
        go_ret
        exact ⟨ret_bool HB.out.symm, rfl⟩
      · have d1 : decide ((1 : Int) ≤ s.size) = true := by simp; omega
        by_cases h30 : s.size ≤ 30
        · have d2 : decide ((s.size : Int) ≤ 30) = true := by simp; omega
          have HB : Hid (isFName s.data.toList = true) := by
            show _ = _
            rw [isFName_good s (by omega) h30 (fun j h' => H.out j (by omega) h'), let_gt (H.out 0 (by omega) (by omega))]
            have := H57.out (by omega) (by omega)
            simpa using this
          go_wp2
          go_ret
          exact ⟨ret_bool HB.out.symm, rfl⟩
        · have d2 : decide ((s.size : Int) ≤ 30) = false := by simp; omega
          have HB := Lib.hid (isFName_size s (.inr (by omega)))
          go_wp2
          go_ret
          exact ⟨ret_bool HB.out.symm, rfl⟩
end Go.Proofs.YtfheajfcepcepaaDoor
