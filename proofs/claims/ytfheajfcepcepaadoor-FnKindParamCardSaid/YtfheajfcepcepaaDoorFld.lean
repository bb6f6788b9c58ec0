/-
  Fields: what the program's functions on names and fields return. No statement is proved here.
-/
import Derived.Test.YtfheajfcepcepaaDoorFldV
import Derived.Test.YtfheajfcepcepaaDoorParse
import Derived.Deep.QuietTactic
import Derived.BigQuiet
namespace Go.Proofs.YtfheajfcepcepaaDoor
open Go.RowKit

theorem nameC_eq (c : UInt8) : nameC c = (letB c || digB c || decide (c = 45)) := by unfold nameC; rw [alnum_eq]
theorem isFName_bad (s : ByteArray) (k : Nat) (hk : k < s.size) (h : nameC s[k] = false) : isFName s.data.toList = false := by
  have hm : s[k] ∈ s.data.toList := by simp [ByteArray.getElem_eq_getElem_data]
  have : s.data.toList.all nameC = false := by rw [List.all_eq_false]; exact ⟨_, hm, by simp [h]⟩
  unfold isFName; rw [this]; simp
theorem isFName_size (s : ByteArray) (h : s.size < 1 ∨ 30 < s.size) : isFName s.data.toList = false := by
  unfold isFName; rw [size_list]
  rcases h with h | h
  · rw [decide_eq_false (by omega)]; rfl
  · rw [decide_eq_false (p := s.size ≤ 30) (by omega)]; simp
theorem headLet_at (s : ByteArray) (h : 0 < s.size) : headLet s.data.toList = letB s[0] := by
  have hl := size_list s
  have e : s[0] = s.data.toList[0]'(by rw [hl]; exact h) := rfl
  rw [e]
  have key : ∀ (l : List UInt8) (hl : 0 < l.length), headLet l = letB l[0] := fun l hl => by
    match l, hl with
    | c :: cs, _ => rfl
  exact key _ _
theorem isFName_good (s : ByteArray) (h0 : 0 < s.size) (h1 : s.size ≤ 30) (h : ∀ j, (h' : j < s.size) → nameC s[j] = true) : isFName s.data.toList = letB s[0] := by
  have hall : s.data.toList.all nameC = true := by
    rw [List.all_eq_true]; intro x hx
    obtain ⟨j, hj, rfl⟩ := List.getElem_of_mem hx
    exact h j hj
  unfold isFName
  rw [size_list, hall, headLet_at s h0, decide_eq_true (by omega), decide_eq_true h1]; simp
set_option maxRecDepth 100000 in
set_option maxHeartbeats 2000000 in
theorem nameValid_any (s : ByteArray) (w : World) (hs : s.size ≤ 1073741824) :
    Calls Tryd.prog 61 #[.string s] w fun e w' => e = .returned (.bool (isFName s.data.toList)) ∧ w = w' := by
  go_enter Tryd.func61, Tryd.ntmps61
  go_wp2_with fail
  go_loop [3] (fun i => ∃ k : Nat, k ≤ s.size ∧ i = .int .i64 k ∧ ∀ j, (h : j < k) → (h' : j < s.size) → nameC s[j] = true) (fun i => s.size - (intOf i).toNat)
  case atStart => exact ⟨0, Nat.zero_le _, rfl, fun j h => by omega⟩
  case round =>
    obtain ⟨k, hk, rfl, hall⟩ := hrel
    have H := Lib.hid hall
    clear hall
    by_cases hlt : k < s.size
    · cases h1 : letB s[k]
      · cases h2 : digB s[k]
        · by_cases h3 : s[k] = 45
          · have HN : Hid (nameC s[k] = true) := by show _ = _; rw [nameC_eq, h3]; decide
            have H1 := Lib.hid h1
            have H2 := Lib.hid h2
            have e3 := bneq_f h3 (n := 45) rfl
            clear h1 h2 h3
            go_wp2_with fail
            refine (isLetter_any _ _).mono ?_
            rintro e w1 ⟨rfl, rfl⟩
            rw [H1.out]
            go_wp2_with fail
            refine (isDigit_any _ _).mono ?_
            rintro e w1 ⟨rfl, rfl⟩
            rw [H2.out]
            go_wp2
            go_round
            case rel => exact ⟨k + 1, by omega, by go_num, fun j h h' => by
              by_cases e : j = k
              · subst e; exact HN.out
              · exact H.out j (by omega) h'⟩
            case measure => simp [intOf]; omega
          · have HN := Lib.hid (isFName_bad s k hlt (by rw [nameC_eq, h1, h2]; simp [h3]))
            have H1 := Lib.hid h1
            have H2 := Lib.hid h2
            have e3 := bneq_t h3 (n := 45) rfl
            clear h1 h2 h3
            go_wp2_with fail
            refine (isLetter_any _ _).mono ?_
            rintro e w1 ⟨rfl, rfl⟩
            rw [H1.out]
            go_wp2_with fail
            refine (isDigit_any _ _).mono ?_
            rintro e w1 ⟨rfl, rfl⟩
            rw [H2.out]
            go_wp2
            go_ret
            exact ⟨ret_bool HN.out.symm, rfl⟩
        · have HN : Hid (nameC s[k] = true) := by show _ = _; rw [nameC_eq, h2]; simp
          have H1 := Lib.hid h1
          have H2 := Lib.hid h2
          clear h1 h2
          go_wp2_with fail
          refine (isLetter_any _ _).mono ?_
          rintro e w1 ⟨rfl, rfl⟩
          rw [H1.out]
          go_wp2_with fail
          refine (isDigit_any _ _).mono ?_
          rintro e w1 ⟨rfl, rfl⟩
          rw [H2.out]
          go_wp2
          go_round
          case rel => exact ⟨k + 1, by omega, by go_num, fun j h h' => by
            by_cases e : j = k
            · subst e; exact HN.out
            · exact H.out j (by omega) h'⟩
          case measure => simp [intOf]; omega
      · have HN : Hid (nameC s[k] = true) := by show _ = _; rw [nameC_eq, h1]; simp
        have H1 := Lib.hid h1
        clear h1
        go_wp2_with fail
        refine (isLetter_any _ _).mono ?_
        rintro e w1 ⟨rfl, rfl⟩
        rw [H1.out]
        go_wp2
        go_round
        case rel => exact ⟨k + 1, by omega, by go_num, fun j h h' => by
          by_cases e : j = k
          · subst e; exact HN.out
          · exact H.out j (by omega) h'⟩
        case measure => simp [intOf]; omega
    · by_cases h0 : s.size = 0
      · have HN := Lib.hid (isFName_size s (.inl (by omega)))
        have he := empty_t h0
        have H0 := Lib.hid h0
        clear h0
        go_wp2
        go_ret
        exact ⟨ret_bool HN.out.symm, rfl⟩
      · have he := empty_f (s := s) (by omega)
        by_cases h30 : s.size ≤ 30
        · have HN := Lib.hid (isFName_good s (by omega) h30 (fun j h' => H.out j (by omega) h'))
          have hp : 0 < s.size := by omega
          have d1 : decide ((s.size : Int) ≤ 30) = true := by simp; omega
          go_wp2_with fail
          refine (isLetter_any _ _).mono ?_
          rintro e w1 ⟨rfl, rfl⟩
          go_wp2
          go_ret
          exact ⟨ret_bool HN.out.symm, rfl⟩
        · have HN := Lib.hid (isFName_size s (.inr (by omega)))
          have d1 : decide ((s.size : Int) ≤ 30) = false := by simp; omega
          go_wp2
          go_ret
          exact ⟨ret_bool HN.out.symm, rfl⟩
end Go.Proofs.YtfheajfcepcepaaDoor
