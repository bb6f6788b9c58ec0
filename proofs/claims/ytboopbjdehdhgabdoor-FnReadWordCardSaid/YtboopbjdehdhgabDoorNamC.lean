/-
  Coded names: what stands for a byte, and coded words written: what the functions return. No statement is proved here.
-/
import Derived.Test.YtboopbjdehdhgabDoorNamM
import Derived.Test.YtboopbjdehdhgabDoorCodE
import Derived.Test.YtboopbjdehdhgabDoorAtoms
namespace Go.Proofs.YtboopbjdehdhgabDoor
open Go.RowKit

theorem selfC_t {c : UInt8} (h : letB c = true ∨ digB c = true ∨ c = 45 ∨ c = 46) : selfC c = true := by
  unfold selfC; rw [alnum_eq]; simp only [Bool.or_eq_true, decide_eq_true_eq]
  rcases h with h | h | h | h <;> simp [h]
theorem selfC_f {c : UInt8} (h1 : letB c = false) (h2 : digB c = false) (h3 : c ≠ 45) (h4 : c ≠ 46) : selfC c = false := by
  unfold selfC; rw [alnum_eq]; simp [h1, h2, h3, h4]
theorem cb_self {c : UInt8} (h : selfC c = true) : cbB c = [c] := by unfold cbB; rw [if_pos h]
theorem cb_space : cbB 32 = [95] := by decide
theorem cb_hex {c : UInt8} (h : selfC c = false) (h2 : c ≠ 32) : cbB c = hexL c := by unfold cbB; rw [if_neg (by simp [h]), if_neg h2]
set_option maxRecDepth 100000 in
set_option maxHeartbeats 1000000 in
theorem codeByte_any (c : UInt8) (w : World) : Calls Tryd.prog 42 #[.int .u8 c.toNat] w fun e w' => e = .returned (.string (str (cbB c))) ∧ Below w.heap.size w w' := by
  have hcv := conv_oneC w c
  have HS : Hid (selfC c = true → (ByteArray.mk #[c]) = str (cbB c)) := fun h => by rw [cb_self h]; rfl
  have HL := Lib.hid (fun u => isLetter_any c u)
  have HD := Lib.hid (fun u => isDigit_any c u)
  cases hl : letB c
  · rw [hl] at HL
    cases hd : digB c
    · rw [hd] at HD
      by_cases h45 : c = 45
      · have HC := Lib.hid (HS.out (selfC_t (.inr (.inr (.inl h45)))))
        have e45 := beq_t h45 (n := 45) rfl
        clear hl hd h45
        go_enter Tryd.func42, Tryd.ntmps42
        go_wp2_with fail
        refine (HL.out _).mono ?_
        rintro e w1 ⟨rfl, rfl⟩
        go_wp2_with fail
        refine (HD.out _).mono ?_
        rintro e w1 ⟨rfl, rfl⟩
        go_wp2
        go_ret
        exact ⟨ret_str HC.out, (Below.refl _ _).alloc (Nat.le_refl _) _⟩
      · have e45 := beq_f h45 (n := 45) rfl
        by_cases h46 : c = 46
        · have HC := Lib.hid (HS.out (selfC_t (.inr (.inr (.inr h46)))))
          have e46 := beq_t h46 (n := 46) rfl
          clear hl hd h45 h46
          go_enter Tryd.func42, Tryd.ntmps42
          go_wp2_with fail
          refine (HL.out _).mono ?_
          rintro e w1 ⟨rfl, rfl⟩
          go_wp2_with fail
          refine (HD.out _).mono ?_
          rintro e w1 ⟨rfl, rfl⟩
          go_wp2
          go_ret
          exact ⟨ret_str HC.out, (Below.refl _ _).alloc (Nat.le_refl _) _⟩
        · have e46 := beq_f h46 (n := 46) rfl
          have hsf := selfC_f hl hd h45 h46
          by_cases h32 : c = 32
          · have e32 := beq_t h32 (n := 32) rfl
            have HC : Hid ((ByteArray.mk #[95]) = str (cbB c)) := by show _ = _; rw [h32, cb_space]; rfl
            clear hl hd h45 h46 hsf h32 hcv
            go_enter Tryd.func42, Tryd.ntmps42
            go_wp2_with fail
            refine (HL.out _).mono ?_
            rintro e w1 ⟨rfl, rfl⟩
            go_wp2_with fail
            refine (HD.out _).mono ?_
            rintro e w1 ⟨rfl, rfl⟩
            go_wp2
            go_ret
            exact ⟨ret_str HC.out, Below.refl _ _⟩
          · have e32 := beq_f h32 (n := 32) rfl
            have HC := Lib.hid (cb_hex hsf h32)
            clear hl hd h45 h46 hsf h32 hcv
            go_enter Tryd.func42, Tryd.ntmps42
            go_wp2_with fail
            refine (HL.out _).mono ?_
            rintro e w1 ⟨rfl, rfl⟩
            go_wp2_with fail
            refine (HD.out _).mono ?_
            rintro e w1 ⟨rfl, rfl⟩
            go_wp2_with fail
            refine (escapeByte_any c _).mono ?_
            rintro e w1 ⟨rfl, hb1⟩
            go_wp2
            go_ret
            exact ⟨ret_str (by rw [HC.out]), hb1⟩
    · rw [hd] at HD
      have HC := Lib.hid (HS.out (selfC_t (.inr (.inl hd))))
      clear hl hd
      go_enter Tryd.func42, Tryd.ntmps42
      go_wp2_with fail
      refine (HL.out _).mono ?_
      rintro e w1 ⟨rfl, rfl⟩
      go_wp2_with fail
      refine (HD.out _).mono ?_
      rintro e w1 ⟨rfl, rfl⟩
      go_wp2
      go_ret
      exact ⟨ret_str HC.out, (Below.refl _ _).alloc (Nat.le_refl _) _⟩
  · rw [hl] at HL
    have HC := Lib.hid (HS.out (selfC_t (.inl hl)))
    clear hl
    go_enter Tryd.func42, Tryd.ntmps42
    go_wp2_with fail
    refine (HL.out _).mono ?_
    rintro e w1 ⟨rfl, rfl⟩
    go_wp2
    go_ret
    exact ⟨ret_str HC.out, (Below.refl _ _).alloc (Nat.le_refl _) _⟩
theorem room_at (s : ByteArray) (k r : Nat) (h : k < s.size) : room r (s.data.toList.drop k) = if (cbB s[k]).length ≤ r then room (r - (cbB s[k]).length) (s.data.toList.drop (k + 1)) + 1 else 0 := by
  rw [drop_at s k h, room]
set_option maxRecDepth 100000 in
set_option maxHeartbeats 1000000 in
theorem bytesInRoom_any (s : ByteArray) (w : World) (hs : s.size ≤ 1073741824) :
    Calls Tryd.prog 18 #[.string s] w fun e w' => e = .returned (.int .i64 (room 28 s.data.toList)) ∧ Below w.heap.size w w' := by
  go_enter Tryd.func18, Tryd.ntmps18
  go_wp2_with fail
  go_loopw [3, 4] (fun n i wr => ∃ (k L : Nat), k ≤ s.size ∧ i = .int .i64 k ∧ L ≤ 28 ∧ n = .int .i64 L ∧ room 28 s.data.toList = k + room (28 - L) (s.data.toList.drop k) ∧ Below w.heap.size w wr) (fun _ i _ => s.size - (intOf i).toNat)
  case atStart => exact ⟨0, 0, by omega, rfl, by omega, rfl, by simp, Below.refl _ _⟩
  case round =>
    obtain ⟨k, L, hk, rfl, hL, rfl, hg, hb⟩ := hrel
    have HG := Lib.hid hg
    clear hg
    by_cases hlt : k < s.size
    · have HR := Lib.hid (room_at s k (28 - L) hlt)
      obtain ⟨hc1, hc3⟩ := cbB_len s[k]
      have hcz := str_size (cbB s[k])
      have HC := Lib.hid (fun u => codeByte_any s[k] u)
      generalize cbB s[k] = cb at *
      by_cases hf : L + cb.length ≤ 28
      · have HE : Hid (room 28 s.data.toList = (k + 1) + room (28 - (L + cb.length)) (s.data.toList.drop (k + 1))) := by
          show _ = _; rw [HG.out, HR.out, if_pos (by omega), show 28 - L - cb.length = 28 - (L + cb.length) by omega]; omega
        go_wp2_with fail
        refine (HC.out _).mono ?_
        rintro e w1 ⟨rfl, hb1⟩
        have hB := nx hb hb1
        go_wp2
        go_roundw
        case rel => exact ⟨k + 1, L + cb.length, by omega, by go_num, by omega, by go_num, HE.out, hB⟩
        case measure => simp [intOf]; omega
      · have HE : Hid (room 28 s.data.toList = k) := by show _ = _; rw [HG.out, HR.out, if_neg (by omega)]; rfl
        go_wp2_with fail
        refine (HC.out _).mono ?_
        rintro e w1 ⟨rfl, hb1⟩
        go_wp2
        go_ret
        exact ⟨ret_int (by rw [HE.out]), nx hb hb1⟩
    · have HE : Hid (room 28 s.data.toList = s.size) := by show _ = _; rw [HG.out, drop_out s k (by omega)]; simp [room]; omega
      go_wp2
      go_ret
      exact ⟨ret_int (by rw [HE.out]), hb⟩
theorem code_at (s : ByteArray) (k : Nat) (h : k < s.size) : codL (s.data.toList.drop k) = cbB s[k] ++ codL (s.data.toList.drop (k + 1)) := by rw [drop_at s k h, codL_cons]
theorem emp_of {s : ByteArray} : s.toList.isEmpty = decide (s.size = 0) := by
  rw [ByteArray.toList_eq, Bool.eq_iff_iff, List.isEmpty_iff, decide_eq_true_iff, ← List.length_eq_zero_iff, size_list]
theorem list_nil {s : ByteArray} (h : s.size = 0) : s.data.toList = [] := List.length_eq_zero_iff.1 (by rw [size_list]; exact h)
theorem list_ne {s : ByteArray} (h : 0 < s.size) : s.data.toList ≠ [] := fun e => by have := congrArg List.length e; rw [size_list, List.length_nil] at this; omega
set_option maxRecDepth 100000 in
set_option maxHeartbeats 2000000 in
theorem codeWord_any (s : ByteArray) (w : World) (hs : s.size ≤ 1073741000) :
    Calls Tryd.prog 19 #[.string s] w (DecRet (codeW s.data.toList) w) := by
  by_cases h0 : s.size = 0
  · have he : s.toList.isEmpty = true := by rw [emp_of, h0]; rfl
    have HN : Hid (codeW s.data.toList = none) := by show _ = _; rw [list_nil h0, codeW_nil]
    clear h0
    go_enter Tryd.func19, Tryd.ntmps19
    go_wp2
    go_ret2
    exact decRet_none HN.out rfl (Below.refl _ _)
  · have he : s.toList.isEmpty = false := by rw [emp_of, decide_eq_false h0]
    have HLE := Lib.hid (room_le s.data.toList 28)
    have HRA := Lib.hid (room_all s.data.toList 28)
    have HBR := Lib.hid (fun u => bytesInRoom_any s u (by omega))
    have HNE := Lib.hid (list_ne (s := s) (by omega))
    rw [size_list] at HLE HRA
    clear h0
    by_cases hf : room 28 s.data.toList < s.size
    · have HN : Hid (codeW s.data.toList = none) := codeW_out (by
        rcases Nat.lt_or_ge 28 (codL s.data.toList).length with h | h
        · exact h
        · have := HRA.out.2 h; omega)
      generalize room 28 s.data.toList = r at *
      go_enter Tryd.func19, Tryd.ntmps19
      go_wp2_with fail
      refine (HBR.out _).mono ?_
      rintro e w1 ⟨rfl, hb1⟩
      go_wp2
      go_ret2
      exact decRet_none HN.out rfl hb1
    · have hr : room 28 s.data.toList = s.size := by have := HLE.out; omega
      have hcl := HRA.out.1 hr
      have HN : Hid (codeW s.data.toList = some (wordL s.data.toList)) := codeW_in HNE.out hcl
      rw [hr] at HBR
      have hsz : s.size ≤ 28 := by have := (codL_len s.data.toList).1; rw [size_list] at this; omega
      clear hf hr hcl
      go_enter Tryd.func19, Tryd.ntmps19
      go_wp2_with fail
      refine (HBR.out _).mono ?_
      rintro e w1 ⟨rfl, hb1⟩
      go_wp2_with fail
      refine (writeString_any _ _ _ _ _ (bld_fresh w1) (by decide)).mono ?_
      rintro e w2 ⟨rfl, hB2, hb2⟩
      have hW2 : Below w.heap.size w w2 := hb1.trans ((((Below.refl _ _).alloc (Nat.le_refl _) _).trans hb2).mono hb1.size)
      go_wp2_with fail
      go_loopw [5] (fun i wr => ∃ (k : Nat) (acc : List UInt8), k ≤ s.size ∧ i = .int .i64 k ∧ acc.length ≤ 10 + 3 * k ∧ preL ++ codL s.data.toList = acc ++ codL (s.data.toList.drop k) ∧ Bld w1.heap.size w1.heap.size acc wr ∧ Below w.heap.size w wr) (fun i _ => s.size - (intOf i).toNat)
      case atStart => exact ⟨0, preL, by omega, rfl, by decide, rfl, by simpa [preL] using hB2, hW2⟩
      case round =>
        obtain ⟨k, acc, hk, rfl, hal, hg, hB, hb⟩ := hrel
        have HG := Lib.hid hg
        clear hg
        by_cases hlt : k < s.size
        · have HE : Hid (preL ++ codL s.data.toList = (acc ++ cbB s[k]) ++ codL (s.data.toList.drop (k + 1))) := by show _ = _; rw [HG.out, code_at s k hlt]; simp
          have hc3 := (cbB_len s[k]).2
          have hcz := str_size (cbB s[k])
          have HSL := Lib.hid (str_list (cbB s[k]))
          have HC := Lib.hid (fun u => codeByte_any s[k] u)
          generalize cbB s[k] = cb at *
          go_wp2_with fail
          refine (HC.out _).mono ?_
          rintro e w3 ⟨rfl, hb3⟩
          go_wp2_with fail
          refine (writeString_any _ _ _ (str cb) _ (hB.keep hb3) (by omega)).mono ?_
          rintro e w4 ⟨rfl, hB4, hb4⟩
          rw [HSL.out] at hB4
          have hb14 : Below w.heap.size w w4 := (nx hb hb3).trans (hb4.mono hb1.size)
          go_wp2
          go_roundw
          case rel => exact ⟨k + 1, _, by omega, by go_num, by rw [List.length_append]; omega, HE.out, hB4, hb14⟩
          case measure => simp [intOf]; omega
        · have HE : Hid (preL ++ codL s.data.toList = acc) := by show _ = _; rw [HG.out, drop_out s k (by omega)]; simp [codL]
          go_wp2_with fail
          refine (writeString_any _ _ _ (ByteArray.mk #[63, 61]) _ hB (by show _ + 2 ≤ _; omega)).mono ?_
          rintro e w5 ⟨rfl, hB5, hb5⟩
          have hb15 : Below w.heap.size w w5 := hb.trans (hb5.mono hb1.size)
          go_wp2_with fail
          refine (bString_any _ _ _ _ hB5).mono ?_
          rintro e w6 ⟨rfl, hb6⟩
          go_wp2
          go_ret2
          exact decRet_some HN.out (by unfold wordL; rw [← HE.out]; simp [sufL]) (hb15.trans (hb6.mono hb1.size))
theorem l6Byte_any (c : UInt8) (w : World) : Calls Tryd.prog 46 #[.int .u8 c.toNat] w fun e w' => e = .returned (.string (str (cbB c))) ∧ Below w.heap.size w w' := by
  have hcv := conv_oneC w c
  have HS : Hid (selfC c = true → (ByteArray.mk #[c]) = str (cbB c)) := fun h => by rw [cb_self h]; rfl
  have HL := Lib.hid (fun u => l1Letter_any c u)
  by_cases h32 : c = 32
  · have e32 := beq_t h32 (n := 32) rfl
    have HC : Hid ((ByteArray.mk #[95]) = str (cbB c)) := by show _ = _; rw [h32, cb_space]; rfl
    clear h32 hcv
    go_enter Tryd.func46, Tryd.ntmps46
    go_wp2
    go_ret
    exact ⟨ret_str HC.out, Below.refl _ _⟩
  · have e32 := beq_f h32 (n := 32) rfl
    cases hl : alnumB c
    · rw [hl] at HL
      by_cases h45 : c = 45
      · have HC := Lib.hid (HS.out (selfC_t (.inr (.inr (.inl h45)))))
        have e45 := beq_t h45 (n := 45) rfl
        clear hl h45 h32
        go_enter Tryd.func46, Tryd.ntmps46
        go_wp2_with fail
        refine (HL.out _).mono ?_
        rintro e w1 ⟨rfl, rfl⟩
        go_wp2
        go_ret
        exact ⟨ret_str HC.out, (Below.refl _ _).alloc (Nat.le_refl _) _⟩
      · have e45 := beq_f h45 (n := 45) rfl
        by_cases h46 : c = 46
        · have HC := Lib.hid (HS.out (selfC_t (.inr (.inr (.inr h46)))))
          have e46 := beq_t h46 (n := 46) rfl
          clear hl h45 h46 h32
          go_enter Tryd.func46, Tryd.ntmps46
          go_wp2_with fail
          refine (HL.out _).mono ?_
          rintro e w1 ⟨rfl, rfl⟩
          go_wp2
          go_ret
          exact ⟨ret_str HC.out, (Below.refl _ _).alloc (Nat.le_refl _) _⟩
        · have e46 := beq_f h46 (n := 46) rfl
          have hsf : selfC c = false := by unfold selfC; simp [hl, h45, h46]
          have HC := Lib.hid (cb_hex hsf h32)
          clear hl h45 h46 hsf h32 hcv
          go_enter Tryd.func46, Tryd.ntmps46
          go_wp2_with fail
          refine (HL.out _).mono ?_
          rintro e w1 ⟨rfl, rfl⟩
          go_wp2_with fail
          refine (l5Hex_any c _).mono ?_
          rintro e w1 ⟨rfl, hb1⟩
          go_wp2
          go_ret
          exact ⟨ret_str (by rw [HC.out]), hb1⟩
    · rw [hl] at HL
      have HC : Hid (ByteArray.mk #[c] = str (cbB c)) := HS.out (by unfold selfC; rw [hl]; rfl)
      clear hl h32
      go_enter Tryd.func46, Tryd.ntmps46
      go_wp2_with fail
      refine (HL.out _).mono ?_
      rintro e w1 ⟨rfl, rfl⟩
      go_wp2
      go_ret
      exact ⟨ret_str HC.out, (Below.refl _ _).alloc (Nat.le_refl _) _⟩
theorem code_atS (s : ByteArray) (k : Nat) (h : k < s.size) : codL (s.data.toList.drop k) = cbB s[k] ++ codL (s.data.toList.drop (k + 1)) := by rw [drop_at s k h, codL_cons]
set_option maxRecDepth 100000 in
set_option maxHeartbeats 1000000 in
theorem l6Code_any (s : ByteArray) (w : World) (hs : s.size ≤ 1000000) :
    Calls Tryd.prog 22 #[.string s] w fun e w' => e = .returned (.string (str (codL s.data.toList))) ∧ Below w.heap.size w w' := by
  go_enter Tryd.func22, Tryd.ntmps22
  go_wp2_with fail
  go_loopw [3, 4] (fun o i wr => ∃ (k : Nat) (acc : List UInt8), k ≤ s.size ∧ i = .int .i64 k ∧ o = .string (str acc) ∧ acc.length ≤ 3 * k ∧ codL s.data.toList = acc ++ codL (s.data.toList.drop k) ∧ Below w.heap.size w wr) (fun _ i _ => s.size - (intOf i).toNat)
  case atStart => exact ⟨0, [], by omega, rfl, rfl, by simp, rfl, Below.refl _ _⟩
  case round =>
    obtain ⟨k, acc, hk, rfl, rfl, hal, hg, hb⟩ := hrel
    have HG := Lib.hid hg
    have HB := Lib.hid hb
    clear hg hb
    by_cases hlt : k < s.size
    · have HE : Hid (codL s.data.toList = (acc ++ cbB s[k]) ++ codL (s.data.toList.drop (k + 1))) := by show _ = _; rw [HG.out, code_atS s k hlt]; simp
      have hc3 := (cbB_len s[k]).2
      have hcz := str_size (cbB s[k])
      have haz := str_size acc
      have HC := Lib.hid (fun u => l6Byte_any s[k] u)
      generalize cbB s[k] = cb at *
      go_wp2_with fail
      refine (HC.out _).mono ?_
      rintro e w9 ⟨rfl, hbx⟩
      have hB2 := nx HB.out hbx
      go_wp2
      go_roundw
      case rel => exact ⟨k + 1, acc ++ cb, by omega, by go_num, by rw [← str_app], by rw [List.length_append]; omega, HE.out, hB2⟩
      case measure => simp [intOf]; omega
    · have HE : Hid (codL s.data.toList = acc) := by show _ = _; rw [HG.out, drop_out s k (by omega)]; simp [codL]
      go_wp2
      go_ret
      exact ⟨ret_str (by rw [HE.out]), HB.out⟩
set_option maxRecDepth 100000 in
set_option maxHeartbeats 1000000 in
theorem codeWordS_any (s : ByteArray) (w : World) (hs : s.size ≤ 1073741000) :
    Calls Tryd.prog 23 #[.string s] w (DecRet (codeW s.data.toList) w) := by
  have hln := codL_len s.data.toList
  rw [size_list] at hln
  by_cases h0 : s.size < 1
  · have HN : Hid (codeW s.data.toList = none) := by show _ = _; rw [list_nil (by omega), codeW_nil]
    clear hln
    go_enter Tryd.func23, Tryd.ntmps23
    go_wp2
    go_ret2
    exact decRet_none HN.out rfl (Below.refl _ _)
  · by_cases h40 : 40 < s.size
    · have HN := Lib.hid (codeW_out (l := s.data.toList) (by omega))
      clear hln
      go_enter Tryd.func23, Tryd.ntmps23
      go_wp2
      go_ret2
      exact decRet_none HN.out rfl (Below.refl _ _)
    · have HNE := Lib.hid (list_ne (s := s) (by omega))
      have HLC := Lib.hid (fun u => l6Code_any s u (by omega))
      have HW : Hid (ByteArray.mk #[61, 63, 117, 116, 102, 45, 56, 63, 113, 63] ++ str (codL s.data.toList) ++ ByteArray.mk #[63, 61] = str (wordL s.data.toList)) := by
        show str preL ++ str _ ++ str sufL = _
        rw [str_app, str_app]; unfold wordL; rw [List.append_assoc]
      have hz1 : (ByteArray.mk #[61, 63, 117, 116, 102, 45, 56, 63, 113, 63]).size = 10 := rfl
      have hz2 : (ByteArray.mk #[63, 61]).size = 2 := rfl
      have hzc := str_size (codL s.data.toList)
      have HCI := Lib.hid (fun h => codeW_in (l := s.data.toList) HNE.out h)
      have HCO := Lib.hid (fun h => codeW_out (l := s.data.toList) h)
      generalize hcc : codL s.data.toList = cc at *
      clear hcc
      have hap : (ByteArray.mk #[61, 63, 117, 116, 102, 45, 56, 63, 113, 63] ++ str cc).size = 10 + (str cc).size := by rw [ByteArray.size_append, hz1]
      have hap2 : (ByteArray.mk #[61, 63, 117, 116, 102, 45, 56, 63, 113, 63] ++ str cc ++ ByteArray.mk #[63, 61]).size = 10 + (str cc).size + 2 := by rw [ByteArray.size_append, hap, hz2]
      by_cases hf : cc.length ≤ 28
      · go_enter Tryd.func23, Tryd.ntmps23
        go_wp2_with fail
        refine (HLC.out _).mono ?_
        rintro e w1 ⟨rfl, hb1⟩
        go_wp2
        go_ret2
        exact decRet_some (HCI.out hf) HW.out hb1
      · go_enter Tryd.func23, Tryd.ntmps23
        go_wp2_with fail
        refine (HLC.out _).mono ?_
        rintro e w1 ⟨rfl, hb1⟩
        go_wp2
        go_ret2
        exact decRet_none (HCO.out (by omega)) rfl hb1
end Go.Proofs.YtboopbjdehdhgabDoor
