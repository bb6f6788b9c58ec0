/-
  Quoted words: what the program's functions return. No statement is proved here.
-/
import Derived.Test.YtjnpkmenlecdmabDoorQuoteM
import Derived.Test.YtjnpkmenlecdmabDoorBuilder
import Derived.Lib.Strings
import Derived.Lib.SmallJoins
namespace Go.Proofs.YtjnpkmenlecdmabDoor
open Go.RowKit

theorem take_snoc (s : ByteArray) (k : Nat) (h : k < s.size) : s.data.toList.take (k + 1) = s.data.toList.take k ++ [s[k]] := by
  rw [List.take_succ_eq_append_getElem (by rw [size_list]; exact h)]; rfl
theorem take_all (s : ByteArray) : s.data.toList.take s.size = s.data.toList := List.take_of_length_le (by rw [size_list]; exact Nat.le_refl _)
theorem drop_at (s : ByteArray) (k : Nat) (h : k < s.size) : s.data.toList.drop k = s[k] :: s.data.toList.drop (k + 1) := by
  rw [List.drop_eq_getElem_cons (by rw [size_list]; exact h)]; rfl
theorem drop_out (s : ByteArray) (k : Nat) (h : s.size ≤ k) : s.data.toList.drop k = [] := List.drop_eq_nil_of_le (by rw [size_list]; exact h)
theorem beq_t {c d : UInt8} (h : c = d) {n : Int} (hn : (d.toNat : Int) = n) : ((c.toNat : Int) == n) = true := by rw [h, hn]; simp
theorem beq_f {c d : UInt8} (h : c ≠ d) {n : Int} (hn : (d.toNat : Int) = n) : ((c.toNat : Int) == n) = false := by
  rw [beq_eq_false_iff_ne, ← hn]; intro e; exact h (UInt8.toNat_inj.1 (by omega))
theorem conv_one (w : World) (c : UInt8) {n : Int} (hn : (c.toNat : Int) = n) : (convert 31 9 (.slice (some ⟨w.heap.size, 0, none⟩) 1 1)).run Tryd.prog (w.alloc (.cells #[.int .u8 n] 5)) = .ok (.string ⟨#[c]⟩) (w.alloc (.cells #[.int .u8 n] 5)) := by
  subst hn
  exact run_convert_bytes_back (P := Tryd.prog) (w.alloc (.cells #[.int .u8 (c.toNat : Int)] 5)) 31 9 5 ⟨w.heap.size, 0, none⟩ 1 [c] Tryd.underlying31 Tryd.underlying5 Tryd.underlying9 (fun j hj => by
    obtain rfl : j = 0 := by simpa using hj
    rw [add0, World.cell?_alloc_at _ _ _ _ rfl]; rfl)
set_option maxRecDepth 100000 in
set_option maxHeartbeats 4000000 in
theorem quoteWord_any (s : ByteArray) (w : World) (ht : Tab w) (hs : s.size ≤ 1073741824) :
    Calls Tryd.prog 46 #[.string s] w fun e w' => e = .returned (.string (str (quoteW s.data.toList))) ∧ Below w.heap.size w w' := by
  cases htx : isText s.data.toList
  · have HQ := Lib.hid (quoteW_none htx)
    have HX := Lib.hid htx
    clear htx
    go_enter Tryd.func46, Tryd.ntmps46
    go_wp2_with fail
    refine (textValid_any s _ (by unfold maxLen; omega)).mono ?_
    rintro e w1 ⟨rfl, rfl⟩
    rw [HX.out]
    go_wp2
    go_ret
    exact ⟨ret_str (by rw [HQ.out]; rfl), Below.refl _ _⟩
  · cases hat : isAtom s.data.toList
    · have HQ := Lib.hid (quoteW_quoted htx hat)
      have HX := Lib.hid htx
      have HA := Lib.hid hat
      clear htx hat
      go_enter Tryd.func46, Tryd.ntmps46
      go_wp2_with fail
      refine (textValid_any s _ (by unfold maxLen; omega)).mono ?_
      rintro e w1 ⟨rfl, rfl⟩
      rw [HX.out]
      go_wp2_with fail
      refine (atomValid_any s _ ht (by unfold maxLen; omega)).mono ?_
      rintro e w1 ⟨rfl, hb1⟩
      rw [HA.out]
      go_wp2_with fail
      refine (writeByte_any w1.heap.size w1.heap.size [] 34 _ (bld_fresh w1) (by simp)).mono ?_
      rintro e w2 ⟨rfl, hB2, hb2⟩
      have hb12 : Below w1.heap.size w1 w2 := ((Below.refl _ _).alloc (Nat.le_refl _) _).trans hb2
      clear hb2
      go_wp2_with fail
      go_loopw [4] (fun i wr => ∃ k : Nat, k ≤ s.size ∧ i = .int .i64 k ∧ Below w1.heap.size w1 wr ∧ Bld w1.heap.size w1.heap.size (34 :: escL (s.data.toList.take k)) wr) (fun i _ => s.size - (intOf i).toNat)
      case atStart => exact ⟨0, Nat.zero_le _, rfl, hb12, hB2⟩
      case round =>
        obtain ⟨k, hk, rfl, hb, hB⟩ := hrel
        by_cases hlt : k < s.size
        · have HLN : Hid ((34 :: escL (s.data.toList.take k)).length ≤ 2 * s.size + 1) := by
            show _ ≤ _
            have := escL_len (s.data.toList.take k)
            have := List.length_take_le k s.data.toList
            simp only [List.length_cons]; omega
          have HSN : Hid (escL (s.data.toList.take (k + 1)) = escL (s.data.toList.take k) ++ esc s[k]) := by show _ = _; rw [take_snoc s k hlt, escL_snoc]
          by_cases h1 : s[k] = 34 ∨ s[k] = 92
          · have HE : Hid (34 :: escL (s.data.toList.take (k + 1)) = (34 :: escL (s.data.toList.take k)) ++ [92] ++ [s[k]]) := by
              show _ = _
              rw [HSN.out]; unfold esc; rw [if_pos h1]; simp
            by_cases h2 : s[k] = 34
            · have e1 := beq_t h2 (n := 34) rfl
              clear h1 h2
              go_wp2_with fail
              refine (writeByte_any _ _ _ 92 _ hB (by have := HLN.out; omega)).mono ?_
              rintro e w3 ⟨rfl, hB3, hb3⟩
              go_wp2_with fail
              refine (writeByte_any _ _ _ s[k] _ hB3 (by have := HLN.out; simp only [List.length_append, List.length_singleton]; omega)).mono ?_
              rintro e w4 ⟨rfl, hB4, hb4⟩
              go_wp2
              go_roundw
              case rel => exact ⟨k + 1, by omega, by go_num, hb.trans (hb3.trans hb4), by rw [HE.out]; exact hB4⟩
              case measure => simp [intOf]; omega
            · have e1 := beq_f h2 (n := 34) rfl
              have e2 := beq_t (h1.resolve_left h2) (n := 92) rfl
              clear h1 h2
              go_wp2_with fail
              refine (writeByte_any _ _ _ 92 _ hB (by have := HLN.out; omega)).mono ?_
              rintro e w3 ⟨rfl, hB3, hb3⟩
              go_wp2_with fail
              refine (writeByte_any _ _ _ s[k] _ hB3 (by have := HLN.out; simp only [List.length_append, List.length_singleton]; omega)).mono ?_
              rintro e w4 ⟨rfl, hB4, hb4⟩
              go_wp2
              go_roundw
              case rel => exact ⟨k + 1, by omega, by go_num, hb.trans (hb3.trans hb4), by rw [HE.out]; exact hB4⟩
              case measure => simp [intOf]; omega
          · have HE : Hid (34 :: escL (s.data.toList.take (k + 1)) = (34 :: escL (s.data.toList.take k)) ++ [s[k]]) := by
              show _ = _
              rw [HSN.out]; unfold esc; rw [if_neg h1]; simp
            have e1 := beq_f (fun e => h1 (.inl e)) (n := 34) rfl
            have e2 := beq_f (fun e => h1 (.inr e)) (n := 92) rfl
            clear h1
            go_wp2_with fail
            refine (writeByte_any _ _ _ s[k] _ hB (by have := HLN.out; omega)).mono ?_
            rintro e w4 ⟨rfl, hB4, hb4⟩
            go_wp2
            go_roundw
            case rel => exact ⟨k + 1, by omega, by go_num, hb.trans hb4, by rw [HE.out]; exact hB4⟩
            case measure => simp [intOf]; omega
        · have hks : k = s.size := by omega
          subst hks
          have hln := (escL_len s.data.toList).2
          rw [size_list] at hln
          rw [take_all] at hB
          have HE : Hid (34 :: (escL s.data.toList ++ [34]) = quoteW s.data.toList) := by show _ = _; rw [HQ.out]; rfl
          go_wp2_with fail
          refine (writeByte_any _ _ _ 34 _ hB (by simp only [List.length_cons]; omega)).mono ?_
          rintro e w4 ⟨rfl, hB4, hb4⟩
          go_wp2_with fail
          refine (bString_any _ _ _ _ hB4).mono ?_
          rintro e w5 ⟨rfl, hb5⟩
          go_wp2
          go_ret
          exact ⟨ret_str (by rw [HE.out]), nx hb1 (hb.trans (hb4.trans hb5))⟩
    · have HQ := Lib.hid (quoteW_atom hat)
      have HX := Lib.hid htx
      have HA := Lib.hid hat
      clear htx hat
      go_enter Tryd.func46, Tryd.ntmps46
      go_wp2_with fail
      refine (textValid_any s _ (by unfold maxLen; omega)).mono ?_
      rintro e w1 ⟨rfl, rfl⟩
      rw [HX.out]
      go_wp2_with fail
      refine (atomValid_any s _ ht (by unfold maxLen; omega)).mono ?_
      rintro e w1 ⟨rfl, hb1⟩
      rw [HA.out]
      go_wp2
      go_ret
      exact ⟨ret_str (by rw [HQ.out, str_of]), hb1⟩
set_option maxRecDepth 100000 in
set_option maxHeartbeats 4000000 in
theorem l1Quote_any (s : ByteArray) (w : World) (hs : s.size ≤ 1073741824) :
    Calls Tryd.prog 74 #[.string s] w fun e w' => e = .returned (.string (str (quoted s.data.toList))) ∧ Below w.heap.size w w' := by
  go_enter Tryd.func74, Tryd.ntmps74
  go_wp2_with fail
  go_loopw [3, 4] (fun v i wr => ∃ (k : Nat) (o : ByteArray), k ≤ s.size ∧ i = .int .i64 k ∧ v = .string o ∧ o.size ≤ 2 * k + 1 ∧ o.data.toList = 34 :: escL (s.data.toList.take k) ∧ Below w.heap.size w wr) (fun _ i _ => s.size - (intOf i).toNat)
  case atStart => exact ⟨0, _, Nat.zero_le _, rfl, rfl, by decide, rfl, Below.refl _ _⟩
  case round =>
    obtain ⟨k, o, hk, rfl, rfl, ho, hl, hb⟩ := hrel
    have HL := Lib.hid hl
    clear hl
    by_cases hlt : k < s.size
    · have HSN : Hid (escL (s.data.toList.take (k + 1)) = escL (s.data.toList.take k) ++ esc s[k]) := by show _ = _; rw [take_snoc s k hlt, escL_snoc]
      have HX : Hid ((s.extract k (k + 1)).data.toList = [s[k]]) := by
        show _ = _
        rw [Lib.extract_data, drop_at s k hlt]; simp
      have hx1 : (s.extract k (k + 1)).size = 1 := by rw [← size_list, HX.out]; rfl
      have hcv := conv_one wr 92 (n := 92) rfl
      have hs1 : (ByteArray.mk #[92]).size = 1 := rfl
      by_cases h1 : s[k] = 34 ∨ s[k] = 92
      · have HE : Hid (34 :: escL (s.data.toList.take (k + 1)) = (34 :: escL (s.data.toList.take k)) ++ [92] ++ [s[k]]) := by
          show _ = _
          rw [HSN.out]; unfold esc; rw [if_pos h1]; simp
        by_cases h2 : s[k] = 34
        · have e1 := beq_t h2 (n := 34) rfl
          clear h1 h2
          go_wp2
          go_roundw
          case rel => exact ⟨k + 1, _, by omega, by go_num, rfl, by rw [ByteArray.size_append, ByteArray.size_append, hx1, hs1]; omega, by rw [Joins.data_append, Joins.data_append, HL.out, HX.out, HE.out], hb.alloc hb.size _⟩
          case measure => simp [intOf]; omega
        · have e1 := beq_f h2 (n := 34) rfl
          have e2 := beq_t (h1.resolve_left h2) (n := 92) rfl
          clear h1 h2
          go_wp2
          go_roundw
          case rel => exact ⟨k + 1, _, by omega, by go_num, rfl, by rw [ByteArray.size_append, ByteArray.size_append, hx1, hs1]; omega, by rw [Joins.data_append, Joins.data_append, HL.out, HX.out, HE.out], hb.alloc hb.size _⟩
          case measure => simp [intOf]; omega
      · have HE : Hid (34 :: escL (s.data.toList.take (k + 1)) = (34 :: escL (s.data.toList.take k)) ++ [s[k]]) := by
          show _ = _
          rw [HSN.out]; unfold esc; rw [if_neg h1]; simp
        have e1 := beq_f (fun e => h1 (.inl e)) (n := 34) rfl
        have e2 := beq_f (fun e => h1 (.inr e)) (n := 92) rfl
        clear h1
        go_wp2
        go_roundw
        case rel => exact ⟨k + 1, _, by omega, by go_num, rfl, by rw [ByteArray.size_append, hx1]; omega, by rw [Joins.data_append, HL.out, HX.out, HE.out], hb⟩
        case measure => simp [intOf]; omega
    · have hks : k = s.size := by omega
      subst hks
      have hs1 : (ByteArray.mk #[34]).size = 1 := rfl
      go_wp2
      go_ret
      refine ⟨ret_str (bytes_ext ?_), hb⟩
      rw [Joins.data_append, HL.out, take_all, str_list]; rfl
set_option maxRecDepth 100000 in
set_option maxHeartbeats 1000000 in
theorem quoteWordS_any (s : ByteArray) (w : World) (hs : s.size ≤ 1073741824) :
    Calls Tryd.prog 43 #[.string s] w fun e w' => e = .returned (.string (str (quoteW s.data.toList))) ∧ Below w.heap.size w w' := by
  cases htx : isText s.data.toList
  · have HQ := Lib.hid (quoteW_none htx)
    have HX := Lib.hid htx
    clear htx
    go_enter Tryd.func43, Tryd.ntmps43
    go_wp2_with fail
    refine (textValidS_any s _ (by unfold maxLen; omega)).mono ?_
    rintro e w1 ⟨rfl, rfl⟩
    rw [HX.out]
    go_wp2
    go_ret
    exact ⟨ret_str (by rw [HQ.out]; rfl), Below.refl _ _⟩
  · cases hat : isAtom s.data.toList
    · have HQ := Lib.hid (quoteW_quoted htx hat)
      have HX := Lib.hid htx
      have HA := Lib.hid hat
      clear htx hat
      go_enter Tryd.func43, Tryd.ntmps43
      go_wp2_with fail
      refine (textValidS_any s _ (by unfold maxLen; omega)).mono ?_
      rintro e w1 ⟨rfl, rfl⟩
      rw [HX.out]
      go_wp2_with fail
      refine (atomValidS_any s _ (by unfold maxLen; omega)).mono ?_
      rintro e w1 ⟨rfl, rfl⟩
      rw [HA.out]
      go_wp2_with fail
      refine (l1Quote_any s _ hs).mono ?_
      rintro e w1 ⟨rfl, hb1⟩
      go_wp2
      go_ret
      exact ⟨ret_str (by rw [HQ.out]), hb1⟩
    · have HQ := Lib.hid (quoteW_atom hat)
      have HX := Lib.hid htx
      have HA := Lib.hid hat
      clear htx hat
      go_enter Tryd.func43, Tryd.ntmps43
      go_wp2_with fail
      refine (textValidS_any s _ (by unfold maxLen; omega)).mono ?_
      rintro e w1 ⟨rfl, rfl⟩
      rw [HX.out]
      go_wp2_with fail
      refine (atomValidS_any s _ (by unfold maxLen; omega)).mono ?_
      rintro e w1 ⟨rfl, rfl⟩
      rw [HA.out]
      go_wp2
      go_ret
      exact ⟨ret_str (by rw [HQ.out, str_of]), Below.refl _ _⟩
end Go.Proofs.YtjnpkmenlecdmabDoor
