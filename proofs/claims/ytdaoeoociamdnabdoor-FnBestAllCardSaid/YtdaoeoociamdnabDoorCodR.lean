/-
  Codes of bytes: letters read: what the program's functions return. No statement is proved here.
-/
import Derived.Test.YtdaoeoociamdnabDoorCodL
import Derived.Deep.QuietTactic
import Derived.BigQuiet
import Derived.Test.YtdaoeoociamdnabDoorShelf
namespace Go.Proofs.YtdaoeoociamdnabDoor
open Go.RowKit

def ixI (o : Option Nat) : Int := match o with | some v => (v : Int) | none => -1
theorem alpha_index (c : UInt8) : Lib.indexByte alphaL c = ixI (i64 c) := by
  have key : ∀ n, n < 256 → Lib.indexByte alphaL (UInt8.ofNat n) = ixI (i64 (UInt8.ofNat n)) := by decide +kernel
  have := key c.toNat c.toNat_lt
  rw [UInt8.ofNat_toNat] at this; exact this
theorem indexLetters_any (c : UInt8) (w : World) : Calls Tryd.prog 106 #[.string (str alphaL), .int .u8 c.toNat] w fun e w' => e = .returned (.int .i64 (ixI (i64 c))) ∧ w' = w := by
  refine (Tryd.strings_IndexByte (str alphaL) (c.toNat : Int) w).mono ?_
  rintro e w' ⟨rfl, rfl⟩
  refine ⟨ret_int ?_, rfl⟩
  rw [str_list, ← alpha_index]
  congr 1
  simp
set_option maxRecDepth 100000 in
set_option maxHeartbeats 4000000 in
theorem readLetters_any (s : ByteArray) (w : World) (hs : s.size ≤ 1073741000) :
    Calls Tryd.prog 74 #[.string s] w fun e w' => e = .returned (.string (str (rdL (0, 0, []) s.data.toList))) ∧ Below w.heap.size w w' := by
  go_enter Tryd.func74, Tryd.ntmps74
  go_wp2_with fail
  go_loopw [4, 5, 6] (fun n d i wr => ∃ (k N D : Nat) (acc : List UInt8), k ≤ s.size ∧ i = .int .i64 k ∧ n = .int .i64 N ∧ d = .int .i64 D ∧ acc.length ≤ k ∧ (D = 0 ∨ D = 6 ∨ D = 4 ∨ D = 2) ∧ N < 2 ^ D ∧ rdL (0, 0, []) s.data.toList = rdL (N, D, acc) (s.data.toList.drop k) ∧ Bld w.heap.size w.heap.size acc wr ∧ Below w.heap.size w wr) (fun _ _ i _ => s.size - (intOf i).toNat)
  case atStart => exact ⟨0, 0, 0, [], by omega, rfl, rfl, rfl, by simp, .inl rfl, by decide, rfl, bld_fresh w, (Below.refl _ _).alloc (Nat.le_refl _) _⟩
  case round =>
    obtain ⟨k, N, D, acc, hk, rfl, rfl, rfl, hal, hD, hN, hg, hB, hb⟩ := hrel
    have HG := Lib.hid hg
    clear hg
    by_cases hlt : k < s.size
    · cases hv : i64 s[k] with
      | none =>
        have HE : Hid (rdL (0, 0, []) s.data.toList = acc) := by show _ = _; rw [HG.out, drop_at s k hlt, rdL_stop _ hv]
        have HX : Hid (ixI (i64 s[k]) = -1) := by show _ = _; rw [hv]; rfl
        clear hv hD hN
        go_wp2_with fail
        refine (indexLetters_any s[k] _).mono ?_
        rintro e w1 ⟨rfl, rfl⟩
        rw [HX.out]
        go_wp2_with fail
        refine (bString_any _ _ _ _ hB).mono ?_
        rintro e w5 ⟨rfl, hb5⟩
        go_wp2
        go_ret
        exact ⟨ret_str (by rw [HE.out]), hb.trans hb5⟩
      | some v =>
        have hv64 := i64_lt hv
        have HS : Hid (rdL (0, 0, []) s.data.toList = rdL (stp (N, D, acc) v) (s.data.toList.drop (k + 1))) := by show _ = _; rw [HG.out, drop_at s k hlt, rdL_hit _ hv]
        have HX : Hid (ixI (i64 s[k]) = (v : Int)) := by show _ = _; rw [hv]; rfl
        clear hv
        rcases hD with rfl | rfl | rfl | rfl
        · obtain rfl : N = 0 := by simpa using hN
          rw [stp0] at HS
          clear hN
          go_wp2_with fail
          refine (indexLetters_any s[k] _).mono ?_
          rintro e w1 ⟨rfl, rfl⟩
          rw [HX.out]
          go_wp2
          go_roundw
          case rel => exact ⟨k + 1, v, 6, acc, by omega, by go_num, by go_num, rfl, by omega, by omega, by omega, HS.out, hB, hb⟩
          case measure => simp [intOf]; omega
        · rw [stp6] at HS
          have hN' : N < 64 := hN
          obtain ⟨b, hc, hbe⟩ : ∃ b : UInt8, (((N : Int) * 64 + v) / 16) = (b.toNat : Int) ∧ b = UInt8.ofNat ((N * 64 + v) / 16) := ⟨_, by rw [UInt8.toNat_ofNat']; omega, rfl⟩
          rw [← hbe] at HS
          clear hbe
          clear hN
          go_wp2_with fail
          refine (indexLetters_any s[k] _).mono ?_
          rintro e w1 ⟨rfl, rfl⟩
          rw [HX.out]
          go_wp2_with fail
          refine (writeByte_any _ _ _ b _ hB (by omega)).mono ?_
          rintro e w3 ⟨rfl, hB3, hb3⟩
          go_wp2
          go_roundw
          case rel => exact ⟨k + 1, _, 4, _, by omega, by go_num, by go_num, rfl, by rw [List.length_append, List.length_singleton]; omega, by omega, by omega, HS.out, hB3, hb.trans hb3⟩
          case measure => simp [intOf]; omega
        · rw [stp4] at HS
          have hN' : N < 16 := hN
          obtain ⟨b, hc, hbe⟩ : ∃ b : UInt8, (((N : Int) * 64 + v) / 4) = (b.toNat : Int) ∧ b = UInt8.ofNat ((N * 64 + v) / 4) := ⟨_, by rw [UInt8.toNat_ofNat']; omega, rfl⟩
          rw [← hbe] at HS
          clear hbe
          clear hN
          go_wp2_with fail
          refine (indexLetters_any s[k] _).mono ?_
          rintro e w1 ⟨rfl, rfl⟩
          rw [HX.out]
          go_wp2_with fail
          refine (writeByte_any _ _ _ b _ hB (by omega)).mono ?_
          rintro e w3 ⟨rfl, hB3, hb3⟩
          go_wp2
          go_roundw
          case rel => exact ⟨k + 1, _, 2, _, by omega, by go_num, by go_num, rfl, by rw [List.length_append, List.length_singleton]; omega, by omega, by omega, HS.out, hB3, hb.trans hb3⟩
          case measure => simp [intOf]; omega
        · rw [stp2] at HS
          have hN' : N < 4 := hN
          obtain ⟨b, hc, hbe⟩ : ∃ b : UInt8, ((N : Int) * 64 + v) = (b.toNat : Int) ∧ b = UInt8.ofNat (N * 64 + v) := ⟨_, by rw [UInt8.toNat_ofNat']; omega, rfl⟩
          rw [← hbe] at HS
          have hb256 := b.toNat_lt
          clear hbe
          clear hN
          go_wp2_with fail
          refine (indexLetters_any s[k] _).mono ?_
          rintro e w1 ⟨rfl, rfl⟩
          rw [HX.out]
          go_wp2_with fail
          refine (writeByte_any _ _ _ b _ hB (by omega)).mono ?_
          rintro e w3 ⟨rfl, hB3, hb3⟩
          go_wp2
          go_roundw
          case rel => exact ⟨k + 1, 0, 0, _, by omega, by go_num, by first | rfl | (simp; try omega), rfl, by rw [List.length_append, List.length_singleton]; omega, by omega, by omega, HS.out, hB3, hb.trans hb3⟩
          case measure => simp [intOf]; omega
    · have HE : Hid (rdL (0, 0, []) s.data.toList = acc) := by show _ = _; rw [HG.out, drop_out s k (by omega)]; rfl
      go_wp2_with fail
      refine (bString_any _ _ _ _ hB).mono ?_
      rintro e w5 ⟨rfl, hb5⟩
      go_wp2
      go_ret
      exact ⟨ret_str (by rw [HE.out]), hb.trans hb5⟩
theorem rdL_len : ∀ (t : List UInt8) (st : Nat × Nat × List UInt8), (rdL st t).length ≤ st.2.2.length + t.length
  | [], st => by simp [rdL]
  | c :: t, st => by
    cases h : i64 c with
    | none => rw [rdL_stop _ h]; omega
    | some v =>
      rw [rdL_hit _ h]
      have := rdL_len t (stp st v)
      have h2 : (stp st v).2.2.length ≤ st.2.2.length + 1 := by unfold stp; split <;> simp
      rw [List.length_cons]; omega
theorem flat_take (xs : List (List UInt8)) (k : Nat) (h : k < xs.length) : (xs.take (k + 1)).flatten = (xs.take k).flatten ++ xs[k] := by
  rw [List.take_succ_eq_append_getElem h, List.flatten_append]; simp
theorem flat_le (xs : List (List UInt8)) (k : Nat) : (xs.take k).flatten.length ≤ xs.flatten.length := by
  conv => rhs; rw [← List.take_append_drop k xs, List.flatten_append, List.length_append]
  omega
set_option maxRecDepth 100000 in
set_option maxHeartbeats 4000000 in
theorem decodeBase_any (a : Option Addr) (n c : Nat) (xs : List (List UInt8)) (w : World) (hr : RdL w a n xs) (hn : n ≤ 1073741824) (hx : ∀ x ∈ xs, x.length ≤ 1073741000) :
    Calls Tryd.prog 37 #[.slice a n c] w (DecRet (decB xs) w) := by
  have HX := Lib.hid hx
  have HLEN := Lib.hid hr.1
  have HR := Lib.hid hr.2
  clear hx hr
  go_enter Tryd.func37, Tryd.ntmps37
  go_wp2_with fail
  go_loop [4, 10] (fun l i => ∃ (k : Nat) (t : List UInt8), k ≤ n ∧ i = .int .i64 k ∧ l = .string (str t) ∧ t = (xs.take k).flatten ∧ t.length ≤ 400) (fun _ i => n - (intOf i).toNat)
  case atStart => exact ⟨0, [], by omega, rfl, rfl, rfl, by simp⟩
  case round =>
    obtain ⟨k, t, hk, rfl, rfl, ht, hl⟩ := hrel
    have HT := Lib.hid ht
    have htz := str_size t
    clear ht
    by_cases hlt : k < n
    · have hkx : k < xs.length := by rw [HLEN.out]; exact hlt
      obtain ⟨b, off, rfl, hbl, hcell⟩ := HR.out.resolve_left (by omega)
      have c0 : w.cell? ⟨b, off + k, none⟩ = some (.string (str xs[k])) := hcell k hkx
      have hzk : (str xs[k]).size ≤ 1073741000 := by rw [str_size]; exact HX.out _ (List.getElem_mem hkx)
      have HN : Hid (str t ++ str xs[k] = str (xs.take (k + 1)).flatten) := by show _ = _; rw [str_app, HT.out, flat_take xs k hkx]
      have hap : (str t ++ str xs[k]).size = (str t).size + (str xs[k]).size := ByteArray.size_append
      have HZ : Hid ((xs.take (k + 1)).flatten.length = (str t ++ str xs[k]).size) := by show _ = _; rw [HN.out, str_size]
      clear hcell
      generalize str xs[k] = x at *
      by_cases h400 : 400 < (str t ++ x).size
      · have h4 : 400 < (str t).size + x.size := by rw [← hap]; exact h400
        have HE : Hid (decB xs = none) := by show _ = _; apply decB_long; have := flat_le xs (k + 1); have := HZ.out; omega
        clear h400
        go_wp2
        go_ret2
        exact decRet_none HE.out rfl (Below.refl _ _)
      · have h4 : ¬ 400 < (str t).size + x.size := by rw [← hap]; exact h400
        go_wp2
        go_round
        case rel => exact ⟨k + 1, _, by omega, by go_num, by rw [HN.out], rfl, by have := HZ.out; omega⟩
        case measure => simp [intOf]; omega
    · have HF : Hid (t = xs.flatten) := by show _ = _; rw [HT.out, List.take_of_length_le (by rw [HLEN.out]; omega)]
      have hz : (str t).size ≤ 400 := by omega
      have HD : Hid (decB xs = lim (dB t)) := by show _ = _; rw [HF.out]; rfl
      go_wp2_with fail
      refine (readLetters_any (str t) _ (by omega)).mono ?_
      rintro e w1 ⟨rfl, hb1⟩
      rw [str_list]
      have HRB : Hid (dB t = if b64 (rdL (0, 0, []) t) = t then some (rdL (0, 0, []) t) else none) := rfl
      have HRL : Hid ((rdL (0, 0, []) t).length ≤ t.length) := by have := rdL_len t (0, 0, []); show _ ≤ _; simpa using this
      generalize rdL (0, 0, []) t = r at *
      have hrl : r.length ≤ 400 := by have := HRL.out; omega
      have hrz := str_size r
      go_wp2_with fail
      refine (lettersOf_any (str r) _ (by omega)).mono ?_
      rintro e w2 ⟨rfl, hb2⟩
      rw [str_list]
      by_cases he : b64 r = t
      · have e1 : ((str (b64 r)).toList == (str t).toList) = true := by rw [he]; simp
        have HE : Hid (decB xs = some r) := by
          show _ = _
          have := b64_len r
          rw [HD.out, HRB.out, if_pos he, lim_in (by rw [he] at this; omega)]
        clear he
        go_wp2
        go_ret2
        exact decRet_some HE.out rfl (nx hb1 hb2)
      · have e1 : ((str (b64 r)).toList == (str t).toList) = false := by
          rw [beq_dec, decide_eq_false (fun e => he (str_inj e))]
        have HE : Hid (decB xs = none) := by show _ = _; rw [HD.out, HRB.out, if_neg he]; rfl
        clear he
        go_wp2
        go_ret2
        exact decRet_none HE.out rfl (nx hb1 hb2)
set_option maxRecDepth 100000 in
set_option maxHeartbeats 1000000 in
theorem mwJoin_any (a : Option Addr) (n c : Nat) (xs : List (List UInt8)) (w : World) (hr : RdL w a n xs) (hn : n ≤ 100000) (hx : ∀ x ∈ xs, x.length ≤ 1000) :
    Calls Tryd.prog 13 #[.slice a n c] w fun e w' => e = .returned (.string (str xs.flatten)) ∧ w = w' := by
  have HX := Lib.hid hx
  have HLEN := Lib.hid hr.1
  have HR := Lib.hid hr.2
  clear hx hr
  go_enter Tryd.func13, Tryd.ntmps13
  go_wp2_with fail
  go_loop [3, 4] (fun l i => ∃ (k : Nat) (t : List UInt8), k ≤ n ∧ i = .int .i64 k ∧ l = .string (str t) ∧ t = (xs.take k).flatten ∧ t.length ≤ 1000 * k) (fun _ i => n - (intOf i).toNat)
  case atStart => exact ⟨0, [], by omega, rfl, rfl, rfl, by simp⟩
  case round =>
    obtain ⟨k, t, hk, rfl, rfl, ht, hl⟩ := hrel
    have HT := Lib.hid ht
    have htz := str_size t
    clear ht
    by_cases hlt : k < n
    · have hkx : k < xs.length := by rw [HLEN.out]; exact hlt
      obtain ⟨b, off, rfl, hbl, hcell⟩ := HR.out.resolve_left (by omega)
      have c0 : w.cell? ⟨b, off + k, none⟩ = some (.string (str xs[k])) := hcell k hkx
      have hzk : (str xs[k]).size ≤ 1000 := by rw [str_size]; exact HX.out _ (List.getElem_mem hkx)
      have HN : Hid (str t ++ str xs[k] = str (xs.take (k + 1)).flatten) := by show _ = _; rw [str_app, HT.out, flat_take xs k hkx]
      have hap : (str t ++ str xs[k]).size = (str t).size + (str xs[k]).size := ByteArray.size_append
      have HZ : Hid ((xs.take (k + 1)).flatten.length = (str t ++ str xs[k]).size) := by show _ = _; rw [HN.out, str_size]
      clear hcell
      generalize str xs[k] = x at *
      go_wp2
      go_round
      case rel => exact ⟨k + 1, _, by omega, by go_num, by rw [HN.out], rfl, by have := HZ.out; omega⟩
      case measure => simp [intOf]; omega
    · have HF : Hid (t = xs.flatten) := by show _ = _; rw [HT.out, List.take_of_length_le (by rw [HLEN.out]; omega)]
      go_wp2
      go_ret
      exact ⟨ret_str (by rw [HF.out]), rfl⟩
end Go.Proofs.YtdaoeoociamdnabDoor
