/-
  Codes of bytes: letters read: what the program's functions return. No statement is proved here.
-/
import Derived.Test.YtjnpkmenlecdmabDoorCodL
import Derived.Deep.QuietTactic
import Derived.BigQuiet
import Derived.Test.YtjnpkmenlecdmabDoorShelf
namespace Go.Proofs.YtjnpkmenlecdmabDoor
open Go.RowKit

def ixI (o : Option Nat) : Int := match o with | some v => (v : Int) | none => -1
/-- Bytes in a row of the call's own. -/
def OwnBy (B : Nat) (v : Value) (l : List UInt8) (w : World) : Prop := w.ownsRow B 5 1 v l.length (Lib.byteCells l)
theorem OwnBy.empty (w : World) : OwnBy w.heap.size (.slice (some ⟨w.heap.size, 0, none⟩) 0 0) [] (w.alloc (.cells #[] 5)) :=
  ⟨rfl, .inr ⟨w.heap.size, 0, #[], rfl, Nat.le_refl _, by show (w.heap.push _)[w.heap.size]? = _; simp, Nat.le_refl _, by unfold maxLen; omega, rfl, rfl⟩⟩
theorem conv_nilC (w : World) (src dst e : TypeId) (hs : Tryd.prog.underlying src = some (.slice e)) (he : Tryd.prog.underlying e = some (.int .u8)) (hd : Tryd.prog.underlying dst = some .string) :
    (convert src dst (.slice none 0 0)).run Tryd.prog w = .ok (.string (str [])) w := by
  rw [run_convert_bytes_string w src dst e none 0 0 hs he hd]
  rfl
theorem str_eq_s (l : List UInt8) (s : ByteArray) : ((str l).toList == s.toList) = decide (l = s.data.toList) := by
  rw [beq_dec, decide_eq_decide]
  exact ⟨fun h => by rw [← h, str_list], fun h => by rw [h, str_of]⟩
theorem OwnBy.drewN {B : Nat} {v : Value} {l : List UInt8} {w : World} (h : OwnBy B v l w) (m : Nat) : OwnBy B v l (w.drewN m) := h
theorem OwnBy.back {B : Nat} {v : Value} {l : List UInt8} {w : World} (h : OwnBy B v l w) (src dst e : TypeId) (hs : Tryd.prog.underlying src = some (.slice e)) (he : Tryd.prog.underlying e = some (.int .u8)) (hd : Tryd.prog.underlying dst = some .string) :
    (convert src dst v).run Tryd.prog w = .ok (.string (str l)) w := by
  have ho := h
  unfold OwnBy at ho
  rcases h.2 with ⟨hv, h0⟩ | ⟨g, cap, cur, hv, _⟩
  · subst hv
    have : l = [] := List.length_eq_zero_iff.1 h0
    subst this
    exact conv_nilC w src dst e hs he hd
  · subst hv
    exact run_convert_bytes_back (P := Tryd.prog) w src dst e ⟨g, 0, none⟩ cap l hs he hd (fun j hj => by
      have := ho.cells (g := g) rfl j (.int .u8 (l[j].toNat : Int)) (by simp [Lib.byteCells, hj])
      exact this)
theorem alpha_index (c : UInt8) : Lib.indexByte alphaL c = ixI (i64 c) := by
  have key : ∀ n, n < 256 → Lib.indexByte alphaL (UInt8.ofNat n) = ixI (i64 (UInt8.ofNat n)) := by decide +kernel
  have := key c.toNat c.toNat_lt
  rw [UInt8.ofNat_toNat] at this; exact this
theorem indexLetters_any (c : UInt8) (w : World) : Calls Tryd.prog 103 #[.string (str alphaL), .int .u8 c.toNat] w fun e w' => e = .returned (.int .i64 (ixI (i64 c))) ∧ w' = w := by
  refine (Tryd.strings_IndexByte (str alphaL) (c.toNat : Int) w).mono ?_
  rintro e w' ⟨rfl, rfl⟩
  refine ⟨ret_int ?_, rfl⟩
  rw [str_list, ← alpha_index]
  congr 1
  simp
set_option maxRecDepth 100000 in
set_option maxHeartbeats 4000000 in
theorem readLetters_any (s : ByteArray) (w : World) (hs : s.size ≤ 1073741000) :
    Calls Tryd.prog 90 #[.string s] w fun e w' => e = .returned (.string (str (rdL (0, 0, []) s.data.toList))) ∧ Below w.heap.size w w' := by
  go_enter Tryd.func90, Tryd.ntmps90
  go_wp2_with fail
  go_loopw [4, 5, 6] (fun n d i wr => ∃ (k N D : Nat) (acc : List UInt8), k ≤ s.size ∧ i = .int .i64 k ∧ n = .int .i64 N ∧ d = .int .i64 D ∧ acc.length ≤ k ∧ (D = 0 ∨ D = 6 ∨ D = 4 ∨ D = 2) ∧ N < 2 ^ D ∧ rdL (0, 0, []) s.data.toList = rdL (N, D, acc) (s.data.toList.drop k) ∧ Bld w.heap.size w.heap.size acc wr ∧ Below w.heap.size w wr) (fun _ _ i _ => s.size - (intOf i).toNat)
  case atStart => exact ⟨0, 0, 0, [], by omega, rfl, rfl, rfl, by simp, .inl rfl, by decide, rfl, bld_fresh w, (Below.refl _ _).alloc (Nat.le_refl _) _⟩
  case round =>
    obtain ⟨k, N, D, acc, hk, rfl, rfl, rfl, hal, hD, hN, hg, hB, hb⟩ := hrel
    have HG := Lib.hid hg
    clear hg
    by_cases hlt : k < s.size
    · cases hv : i64 s[k] with
      | none =>
        have HE : Hid (rdL (0, 0, []) s.data.toList = acc) := by show _ = _; rw [HG.out, drop_at s k hlt, rdL_stop _ hv]
        have HX : Hid (ixI (i64 s[k]) = -1) := by show _ = _; rw [hv]; rfl
        clear hv hD hN
        go_wp2_with fail
        refine (indexLetters_any s[k] _).mono ?_
        rintro e w1 ⟨rfl, rfl⟩
        rw [HX.out]
        go_wp2_with fail
        refine (bString_any _ _ _ _ hB).mono ?_
        rintro e w5 ⟨rfl, hb5⟩
        go_wp2
        go_ret
        exact ⟨ret_str (by rw [HE.out]), hb.trans hb5⟩
      | some v =>
        have hv64 := i64_lt hv
        have HS : Hid (rdL (0, 0, []) s.data.toList = rdL (stp (N, D, acc) v) (s.data.toList.drop (k + 1))) := by show _ = _; rw [HG.out, drop_at s k hlt, rdL_hit _ hv]
        have HX : Hid (ixI (i64 s[k]) = (v : Int)) := by show _ = _; rw [hv]; rfl
        clear hv
        rcases hD with rfl | rfl | rfl | rfl
        · obtain rfl : N = 0 := by simpa using hN
          rw [stp0] at HS
          clear hN
          go_wp2_with fail
          refine (indexLetters_any s[k] _).mono ?_
          rintro e w1 ⟨rfl, rfl⟩
          rw [HX.out]
          go_wp2
          go_roundw
          case rel => exact ⟨k + 1, v, 6, acc, by omega, by go_num, by go_num, rfl, by omega, by omega, by omega, HS.out, hB, hb⟩
          case measure => simp [intOf]; omega
        · rw [stp6] at HS
          have hN' : N < 64 := hN
          obtain ⟨b, hc, hbe⟩ : ∃ b : UInt8, (((N : Int) * 64 + v) / 16) = (b.toNat : Int) ∧ b = UInt8.ofNat ((N * 64 + v) / 16) := ⟨_, by rw [UInt8.toNat_ofNat']; omega, rfl⟩
          rw [← hbe] at HS
          clear hbe
          clear hN
          go_wp2_with fail
          refine (indexLetters_any s[k] _).mono ?_
          rintro e w1 ⟨rfl, rfl⟩
          rw [HX.out]
          go_wp2_with fail
          refine (writeByte_any _ _ _ b _ hB (by omega)).mono ?_
          rintro e w3 ⟨rfl, hB3, hb3⟩
          go_wp2
          go_roundw
          case rel => exact ⟨k + 1, _, 4, _, by omega, by go_num, by go_num, rfl, by rw [List.length_append, List.length_singleton]; omega, by omega, by omega, HS.out, hB3, hb.trans hb3⟩
          case measure => simp [intOf]; omega
        · rw [stp4] at HS
          have hN' : N < 16 := hN
          obtain ⟨b, hc, hbe⟩ : ∃ b : UInt8, (((N : Int) * 64 + v) / 4) = (b.toNat : Int) ∧ b = UInt8.ofNat ((N * 64 + v) / 4) := ⟨_, by rw [UInt8.toNat_ofNat']; omega, rfl⟩
          rw [← hbe] at HS
          clear hbe
          clear hN
          go_wp2_with fail
          refine (indexLetters_any s[k] _).mono ?_
          rintro e w1 ⟨rfl, rfl⟩
          rw [HX.out]
          go_wp2_with fail
          refine (writeByte_any _ _ _ b _ hB (by omega)).mono ?_
          rintro e w3 ⟨rfl, hB3, hb3⟩
          go_wp2
          go_roundw
          case rel => exact ⟨k + 1, _, 2, _, by omega, by go_num, by go_num, rfl, by rw [List.length_append, List.length_singleton]; omega, by omega, by omega, HS.out, hB3, hb.trans hb3⟩
          case measure => simp [intOf]; omega
        · rw [stp2] at HS
          have hN' : N < 4 := hN
          obtain ⟨b, hc, hbe⟩ : ∃ b : UInt8, ((N : Int) * 64 + v) = (b.toNat : Int) ∧ b = UInt8.ofNat (N * 64 + v) := ⟨_, by rw [UInt8.toNat_ofNat']; omega, rfl⟩
          rw [← hbe] at HS
          have hb256 := b.toNat_lt
          clear hbe
          clear hN
          go_wp2_with fail
          refine (indexLetters_any s[k] _).mono ?_
          rintro e w1 ⟨rfl, rfl⟩
          rw [HX.out]
          go_wp2_with fail
          refine (writeByte_any _ _ _ b _ hB (by omega)).mono ?_
          rintro e w3 ⟨rfl, hB3, hb3⟩
          go_wp2
          go_roundw
          case rel => exact ⟨k + 1, 0, 0, _, by omega, by go_num, by first | rfl | (simp; try omega), rfl, by rw [List.length_append, List.length_singleton]; omega, by omega, by omega, HS.out, hB3, hb.trans hb3⟩
          case measure => simp [intOf]; omega
    · have HE : Hid (rdL (0, 0, []) s.data.toList = acc) := by show _ = _; rw [HG.out, drop_out s k (by omega)]; rfl
      go_wp2_with fail
      refine (bString_any _ _ _ _ hB).mono ?_
      rintro e w5 ⟨rfl, hb5⟩
      go_wp2
      go_ret
      exact ⟨ret_str (by rw [HE.out]), hb.trans hb5⟩
theorem rdL_len : ∀ (t : List UInt8) (st : Nat × Nat × List UInt8), (rdL st t).length ≤ st.2.2.length + t.length
  | [], st => by simp [rdL]
  | c :: t, st => by
    cases h : i64 c with
    | none => rw [rdL_stop _ h]; omega
    | some v =>
      rw [rdL_hit _ h]
      have := rdL_len t (stp st v)
      have h2 : (stp st v).2.2.length ≤ st.2.2.length + 1 := by unfold stp; split <;> simp
      rw [List.length_cons]; omega
theorem flat_take (xs : List (List UInt8)) (k : Nat) (h : k < xs.length) : (xs.take (k + 1)).flatten = (xs.take k).flatten ++ xs[k] := by
  rw [List.take_succ_eq_append_getElem h, List.flatten_append]; simp
theorem flat_le (xs : List (List UInt8)) (k : Nat) : (xs.take k).flatten.length ≤ xs.flatten.length := by
  conv => rhs; rw [← List.take_append_drop k xs, List.flatten_append, List.length_append]
  omega
set_option maxRecDepth 100000 in
set_option maxHeartbeats 4000000 in
theorem decodeBase_any (a : Option Addr) (n c : Nat) (xs : List (List UInt8)) (w : World) (hr : RdL w a n xs) (hn : n ≤ 1073741824) (hx : ∀ x ∈ xs, x.length ≤ 1073741000) :
    Calls Tryd.prog 65 #[.slice a n c] w (DecRet (decB xs) w) := by
  have HX := Lib.hid hx
  have HLEN := Lib.hid hr.1
  have HR := Lib.hid hr.2
  clear hx hr
  go_enter Tryd.func65, Tryd.ntmps65
  go_wp2_with fail
  go_loop [4, 10] (fun l i => ∃ (k : Nat) (t : List UInt8), k ≤ n ∧ i = .int .i64 k ∧ l = .string (str t) ∧ t = (xs.take k).flatten ∧ t.length ≤ 400) (fun _ i => n - (intOf i).toNat)
  case atStart => exact ⟨0, [], by omega, rfl, rfl, rfl, by simp⟩
  case round =>
    obtain ⟨k, t, hk, rfl, rfl, ht, hl⟩ := hrel
    have HT := Lib.hid ht
    have htz := str_size t
    clear ht
    by_cases hlt : k < n
    · have hkx : k < xs.length := by rw [HLEN.out]; exact hlt
      obtain ⟨b, off, rfl, hbl, hcell⟩ := HR.out.resolve_left (by omega)
      have c0 : w.cell? ⟨b, off + k, none⟩ = some (.string (str xs[k])) := hcell k hkx
      have hzk : (str xs[k]).size ≤ 1073741000 := by rw [str_size]; exact HX.out _ (List.getElem_mem hkx)
      have HN : Hid (str t ++ str xs[k] = str (xs.take (k + 1)).flatten) := by show _ = _; rw [str_app, HT.out, flat_take xs k hkx]
      have hap : (str t ++ str xs[k]).size = (str t).size + (str xs[k]).size := ByteArray.size_append
      have HZ : Hid ((xs.take (k + 1)).flatten.length = (str t ++ str xs[k]).size) := by show _ = _; rw [HN.out, str_size]
      clear hcell
      generalize str xs[k] = x at *
      by_cases h400 : 400 < (str t ++ x).size
      · have h4 : 400 < (str t).size + x.size := by rw [← hap]; exact h400
        have HE : Hid (decB xs = none) := by show _ = _; apply decB_long; have := flat_le xs (k + 1); have := HZ.out; omega
        clear h400
        go_wp2
        go_ret2
        exact decRet_none HE.out rfl (Below.refl _ _)
      · have h4 : ¬ 400 < (str t).size + x.size := by rw [← hap]; exact h400
        go_wp2
        go_round
        case rel => exact ⟨k + 1, _, by omega, by go_num, by rw [HN.out], rfl, by have := HZ.out; omega⟩
        case measure => simp [intOf]; omega
    · have HF : Hid (t = xs.flatten) := by show _ = _; rw [HT.out, List.take_of_length_le (by rw [HLEN.out]; omega)]
      have hz : (str t).size ≤ 400 := by omega
      have HD : Hid (decB xs = lim (dB t)) := by show _ = _; rw [HF.out]; rfl
      go_wp2_with fail
      refine (readLetters_any (str t) _ (by omega)).mono ?_
      rintro e w1 ⟨rfl, hb1⟩
      rw [str_list]
      have HRB : Hid (dB t = if b64 (rdL (0, 0, []) t) = t then some (rdL (0, 0, []) t) else none) := rfl
      have HRL : Hid ((rdL (0, 0, []) t).length ≤ t.length) := by have := rdL_len t (0, 0, []); show _ ≤ _; simpa using this
      generalize rdL (0, 0, []) t = r at *
      have hrl : r.length ≤ 400 := by have := HRL.out; omega
      have hrz := str_size r
      go_wp2_with fail
      refine (lettersOf_any (str r) _ (by omega)).mono ?_
      rintro e w2 ⟨rfl, hb2⟩
      rw [str_list]
      by_cases he : b64 r = t
      · have e1 : ((str (b64 r)).toList == (str t).toList) = true := by rw [he]; simp
        have HE : Hid (decB xs = some r) := by
          show _ = _
          have := b64_len r
          rw [HD.out, HRB.out, if_pos he, lim_in (by rw [he] at this; omega)]
        clear he
        go_wp2
        go_ret2
        exact decRet_some HE.out rfl (nx hb1 hb2)
      · have e1 : ((str (b64 r)).toList == (str t).toList) = false := by
          rw [beq_dec, decide_eq_false (fun e => he (str_inj e))]
        have HE : Hid (decB xs = none) := by show _ = _; rw [HD.out, HRB.out, if_neg he]; rfl
        clear he
        go_wp2
        go_ret2
        exact decRet_none HE.out rfl (nx hb1 hb2)
theorem l64_i64_nat : ∀ n, n < 256 → (i64 (UInt8.ofNat n)).isSome = true → l64 ((i64 (UInt8.ofNat n)).getD 0) = UInt8.ofNat n := by decide +kernel
theorem l64_i64 {c : UInt8} {v : Nat} (h : i64 c = some v) : l64 v = c := by
  have := l64_i64_nat c.toNat c.toNat_lt
  rw [UInt8.ofNat_toNat, h] at this; exact this rfl
theorem alpha_str {k : Nat} (h : k < 64) (h' : k < (str alphaL).size) : (str alphaL)[k] = l64 k := by
  have hl : alphaL.length = 64 := rfl
  rw [str_at]; unfold l64
  rw [List.getD_eq_getElem?_getD, List.getElem?_eq_getElem (by rw [hl]; exact h)]; rfl
theorem l5Digit_any (c : UInt8) (w : World) : Calls Tryd.prog 104 #[.int .u8 c.toNat] w fun e w' => e = .returned (.int .i64 (ixI (i64 c))) ∧ w = w' := by
  have hls := alphaL_size
  go_enter Tryd.func104, Tryd.ntmps104
  go_wp2_with fail
  refine (l5Letters_any _).mono ?_
  rintro e w1 ⟨rfl, rfl⟩
  go_wp2_with fail
  go_loop [4] (fun i => ∃ k : Nat, k ≤ 64 ∧ i = .int .i64 k ∧ ∀ j, j < k → l64 j ≠ c) (fun i => 64 - (intOf i).toNat)
  case atStart => exact ⟨0, by omega, rfl, fun j h => by omega⟩
  case round =>
    obtain ⟨k, hk, rfl, hall⟩ := hrel
    have HA := Lib.hid hall
    clear hall
    by_cases hlt : k < 64
    · have hks : k < (str alphaL).size := by omega
      have HK := Lib.hid (alpha_str hlt hks)
      by_cases he : l64 k = c
      · have e1 : (((str alphaL)[k].toNat : Int) == (c.toNat : Int)) = true := by rw [HK.out, he]; simp
        have HE : Hid (ixI (i64 c) = (k : Int)) := by show _ = _; rw [← he, i64_l64_nat k hlt]; rfl
        clear he
        go_wp2
        go_ret
        exact ⟨ret_int HE.out.symm, rfl⟩
      · have e1 : (((str alphaL)[k].toNat : Int) == (c.toNat : Int)) = false := by rw [beq_eq_false_iff_ne, HK.out]; intro e; exact he (UInt8.toNat_inj.1 (by omega))
        have HE := Lib.hid he
        clear he
        go_wp2
        go_round
        case rel => exact ⟨k + 1, by omega, by go_num, fun j hjk => by
          by_cases e : j = k
          · subst e; exact HE.out
          · exact HA.out j (by omega)⟩
        case measure => simp [intOf]; omega
    · have HE : Hid (ixI (i64 c) = -1) := by
        show _ = _
        cases hv : i64 c with
        | none => rfl
        | some v => exact absurd (l64_i64 hv) (HA.out v (by have := i64_lt hv; omega))
      go_wp2
      go_ret
      exact ⟨ret_int HE.out.symm, rfl⟩
/-- Letters read one by one, k of them. -/
def ufk (last : Bool) (f : Nat → UInt8) : Nat → Option (Nat × Nat)
  | 0 => some (0, 0)
  | j + 1 => u4 last j (ufk last f j) (f j)
theorem ufk_none {last : Bool} {f : Nat → UInt8} {j : Nat} (h : ufk last f j = none) : ∀ m, ufk last f (j + m) = none
  | 0 => h
  | m + 1 => by rw [← Nat.add_assoc, ufk, ufk_none h m]; rfl
theorem ufk_four (last : Bool) (f : Nat → UInt8) : ufk last f 4 = un4 last (f 0) (f 1) (f 2) (f 3) := rfl
theorem drop4 (s : ByteArray) (k : Nat) (h : k + 4 ≤ s.size) : s.data.toList.drop k = s[k] :: s[k + 1] :: s[k + 2] :: s[k + 3] :: s.data.toList.drop (k + 4) := by
  rw [drop_at s k (by omega), drop_at s (k + 1) (by omega), drop_at s (k + 2) (by omega), drop_at s (k + 3) (by omega)]
def fAt (s : ByteArray) (k j : Nat) : UInt8 := s.data.toList.getD (k + j) 0
theorem fAt_eq (s : ByteArray) (k j : Nat) (h : k + j < s.size) : fAt s k j = s[k + j] := by
  unfold fAt; rw [List.getD_eq_getElem?_getD, List.getElem?_eq_getElem (by rw [size_list]; exact h)]; rfl
theorem mdB_at (s : ByteArray) (k : Nat) (h : k + 4 ≤ s.size) : mdB (s.data.toList.drop k) = match ufk (decide (k + 4 = s.size)) (fAt s k) 4 with | none => none | some x => (mdB (s.data.toList.drop (k + 4))).map (bytes3 x ++ ·) := by
  rw [drop4 s k h, mdB, ufk_four, fAt_eq s k 0 (by omega), fAt_eq s k 1 (by omega), fAt_eq s k 2 (by omega), fAt_eq s k 3 (by omega)]
  have : (s.data.toList.drop (k + 4)).isEmpty = decide (k + 4 = s.size) := by
    rw [Bool.eq_iff_iff]; simp only [List.isEmpty_iff, List.drop_eq_nil_iff, size_list, decide_eq_true_eq]; omega
  rw [this]; rfl
theorem ufk_bad {last : Bool} {f : Nat → UInt8} {j N F : Nat} (h : ufk last f j = some (N, F)) (h1 : ¬ (f j = 61 ∧ 2 ≤ j ∧ last = true)) (h2 : 0 < F ∨ i64 (f j) = none) : ufk last f (j + 1) = none := by
  rw [ufk, h]; unfold u4
  simp only [Option.bind_some]
  rw [if_neg h1]
  rcases h2 with h2 | h2
  · rw [if_pos h2]
  · rw [h2]; split <;> rfl
theorem ufk_pad {last : Bool} {f : Nat → UInt8} {j N F : Nat} (h : ufk last f j = some (N, F)) (h1 : f j = 61 ∧ 2 ≤ j ∧ last = true) : ufk last f (j + 1) = some (N * 64, F + 1) := by
  rw [ufk, h]; unfold u4
  simp only [Option.bind_some]
  rw [if_pos h1]
theorem ufk_let {last : Bool} {f : Nat → UInt8} {j N v : Nat} (h : ufk last f j = some (N, 0)) (h1 : ¬ (f j = 61 ∧ 2 ≤ j ∧ last = true)) (h2 : i64 (f j) = some v) : ufk last f (j + 1) = some (N * 64 + v, 0) := by
  rw [ufk, h]; unfold u4
  simp only [Option.bind_some]
  rw [if_neg h1, if_neg (by omega), h2]; rfl
def DebRet (s : List UInt8) (w : World) (e : Ending) (w' : World) : Prop := ∃ o : List UInt8, e = .returned (.tuple #[.string (str o), .bool (dB s).isSome]) ∧ o.length ≤ s.length ∧ (∀ b, dB s = some b → o = b) ∧ Below w.heap.size w w'
theorem debRet_none {s : List UInt8} {w w' : World} (h : dB s = none) (hb : Below w.heap.size w w') : DebRet s w (.returned (.tuple #[.string ⟨#[]⟩, .bool false])) w' := ⟨[], by rw [h]; rfl, by simp, (fun b e => by rw [h] at e; cases e), hb⟩
theorem debRet_fin {s : ByteArray} {acc : List UInt8} {w w' : World} {q : Bool} (h : mdB s.data.toList = some acc) (hl : acc.length ≤ s.size) (hq : q = decide (b64 acc = s.data.toList)) (hb : Below w.heap.size w w') : DebRet s.data.toList w (.returned (.tuple #[.string (str acc), .bool q])) w' := by
  refine ⟨acc, ?_, hl, fun b e => ?_, hb⟩
  · rw [hq, dB_of_mdB_some h]
    by_cases he : b64 acc = s.data.toList
    · rw [if_pos he, decide_eq_true he]; rfl
    · rw [if_neg he, decide_eq_false he]; rfl
  · rw [dB_of_mdB_some h] at e
    split at e
    · exact Option.some.inj e
    · cases e
theorem OwnBy.more {B : Nat} {v : Value} {l m : List UInt8} {w : World} (h : w.ownsRow B 5 1 v (l.length + m.length) (Lib.byteCells l ++ Lib.byteCells m)) : OwnBy B v (l ++ m) w := by
  unfold OwnBy
  rw [List.length_append, show Lib.byteCells (l ++ m) = Lib.byteCells l ++ Lib.byteCells m by simp [Lib.byteCells]]
  exact h
theorem cells3 {N : Nat} (h : N < 16777216) : Lib.byteCells [UInt8.ofNat (N / 65536), UInt8.ofNat (N / 256 % 256), UInt8.ofNat (N % 256)] = [.int .u8 ((N : Int) / 65536), .int .u8 ((N : Int) / 256 % 256), .int .u8 ((N : Int) % 256)] := by
  simp only [Lib.byteCells, List.map_cons, List.map_nil, UInt8.toNat_ofNat', List.cons.injEq, Value.int.injEq, true_and, and_true]
  omega
theorem cellsC2 {N : Nat} (h : N < 16777216) : Lib.byteCells [UInt8.ofNat (N / 65536), UInt8.ofNat (N / 256 % 256)] = [.int .u8 ((N : Int) / 65536), .int .u8 ((N : Int) / 256 % 256)] := by
  simp only [Lib.byteCells, List.map_cons, List.map_nil, UInt8.toNat_ofNat', List.cons.injEq, Value.int.injEq, true_and, and_true]
  omega
theorem cells1 {N : Nat} (h : N < 16777216) : Lib.byteCells [UInt8.ofNat (N / 65536)] = [.int .u8 ((N : Int) / 65536)] := by
  simp only [Lib.byteCells, List.map_cons, List.map_nil, UInt8.toNat_ofNat', List.cons.injEq, Value.int.injEq, true_and, and_true]
  omega
theorem and255C (x : Int) (h0 : 0 ≤ x) (h1 : x < 2 ^ 63) : bits .and .i64 x 255 = x % 256 := bits_mask .i64 63 (by decide) wraps_i64C 8 (by decide) x h0 h1
set_option maxRecDepth 100000 in
set_option maxHeartbeats 4000000 in
theorem l5Debase_any (s : ByteArray) (w : World) (hs : s.size ≤ 1073741000) :
    Calls Tryd.prog 92 #[.string s] w (DebRet s.data.toList w) := by
  obtain ⟨i0, hi, hz0, hz1, hz2⟩ := info_parts bInfo
  by_cases h4 : s.size % 4 = 0
  · have hq : (((s.size : Int) % 4) != 0) = false := by simp; omega
    have H4 := Lib.hid h4
    clear h4
    go_enter Tryd.func92, Tryd.ntmps92
    go_wp2_with fail
    go_loopw [4, 5] (fun v i wr => ∃ (k : Nat) (acc : List UInt8), k ≤ s.size ∧ Hid (k % 4 = 0) ∧ i = .int .i64 k ∧ acc.length ≤ k ∧ mdB s.data.toList = (mdB (s.data.toList.drop k)).map (acc ++ ·) ∧ OwnBy w.heap.size v acc wr ∧ Below w.heap.size w wr) (fun _ i _ => s.size - (intOf i).toNat)
    case atStart => exact ⟨0, [], by omega, rfl, rfl, by simp, by rw [List.drop_zero]; cases mdB s.data.toList <;> simp, OwnBy.empty w, (Below.refl _ _).alloc (Nat.le_refl _) _⟩
    case round =>
      obtain ⟨k, acc, hk, hk4, rfl, hal, hg, hown, hb⟩ := hrel
      have HG := Lib.hid hg
      clear hg
      by_cases hlt : k < s.size
      · have hk4' : k + 4 ≤ s.size := by have := hk4.out; have := H4.out; omega
        have HM := Lib.hid (mdB_at s k hk4')
        have HOWN := Lib.hid hown
        have HB := Lib.hid hb
        clear hown hb
        go_wp2_with fail
        go_loop [6, 7, 8] (fun n f i => ∃ (j N F : Nat), j ≤ 4 ∧ i = .int .i64 j ∧ n = .int .i64 N ∧ f = .int .i64 F ∧ N < 64 ^ j ∧ (F = 0 ∨ F + 2 ≤ j) ∧ ufk (decide (k + 4 = s.size)) (fAt s k) j = some (N, F)) (fun _ _ i => 4 - (intOf i).toNat)
        case atStart => exact ⟨0, 0, 0, by omega, rfl, rfl, rfl, by decide, .inl rfl, rfl⟩
        case round =>
          obtain ⟨j, N, F, hj, rfl, rfl, rfl, hN, hF, hu⟩ := hrel
          have HU := Lib.hid hu
          clear hu
          by_cases hj4 : j < 4
          · have hkj : k + j < s.size := by omega
            have HC := Lib.hid (fAt_eq s k j hkj)
            have hN3 : N < 262144 := Nat.lt_of_lt_of_le hN (Nat.pow_le_pow_right (by omega) (show j ≤ 3 by omega))
            have HP : Hid (∀ v : Nat, v < 64 → N * 64 + v < 64 ^ (j + 1)) := fun v hv => by rw [Nat.pow_succ]; omega
            have HNO : Hid (ufk (decide (k + 4 = s.size)) (fAt s k) (j + 1) = none → dB s.data.toList = none) := fun h => by
              have h2 := ufk_none h (3 - j)
              rw [show j + 1 + (3 - j) = 4 by omega] at h2
              exact dB_of_mdB_none (by rw [HG.out, HM.out, h2]; rfl)
            have HBA : Hid (Below w.heap.size w wr) := HB.out
            clear hN
            by_cases h61 : s[k + j] = 61
            · have e61 := beq_t h61 (n := 61) rfl
              have HI : Hid (ixI (i64 s[k + j]) = -1) := by show _ = _; rw [h61, i64_61]; rfl
              by_cases hj2 : 2 ≤ j
              · by_cases hl : k + 4 = s.size
                · have el : (((k : Int) + 4) == (s.size : Int)) = true := by rw [beq_iff_eq]; omega
                  have HN1 := Lib.hid (ufk_pad HU.out ⟨by rw [HC.out]; exact h61, hj2, by simpa using hl⟩)
                  clear h61 hl
                  go_wp2_with fail
                  refine (l5Digit_any s[k + j] _).mono ?_
                  rintro e w1 ⟨rfl, rfl⟩
                  rw [HI.out]
                  go_wp2
                  go_round
                  case rel => exact ⟨j + 1, N * 64, F + 1, by omega, by go_num, by go_num, by go_num, by have := HP.out 0 (by omega); omega, by omega, HN1.out⟩
                  case measure => simp [intOf]; omega
                · have el : (((k : Int) + 4) == (s.size : Int)) = false := by rw [beq_eq_false_iff_ne]; omega
                  have HE := Lib.hid (HNO.out (ufk_bad HU.out (fun h => hl (by simpa using h.2.2)) (.inr (by rw [HC.out, h61]; exact i64_61))))
                  clear h61 hl
                  by_cases hF0 : 0 < F
                  all_goals
                    go_wp2_with fail
                    refine (l5Digit_any s[k + j] _).mono ?_
                    rintro e w1 ⟨rfl, rfl⟩
                    rw [HI.out]
                    go_wp2
                    go_ret2
                    exact debRet_none HE.out HBA.out
              · have HE := Lib.hid (HNO.out (ufk_bad HU.out (fun h => hj2 h.2.1) (.inr (by rw [HC.out, h61]; exact i64_61))))
                obtain rfl : F = 0 := by omega
                clear h61
                go_wp2_with fail
                refine (l5Digit_any s[k + j] _).mono ?_
                rintro e w1 ⟨rfl, rfl⟩
                rw [HI.out]
                go_wp2
                go_ret2
                exact debRet_none HE.out HBA.out
            · have e61 := beq_f h61 (n := 61) rfl
              have HC1 : Hid (¬ (fAt s k j = 61 ∧ 2 ≤ j ∧ decide (k + 4 = s.size) = true)) := fun h => h61 (by rw [← HC.out]; exact h.1)
              clear h61
              by_cases hF0 : 0 < F
              · have HE := Lib.hid (HNO.out (ufk_bad HU.out HC1.out (.inl hF0)))
                go_wp2_with fail
                refine (l5Digit_any s[k + j] _).mono ?_
                rintro e w1 ⟨rfl, rfl⟩
                go_wp2
                go_ret2
                exact debRet_none HE.out HBA.out
              · obtain rfl : F = 0 := by omega
                cases hv : i64 s[k + j] with
                | none =>
                  have HE := Lib.hid (HNO.out (ufk_bad HU.out HC1.out (.inr (by rw [HC.out]; exact hv))))
                  have HI : Hid (ixI (i64 s[k + j]) = -1) := by show _ = _; rw [hv]; rfl
                  clear hv
                  go_wp2_with fail
                  refine (l5Digit_any s[k + j] _).mono ?_
                  rintro e w1 ⟨rfl, rfl⟩
                  rw [HI.out]
                  go_wp2
                  go_ret2
                  exact debRet_none HE.out HBA.out
                | some v =>
                  have hv64 := i64_lt hv
                  have HN1 := Lib.hid (ufk_let HU.out HC1.out (by rw [HC.out]; exact hv))
                  have HI : Hid (ixI (i64 s[k + j]) = (v : Int)) := by show _ = _; rw [hv]; rfl
                  clear hv
                  go_wp2_with fail
                  refine (l5Digit_any s[k + j] _).mono ?_
                  rintro e w1 ⟨rfl, rfl⟩
                  rw [HI.out]
                  go_wp2
                  go_round
                  case rel => exact ⟨j + 1, N * 64 + v, 0, by omega, by go_num, by go_num, rfl, HP.out v hv64, .inl rfl, HN1.out⟩
                  case measure => simp [intOf]; omega
          · obtain rfl : j = 4 := by omega
            have hN4 : N < 16777216 := hN
            have hA1 := and255C ((N : Int) / 256) (by omega) (by omega)
            have hA2 := and255C (N : Int) (by omega) (by omega)
            have HNX : Hid (mdB s.data.toList = (mdB (s.data.toList.drop (k + 4))).map ((acc ++ bytes3 (N, F)) ++ ·)) := by
              show _ = _
              rw [HG.out, HM.out, HU.out]
              cases mdB (s.data.toList.drop (k + 4)) <;> simp
            have hbl : (Lib.byteCells acc).length = acc.length := Lib.byteCells_length acc
            have HBL := Lib.hid hbl
            have hown1 := HOWN.out
            unfold OwnBy at hown1
            have hbs := HB.out.size
            have HBB := Lib.hid HB.out
            clear hN hbl
            rcases (by omega : F = 0 ∨ F = 1 ∨ F = 2) with rfl | rfl | rfl
            · have HCY : Hid (Lib.byteCells [UInt8.ofNat (N / 65536), UInt8.ofNat (N / 256 % 256), UInt8.ofNat (N % 256)] = [.int .u8 ((N : Int) / 65536), .int .u8 ((N : Int) / 256 % 256), .int .u8 ((N : Int) % 256)]) := cells3 hN4
              have HB3 : Hid (bytes3 (N, 0) = [UInt8.ofNat (N / 65536), UInt8.ofNat (N / 256 % 256), UInt8.ofNat (N % 256)]) := rfl
              go_wp2_with (at_builtin; refine wpList_append_own _ rfl _ _ 31 rfl w.heap.size 5 i0 (.int .u8 0) 1 1 Tryd.underlying31 hi hz0 hz1 hz2 rfl (by decide) _ _ _ rfl (hown1.alloc _) ⟨wr.heap.size, 0, none⟩ 3 3 (Lib.byteCells [UInt8.ofNat (N / 65536), UInt8.ofNat (N / 256 % 256), UInt8.ofNat (N % 256)]) rfl rfl ?c1 ?c2 ?c3 ?c4 ?c5 ?_)
              case c1 =>
                intro u v hj
                rw [HCY.out] at hj
                match u, hj with
                | 0, hj => simp at hj; subst hj; rfl
                | 1, hj => simp at hj; subst hj; rfl
                | 2, hj => simp at hj; subst hj; rfl
              case c2 => intro u hu; rw [HCY.out] at hu; simp at hu; rcases hu with rfl | rfl | rfl <;> rfl
              case c3 => unfold maxLen; omega
              case c4 => omega
              case c5 => omega
              intro v' w3 hown' hgrow _
              have hO3 := OwnBy.more (l := acc) (m := [UInt8.ofNat (N / 65536), UInt8.ofNat (N / 256 % 256), UInt8.ofNat (N % 256)]) hown'
              have hb3 : Below w.heap.size wr w3 := ((Below.refl _ _).alloc (by omega) _).grown hgrow (by simp; omega) (fun k hk => (World.ownsRow.lt hown1 k hk).1)
              go_wp2
              go_roundw
              case rel => exact ⟨k + 4, acc ++ bytes3 (N, 0), by omega, (by have := hk4.out; show _ % 4 = 0; omega), by go_num, (by rw [HB3.out, List.length_append]; simp; omega), HNX.out, hO3, HBB.out.trans hb3⟩
              case measure => simp [intOf]; omega
            · have HCY : Hid (Lib.byteCells [UInt8.ofNat (N / 65536), UInt8.ofNat (N / 256 % 256)] = [.int .u8 ((N : Int) / 65536), .int .u8 ((N : Int) / 256 % 256)]) := cellsC2 hN4
              have HB3 : Hid (bytes3 (N, 1) = [UInt8.ofNat (N / 65536), UInt8.ofNat (N / 256 % 256)]) := rfl
              go_wp2_with (at_builtin; refine wpList_append_own _ rfl _ _ 31 rfl w.heap.size 5 i0 (.int .u8 0) 1 1 Tryd.underlying31 hi hz0 hz1 hz2 rfl (by decide) _ _ _ rfl (hown1.alloc _) ⟨wr.heap.size, 0, none⟩ 2 3 (Lib.byteCells [UInt8.ofNat (N / 65536), UInt8.ofNat (N / 256 % 256)]) rfl rfl ?c1 ?c2 ?c3 ?c4 ?c5 ?_)
              case c1 =>
                intro u v hj
                rw [HCY.out] at hj
                match u, hj with
                | 0, hj => simp at hj; subst hj; rfl
                | 1, hj => simp at hj; subst hj; rfl
              case c2 => intro u hu; rw [HCY.out] at hu; simp at hu; rcases hu with rfl | rfl <;> rfl
              case c3 => unfold maxLen; omega
              case c4 => omega
              case c5 => omega
              intro v' w3 hown' hgrow _
              have hO3 := OwnBy.more (l := acc) (m := [UInt8.ofNat (N / 65536), UInt8.ofNat (N / 256 % 256)]) hown'
              have hb3 : Below w.heap.size wr w3 := ((Below.refl _ _).alloc (by omega) _).grown hgrow (by simp; omega) (fun k hk => (World.ownsRow.lt hown1 k hk).1)
              go_wp2
              go_roundw
              case rel => exact ⟨k + 4, acc ++ bytes3 (N, 1), by omega, (by have := hk4.out; show _ % 4 = 0; omega), by go_num, (by rw [HB3.out, List.length_append]; simp; omega), HNX.out, hO3, HBB.out.trans hb3⟩
              case measure => simp [intOf]; omega
            · have HCY : Hid (Lib.byteCells [UInt8.ofNat (N / 65536)] = [.int .u8 ((N : Int) / 65536)]) := cells1 hN4
              have HB3 : Hid (bytes3 (N, 2) = [UInt8.ofNat (N / 65536)]) := rfl
              go_wp2_with (at_builtin; refine wpList_append_own _ rfl _ _ 31 rfl w.heap.size 5 i0 (.int .u8 0) 1 1 Tryd.underlying31 hi hz0 hz1 hz2 rfl (by decide) _ _ _ rfl (hown1.alloc _) ⟨wr.heap.size, 0, none⟩ 1 3 (Lib.byteCells [UInt8.ofNat (N / 65536)]) rfl rfl ?c1 ?c2 ?c3 ?c4 ?c5 ?_)
              case c1 =>
                intro u v hj
                rw [HCY.out] at hj
                match u, hj with
                | 0, hj => simp at hj; subst hj; rfl
              case c2 => intro u hu; rw [HCY.out] at hu; simp at hu; rcases hu with rfl <;> rfl
              case c3 => unfold maxLen; omega
              case c4 => omega
              case c5 => omega
              intro v' w3 hown' hgrow _
              have hO3 := OwnBy.more (l := acc) (m := [UInt8.ofNat (N / 65536)]) hown'
              have hb3 : Below w.heap.size wr w3 := ((Below.refl _ _).alloc (by omega) _).grown hgrow (by simp; omega) (fun k hk => (World.ownsRow.lt hown1 k hk).1)
              go_wp2
              go_roundw
              case rel => exact ⟨k + 4, acc ++ bytes3 (N, 2), by omega, (by have := hk4.out; show _ % 4 = 0; omega), by go_num, (by rw [HB3.out, List.length_append]; simp; omega), HNX.out, hO3, HBB.out.trans hb3⟩
              case measure => simp [intOf]; omega
      · have HE : Hid (mdB s.data.toList = some acc) := by show _ = _; rw [HG.out, drop_out s k (by omega)]; simp [mdB]
        have hback := fun m => OwnBy.back (hown.drewN m) 31 9 5 Tryd.underlying31 Tryd.underlying5 Tryd.underlying9
        have hal' := hal
        go_wp2_with fail
        go_quiet ((go_at_call 88; refine Calls.quiet_of_same (l5Base_same _ _ (by rw [str_size]; omega))))
        go_wp2
        go_ret2
        exact debRet_fin HE.out (by omega) (by rw [str_list]; exact str_eq_s _ _) (below_drewN hb _)
  · have hq : (((s.size : Int) % 4) != 0) = true := by rw [bne_iff_ne]; omega
    have HN : Hid (dB s.data.toList = none) := dB_none fun b e => by
      have := congrArg List.length e
      rw [b64_len, size_list] at this; omega
    clear h4
    go_enter Tryd.func92, Tryd.ntmps92
    go_wp2
    go_ret2
    exact debRet_none HN.out ((Below.refl _ _).alloc (Nat.le_refl _) _)
set_option maxRecDepth 100000 in
set_option maxHeartbeats 4000000 in
theorem decodeBaseS_any (a : Option Addr) (n c : Nat) (xs : List (List UInt8)) (w : World) (hr : RdL w a n xs) (hn : n ≤ 1073741824) (hx : ∀ x ∈ xs, x.length ≤ 1073741000) :
    Calls Tryd.prog 68 #[.slice a n c] w (DecRet (decB xs) w) := by
  have HX := Lib.hid hx
  have HLEN := Lib.hid hr.1
  have HR := Lib.hid hr.2
  clear hx hr
  go_enter Tryd.func68, Tryd.ntmps68
  go_wp2_with fail
  go_loop [4, 5] (fun l i => ∃ (k : Nat) (t : List UInt8), k ≤ n ∧ i = .int .i64 k ∧ l = .string (str t) ∧ t = (xs.take k).flatten ∧ t.length ≤ 600) (fun _ i => n - (intOf i).toNat)
  case atStart => exact ⟨0, [], by omega, rfl, rfl, rfl, by simp⟩
  case round =>
    obtain ⟨k, t, hk, rfl, rfl, ht, hl⟩ := hrel
    have HT := Lib.hid ht
    have htz := str_size t
    clear ht
    by_cases hlt : k < n
    · have hkx : k < xs.length := by rw [HLEN.out]; exact hlt
      obtain ⟨b, off, rfl, hbl, hcell⟩ := HR.out.resolve_left (by omega)
      have c0 : w.cell? ⟨b, off + k, none⟩ = some (.string (str xs[k])) := hcell k hkx
      have hzk : (str xs[k]).size ≤ 1073741000 := by rw [str_size]; exact HX.out _ (List.getElem_mem hkx)
      have HN : Hid (str t ++ str xs[k] = str (xs.take (k + 1)).flatten) := by show _ = _; rw [str_app, HT.out, flat_take xs k hkx]
      have hap : (str t ++ str xs[k]).size = (str t).size + (str xs[k]).size := ByteArray.size_append
      have HZ : Hid ((xs.take (k + 1)).flatten.length = (str t ++ str xs[k]).size) := by show _ = _; rw [HN.out, str_size]
      clear hcell
      generalize str xs[k] = x at *
      by_cases h400 : 600 < (str t ++ x).size
      · have h4 : 600 < (str t).size + x.size := by rw [← hap]; exact h400
        have HE : Hid (decB xs = none) := by show _ = _; apply decB_long; have := flat_le xs (k + 1); have := HZ.out; omega
        clear h400
        go_wp2
        go_ret2
        exact decRet_none HE.out rfl (Below.refl _ _)
      · have h4 : ¬ 600 < (str t).size + x.size := by rw [← hap]; exact h400
        go_wp2
        go_round
        case rel => exact ⟨k + 1, _, by omega, by go_num, by rw [HN.out], rfl, by have := HZ.out; omega⟩
        case measure => simp [intOf]; omega
    · have HF : Hid (t = xs.flatten) := by show _ = _; rw [HT.out, List.take_of_length_le (by rw [HLEN.out]; omega)]
      have HD : Hid (decB xs = lim (dB t)) := by show _ = _; rw [HF.out]; rfl
      have HDB := Lib.hid (l5Debase_any (str t) w (by omega))
      go_wp2_with fail
      refine HDB.out.mono ?_
      rintro e w1 ⟨o, rfl, ho1, ho2, hb1⟩
      rw [str_list] at ho1 ho2 ⊢
      have hoz := str_size o
      cases hd : dB t with
      | none =>
        have HE : Hid (decB xs = none) := by show _ = _; rw [HD.out, hd]; rfl
        clear hd ho2
        go_wp2
        go_ret2
        exact decRet_none HE.out rfl hb1
      | some r =>
        obtain rfl := ho2 r hd
        by_cases h300 : o.length ≤ 300
        · have HE : Hid (decB xs = some o) := by show _ = _; rw [HD.out, hd, lim_in h300]
          have h3 : ¬ 300 < (str o).size := by omega
          clear hd ho2
          go_wp2
          go_ret2
          exact decRet_some HE.out rfl hb1
        · have HE : Hid (decB xs = none) := by show _ = _; rw [HD.out, hd, lim_out (by omega)]
          have h3 : 300 < (str o).size := by omega
          clear hd ho2
          go_wp2
          go_ret2
          exact decRet_none HE.out rfl hb1
set_option maxRecDepth 100000 in
set_option maxHeartbeats 1000000 in
theorem mwJoin_any (a : Option Addr) (n c : Nat) (xs : List (List UInt8)) (w : World) (hr : RdL w a n xs) (hn : n ≤ 100000) (hx : ∀ x ∈ xs, x.length ≤ 1000) :
    Calls Tryd.prog 33 #[.slice a n c] w fun e w' => e = .returned (.string (str xs.flatten)) ∧ w = w' := by
  have HX := Lib.hid hx
  have HLEN := Lib.hid hr.1
  have HR := Lib.hid hr.2
  clear hx hr
  go_enter Tryd.func33, Tryd.ntmps33
  go_wp2_with fail
  go_loop [3, 4] (fun l i => ∃ (k : Nat) (t : List UInt8), k ≤ n ∧ i = .int .i64 k ∧ l = .string (str t) ∧ t = (xs.take k).flatten ∧ t.length ≤ 1000 * k) (fun _ i => n - (intOf i).toNat)
  case atStart => exact ⟨0, [], by omega, rfl, rfl, rfl, by simp⟩
  case round =>
    obtain ⟨k, t, hk, rfl, rfl, ht, hl⟩ := hrel
    have HT := Lib.hid ht
    have htz := str_size t
    clear ht
    by_cases hlt : k < n
    · have hkx : k < xs.length := by rw [HLEN.out]; exact hlt
      obtain ⟨b, off, rfl, hbl, hcell⟩ := HR.out.resolve_left (by omega)
      have c0 : w.cell? ⟨b, off + k, none⟩ = some (.string (str xs[k])) := hcell k hkx
      have hzk : (str xs[k]).size ≤ 1000 := by rw [str_size]; exact HX.out _ (List.getElem_mem hkx)
      have HN : Hid (str t ++ str xs[k] = str (xs.take (k + 1)).flatten) := by show _ = _; rw [str_app, HT.out, flat_take xs k hkx]
      have hap : (str t ++ str xs[k]).size = (str t).size + (str xs[k]).size := ByteArray.size_append
      have HZ : Hid ((xs.take (k + 1)).flatten.length = (str t ++ str xs[k]).size) := by show _ = _; rw [HN.out, str_size]
      clear hcell
      generalize str xs[k] = x at *
      go_wp2
      go_round
      case rel => exact ⟨k + 1, _, by omega, by go_num, by rw [HN.out], rfl, by have := HZ.out; omega⟩
      case measure => simp [intOf]; omega
    · have HF : Hid (t = xs.flatten) := by show _ = _; rw [HT.out, List.take_of_length_le (by rw [HLEN.out]; omega)]
      go_wp2
      go_ret
      exact ⟨ret_str (by rw [HF.out]), rfl⟩
end Go.Proofs.YtjnpkmenlecdmabDoor
