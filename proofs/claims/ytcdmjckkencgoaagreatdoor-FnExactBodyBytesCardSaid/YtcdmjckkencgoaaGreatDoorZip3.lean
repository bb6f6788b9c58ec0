/-
  Several texts in one. No statement is proved here.
-/
import Derived.Test.YtcdmjckkencgoaaGreatDoorZip2
import Derived.Deep.QuietTactic
import Derived.BigQuiet
import Derived.Test.YtcdmjckkencgoaaGreatDoorShelf
import Derived.Test.YtcdmjckkencgoaaGreatDoorRowL
import Derived.Test.YtcdmjckkencgoaaGreatDoorQuietB
import Derived.RegionTactic
import Derived.ChangeAlike
import Derived.Outline
import Derived.Maps.AppendAt
import Derived.Deep.RegionLaw
import Derived.Deep.RegionHeld3
import Derived.Lib.Join
import Derived.Test.YtcdmjckkencgoaaGreatDoorZip1
section
namespace Go.Proofs.YtcdmjckkencgoaaGreatDoor
open Go.RowKit

def ixI (o : Option Nat) : Int := match o with | some v => (v : Int) | none => -1
/-- Bytes in a row of the call's own. -/
def OwnBy (B : Nat) (v : Value) (l : List UInt8) (w : World) : Prop := w.ownsRow B 5 1 v l.length (Lib.byteCells l)
theorem OwnBy.empty (w : World) : OwnBy w.heap.size (.slice (some ⟨w.heap.size, 0, none⟩) 0 0) [] (w.alloc (.cells #[] 5)) :=
  ⟨rfl, .inr ⟨w.heap.size, 0, #[], rfl, Nat.le_refl _, by show (w.heap.push _)[w.heap.size]? = _; simp, Nat.le_refl _, by unfold maxLen; omega, rfl, rfl⟩⟩
theorem conv_nilC (w : World) (src dst e : TypeId) (hs : Tryz.prog.underlying src = some (.slice e)) (he : Tryz.prog.underlying e = some (.int .u8)) (hd : Tryz.prog.underlying dst = some .string) :
    (convert src dst (.slice none 0 0)).run Tryz.prog w = .ok (.string (str [])) w := by
  rw [run_convert_bytes_string w src dst e none 0 0 hs he hd]
  rfl
theorem str_eq_s (l : List UInt8) (s : ByteArray) : ((str l).toList == s.toList) = decide (l = s.data.toList) := by
  rw [beq_dec, decide_eq_decide]
  exact ⟨fun h => by rw [← h, str_list], fun h => by rw [h, str_of]⟩
theorem OwnBy.drewN {B : Nat} {v : Value} {l : List UInt8} {w : World} (h : OwnBy B v l w) (m : Nat) : OwnBy B v l (w.drewN m) := h
theorem OwnBy.back {B : Nat} {v : Value} {l : List UInt8} {w : World} (h : OwnBy B v l w) (src dst e : TypeId) (hs : Tryz.prog.underlying src = some (.slice e)) (he : Tryz.prog.underlying e = some (.int .u8)) (hd : Tryz.prog.underlying dst = some .string) :
    (convert src dst v).run Tryz.prog w = .ok (.string (str l)) w := by
  have ho := h
  unfold OwnBy at ho
  rcases h.2 with ⟨hv, h0⟩ | ⟨g, cap, cur, hv, _⟩
  · subst hv
    have : l = [] := List.length_eq_zero_iff.1 h0
    subst this
    exact conv_nilC w src dst e hs he hd
  · subst hv
    exact run_convert_bytes_back (P := Tryz.prog) w src dst e ⟨g, 0, none⟩ cap l hs he hd (fun j hj => by
      have := ho.cells (g := g) rfl j (.int .u8 (l[j].toNat : Int)) (by simp [Lib.byteCells, hj])
      exact this)
theorem alpha_index (c : UInt8) : Lib.indexByte alphaL c = ixI (i64 c) := by
  have key : ∀ n, n < 256 → Lib.indexByte alphaL (UInt8.ofNat n) = ixI (i64 (UInt8.ofNat n)) := by decide +kernel
  have := key c.toNat c.toNat_lt
  rw [UInt8.ofNat_toNat] at this; exact this
theorem indexLetters_any (c : UInt8) (w : World) : Calls Tryz.prog 146 #[.string (str alphaL), .int .u8 c.toNat] w fun e w' => e = .returned (.int .i64 (ixI (i64 c))) ∧ w' = w := by
  refine (Tryz.strings_IndexByte (str alphaL) (c.toNat : Int) w).mono ?_
  rintro e w' ⟨rfl, rfl⟩
  refine ⟨ret_int ?_, rfl⟩
  rw [str_list, ← alpha_index]
  congr 1
  simp
set_option maxRecDepth 100000 in
set_option maxHeartbeats 4000000 in
theorem readLetters_any (s : ByteArray) (w : World) (hs : s.size ≤ 1073741000) :
    Calls Tryz.prog 112 #[.string s] w fun e w' => e = .returned (.string (str (rdL (0, 0, []) s.data.toList))) ∧ Below w.heap.size w w' := by
  go_enter Tryz.func112, Tryz.ntmps112
  go_wp2_with fail
  go_loopw [4, 5, 6] (fun n d i wr => ∃ (k N D : Nat) (acc : List UInt8), k ≤ s.size ∧ i = .int .i64 k ∧ n = .int .i64 N ∧ d = .int .i64 D ∧ acc.length ≤ k ∧ (D = 0 ∨ D = 6 ∨ D = 4 ∨ D = 2) ∧ N < 2 ^ D ∧ rdL (0, 0, []) s.data.toList = rdL (N, D, acc) (s.data.toList.drop k) ∧ Bld w.heap.size w.heap.size acc wr ∧ Below w.heap.size w wr) (fun _ _ i _ => s.size - (intOf i).toNat)
  case atStart => exact ⟨0, 0, 0, [], by omega, rfl, rfl, rfl, by simp, .inl rfl, by decide, rfl, bld_fresh w, (Below.refl _ _).alloc (Nat.le_refl _) _⟩
  case round =>
    obtain ⟨k, N, D, acc, hk, rfl, rfl, rfl, hal, hD, hN, hg, hB, hb⟩ := hrel
    have HG := Lib.hid hg
    clear hg
    by_cases hlt : k < s.size
    · cases hv : i64 s[k] with
      | none =>
        have HE : Hid (rdL (0, 0, []) s.data.toList = acc) := by show _ = _; rw [HG.out, drop_at s k hlt, rdL_stop _ hv]
        have HX : Hid (ixI (i64 s[k]) = -1) := by show _ = _; rw [hv]; rfl
        clear hv hD hN
        go_wp2_with fail
        refine (indexLetters_any s[k] _).mono ?_
        rintro e w1 ⟨rfl, rfl⟩
        rw [HX.out]
        go_wp2_with fail
        refine (bString_any _ _ _ _ hB).mono ?_
        rintro e w5 ⟨rfl, hb5⟩
        go_wp2
        go_ret
        exact ⟨ret_str (by rw [HE.out]), hb.trans hb5⟩
      | some v =>
        have hv64 := i64_lt hv
        have HS : Hid (rdL (0, 0, []) s.data.toList = rdL (stp (N, D, acc) v) (s.data.toList.drop (k + 1))) := by show _ = _; rw [HG.out, drop_at s k hlt, rdL_hit _ hv]
        have HX : Hid (ixI (i64 s[k]) = (v : Int)) := by show _ = _; rw [hv]; rfl
        clear hv
        rcases hD with rfl | rfl | rfl | rfl
        · obtain rfl : N = 0 := by simpa using hN
          rw [stp0] at HS
          clear hN
          go_wp2_with fail
          refine (indexLetters_any s[k] _).mono ?_
          rintro e w1 ⟨rfl, rfl⟩
          rw [HX.out]
          go_wp2
          go_roundw
          case rel => exact ⟨k + 1, v, 6, acc, by omega, by go_num, by go_num, rfl, by omega, by omega, by omega, HS.out, hB, hb⟩
          case measure => simp [intOf]; omega
        · rw [stp6] at HS
          have hN' : N < 64 := hN
          obtain ⟨b, hc, hbe⟩ : ∃ b : UInt8, (((N : Int) * 64 + v) / 16) = (b.toNat : Int) ∧ b = UInt8.ofNat ((N * 64 + v) / 16) := ⟨_, by rw [UInt8.toNat_ofNat']; omega, rfl⟩
          rw [← hbe] at HS
          clear hbe
          clear hN
          go_wp2_with fail
          refine (indexLetters_any s[k] _).mono ?_
          rintro e w1 ⟨rfl, rfl⟩
          rw [HX.out]
          go_wp2_with fail
          refine (writeByte_any _ _ _ b _ hB (by omega)).mono ?_
          rintro e w3 ⟨rfl, hB3, hb3⟩
          go_wp2
          go_roundw
          case rel => exact ⟨k + 1, _, 4, _, by omega, by go_num, by go_num, rfl, by rw [List.length_append, List.length_singleton]; omega, by omega, by omega, HS.out, hB3, hb.trans hb3⟩
          case measure => simp [intOf]; omega
        · rw [stp4] at HS
          have hN' : N < 16 := hN
          obtain ⟨b, hc, hbe⟩ : ∃ b : UInt8, (((N : Int) * 64 + v) / 4) = (b.toNat : Int) ∧ b = UInt8.ofNat ((N * 64 + v) / 4) := ⟨_, by rw [UInt8.toNat_ofNat']; omega, rfl⟩
          rw [← hbe] at HS
          clear hbe
          clear hN
          go_wp2_with fail
          refine (indexLetters_any s[k] _).mono ?_
          rintro e w1 ⟨rfl, rfl⟩
          rw [HX.out]
          go_wp2_with fail
          refine (writeByte_any _ _ _ b _ hB (by omega)).mono ?_
          rintro e w3 ⟨rfl, hB3, hb3⟩
          go_wp2
          go_roundw
          case rel => exact ⟨k + 1, _, 2, _, by omega, by go_num, by go_num, rfl, by rw [List.length_append, List.length_singleton]; omega, by omega, by omega, HS.out, hB3, hb.trans hb3⟩
          case measure => simp [intOf]; omega
        · rw [stp2] at HS
          have hN' : N < 4 := hN
          obtain ⟨b, hc, hbe⟩ : ∃ b : UInt8, ((N : Int) * 64 + v) = (b.toNat : Int) ∧ b = UInt8.ofNat (N * 64 + v) := ⟨_, by rw [UInt8.toNat_ofNat']; omega, rfl⟩
          rw [← hbe] at HS
          have hb256 := b.toNat_lt
          clear hbe
          clear hN
          go_wp2_with fail
          refine (indexLetters_any s[k] _).mono ?_
          rintro e w1 ⟨rfl, rfl⟩
          rw [HX.out]
          go_wp2_with fail
          refine (writeByte_any _ _ _ b _ hB (by omega)).mono ?_
          rintro e w3 ⟨rfl, hB3, hb3⟩
          go_wp2
          go_roundw
          case rel => exact ⟨k + 1, 0, 0, _, by omega, by go_num, by first | rfl | (simp; try omega), rfl, by rw [List.length_append, List.length_singleton]; omega, by omega, by omega, HS.out, hB3, hb.trans hb3⟩
          case measure => simp [intOf]; omega
    · have HE : Hid (rdL (0, 0, []) s.data.toList = acc) := by show _ = _; rw [HG.out, drop_out s k (by omega)]; rfl
      go_wp2_with fail
      refine (bString_any _ _ _ _ hB).mono ?_
      rintro e w5 ⟨rfl, hb5⟩
      go_wp2
      go_ret
      exact ⟨ret_str (by rw [HE.out]), hb.trans hb5⟩
theorem rdL_len : ∀ (t : List UInt8) (st : Nat × Nat × List UInt8), (rdL st t).length ≤ st.2.2.length + t.length
  | [], st => by simp [rdL]
  | c :: t, st => by
    cases h : i64 c with
    | none => rw [rdL_stop _ h]; omega
    | some v =>
      rw [rdL_hit _ h]
      have := rdL_len t (stp st v)
      have h2 : (stp st v).2.2.length ≤ st.2.2.length + 1 := by unfold stp; split <;> simp
      rw [List.length_cons]; omega
theorem flat_take (xs : List (List UInt8)) (k : Nat) (h : k < xs.length) : (xs.take (k + 1)).flatten = (xs.take k).flatten ++ xs[k] := by
  rw [List.take_succ_eq_append_getElem h, List.flatten_append]; simp
theorem flat_le (xs : List (List UInt8)) (k : Nat) : (xs.take k).flatten.length ≤ xs.flatten.length := by
  conv => rhs; rw [← List.take_append_drop k xs, List.flatten_append, List.length_append]
  omega
set_option maxRecDepth 100000 in
set_option maxHeartbeats 4000000 in
theorem decodeBase_any (a : Option Addr) (n c : Nat) (xs : List (List UInt8)) (w : World) (hr : RdL w a n xs) (hn : n ≤ 1073741824) (hx : ∀ x ∈ xs, x.length ≤ 1073741000) :
    Calls Tryz.prog 79 #[.slice a n c] w (DecRet (decB xs) w) := by
  have HX := Lib.hid hx
  have HLEN := Lib.hid hr.1
  have HR := Lib.hid hr.2
  clear hx hr
  go_enter Tryz.func79, Tryz.ntmps79
  go_wp2_with fail
  go_loop [4, 10] (fun l i => ∃ (k : Nat) (t : List UInt8), k ≤ n ∧ i = .int .i64 k ∧ l = .string (str t) ∧ t = (xs.take k).flatten ∧ t.length ≤ 400) (fun _ i => n - (intOf i).toNat)
  case atStart => exact ⟨0, [], by omega, rfl, rfl, rfl, by simp⟩
  case round =>
    obtain ⟨k, t, hk, rfl, rfl, ht, hl⟩ := hrel
    have HT := Lib.hid ht
    have htz := str_size t
    clear ht
    by_cases hlt : k < n
    · have hkx : k < xs.length := by rw [HLEN.out]; exact hlt
      obtain ⟨b, off, rfl, hbl, hcell⟩ := HR.out.resolve_left (by omega)
      have c0 : w.cell? ⟨b, off + k, none⟩ = some (.string (str xs[k])) := hcell k hkx
      have hzk : (str xs[k]).size ≤ 1073741000 := by rw [str_size]; exact HX.out _ (List.getElem_mem hkx)
      have HN : Hid (str t ++ str xs[k] = str (xs.take (k + 1)).flatten) := by show _ = _; rw [str_app, HT.out, flat_take xs k hkx]
      have hap : (str t ++ str xs[k]).size = (str t).size + (str xs[k]).size := ByteArray.size_append
      have HZ : Hid ((xs.take (k + 1)).flatten.length = (str t ++ str xs[k]).size) := by show _ = _; rw [HN.out, str_size]
      clear hcell
      generalize str xs[k] = x at *
      by_cases h400 : 400 < (str t ++ x).size
      · have h4 : 400 < (str t).size + x.size := by rw [← hap]; exact h400
        have HE : Hid (decB xs = none) := by show _ = _; apply decB_long; have := flat_le xs (k + 1); have := HZ.out; omega
        clear h400
        go_wp2
        go_ret2
        exact decRet_none HE.out rfl (Below.refl _ _)
      · have h4 : ¬ 400 < (str t).size + x.size := by rw [← hap]; exact h400
        go_wp2
        go_round
        case rel => exact ⟨k + 1, _, by omega, by go_num, by rw [HN.out], rfl, by have := HZ.out; omega⟩
        case measure => simp [intOf]; omega
    · have HF : Hid (t = xs.flatten) := by show _ = _; rw [HT.out, List.take_of_length_le (by rw [HLEN.out]; omega)]
      have hz : (str t).size ≤ 400 := by omega
      have HD : Hid (decB xs = lim (dB t)) := by show _ = _; rw [HF.out]; rfl
      go_wp2_with fail
      refine (readLetters_any (str t) _ (by omega)).mono ?_
      rintro e w1 ⟨rfl, hb1⟩
      rw [str_list]
      have HRB : Hid (dB t = if b64 (rdL (0, 0, []) t) = t then some (rdL (0, 0, []) t) else none) := rfl
      have HRL : Hid ((rdL (0, 0, []) t).length ≤ t.length) := by have := rdL_len t (0, 0, []); show _ ≤ _; simpa using this
      generalize rdL (0, 0, []) t = r at *
      have hrl : r.length ≤ 400 := by have := HRL.out; omega
      have hrz := str_size r
      go_wp2_with fail
      refine (lettersOf_any (str r) _ (by omega)).mono ?_
      rintro e w2 ⟨rfl, hb2⟩
      rw [str_list]
      by_cases he : b64 r = t
      · have e1 : ((str (b64 r)).toList == (str t).toList) = true := by rw [he]; simp
        have HE : Hid (decB xs = some r) := by
          show _ = _
          have := b64_len r
          rw [HD.out, HRB.out, if_pos he, lim_in (by rw [he] at this; omega)]
        clear he
        go_wp2
        go_ret2
        exact decRet_some HE.out rfl (nx hb1 hb2)
      · have e1 : ((str (b64 r)).toList == (str t).toList) = false := by
          rw [beq_dec, decide_eq_false (fun e => he (str_inj e))]
        have HE : Hid (decB xs = none) := by show _ = _; rw [HD.out, HRB.out, if_neg he]; rfl
        clear he
        go_wp2
        go_ret2
        exact decRet_none HE.out rfl (nx hb1 hb2)
theorem l64_i64_nat : ∀ n, n < 256 → (i64 (UInt8.ofNat n)).isSome = true → l64 ((i64 (UInt8.ofNat n)).getD 0) = UInt8.ofNat n := by decide +kernel
theorem l64_i64 {c : UInt8} {v : Nat} (h : i64 c = some v) : l64 v = c := by
  have := l64_i64_nat c.toNat c.toNat_lt
  rw [UInt8.ofNat_toNat, h] at this; exact this rfl
theorem alpha_str {k : Nat} (h : k < 64) (h' : k < (str alphaL).size) : (str alphaL)[k] = l64 k := by
  have hl : alphaL.length = 64 := rfl
  rw [str_at]; unfold l64
  rw [List.getD_eq_getElem?_getD, List.getElem?_eq_getElem (by rw [hl]; exact h)]; rfl
theorem l5Digit_any (c : UInt8) (w : World) : Calls Tryz.prog 138 #[.int .u8 c.toNat] w fun e w' => e = .returned (.int .i64 (ixI (i64 c))) ∧ w = w' := by
  have hls := alphaL_size
  go_enter Tryz.func138, Tryz.ntmps138
  go_wp2_with fail
  refine (l5Letters_any _).mono ?_
  rintro e w1 ⟨rfl, rfl⟩
  go_wp2_with fail
  go_loop [4] (fun i => ∃ k : Nat, k ≤ 64 ∧ i = .int .i64 k ∧ ∀ j, j < k → l64 j ≠ c) (fun i => 64 - (intOf i).toNat)
  case atStart => exact ⟨0, by omega, rfl, fun j h => by omega⟩
  case round =>
    obtain ⟨k, hk, rfl, hall⟩ := hrel
    have HA := Lib.hid hall
    clear hall
    by_cases hlt : k < 64
    · have hks : k < (str alphaL).size := by omega
      have HK := Lib.hid (alpha_str hlt hks)
      by_cases he : l64 k = c
      · have e1 : (((str alphaL)[k].toNat : Int) == (c.toNat : Int)) = true := by rw [HK.out, he]; simp
        have HE : Hid (ixI (i64 c) = (k : Int)) := by show _ = _; rw [← he, i64_l64_nat k hlt]; rfl
        clear he
        go_wp2
        go_ret
        exact ⟨ret_int HE.out.symm, rfl⟩
      · have e1 : (((str alphaL)[k].toNat : Int) == (c.toNat : Int)) = false := by rw [beq_eq_false_iff_ne, HK.out]; intro e; exact he (UInt8.toNat_inj.1 (by omega))
        have HE := Lib.hid he
        clear he
        go_wp2
        go_round
        case rel => exact ⟨k + 1, by omega, by go_num, fun j hjk => by
          by_cases e : j = k
          · subst e; exact HE.out
          · exact HA.out j (by omega)⟩
        case measure => simp [intOf]; omega
    · have HE : Hid (ixI (i64 c) = -1) := by
        show _ = _
        cases hv : i64 c with
        | none => rfl
        | some v => exact absurd (l64_i64 hv) (HA.out v (by have := i64_lt hv; omega))
      go_wp2
      go_ret
      exact ⟨ret_int HE.out.symm, rfl⟩
/-- Letters read one by one, k of them. -/
def ufk (last : Bool) (f : Nat → UInt8) : Nat → Option (Nat × Nat)
  | 0 => some (0, 0)
  | j + 1 => u4 last j (ufk last f j) (f j)
theorem ufk_none {last : Bool} {f : Nat → UInt8} {j : Nat} (h : ufk last f j = none) : ∀ m, ufk last f (j + m) = none
  | 0 => h
  | m + 1 => by rw [← Nat.add_assoc, ufk, ufk_none h m]; rfl
theorem ufk_four (last : Bool) (f : Nat → UInt8) : ufk last f 4 = un4 last (f 0) (f 1) (f 2) (f 3) := rfl
theorem drop4 (s : ByteArray) (k : Nat) (h : k + 4 ≤ s.size) : s.data.toList.drop k = s[k] :: s[k + 1] :: s[k + 2] :: s[k + 3] :: s.data.toList.drop (k + 4) := by
  rw [drop_at s k (by omega), drop_at s (k + 1) (by omega), drop_at s (k + 2) (by omega), drop_at s (k + 3) (by omega)]
def fAt (s : ByteArray) (k j : Nat) : UInt8 := s.data.toList.getD (k + j) 0
theorem fAt_eq (s : ByteArray) (k j : Nat) (h : k + j < s.size) : fAt s k j = s[k + j] := by
  unfold fAt; rw [List.getD_eq_getElem?_getD, List.getElem?_eq_getElem (by rw [size_list]; exact h)]; rfl
theorem mdB_at (s : ByteArray) (k : Nat) (h : k + 4 ≤ s.size) : mdB (s.data.toList.drop k) = match ufk (decide (k + 4 = s.size)) (fAt s k) 4 with | none => none | some x => (mdB (s.data.toList.drop (k + 4))).map (bytes3 x ++ ·) := by
  rw [drop4 s k h, mdB, ufk_four, fAt_eq s k 0 (by omega), fAt_eq s k 1 (by omega), fAt_eq s k 2 (by omega), fAt_eq s k 3 (by omega)]
  have : (s.data.toList.drop (k + 4)).isEmpty = decide (k + 4 = s.size) := by
    rw [Bool.eq_iff_iff]; simp only [List.isEmpty_iff, List.drop_eq_nil_iff, size_list, decide_eq_true_eq]; omega
  rw [this]; rfl
theorem ufk_bad {last : Bool} {f : Nat → UInt8} {j N F : Nat} (h : ufk last f j = some (N, F)) (h1 : ¬ (f j = 61 ∧ 2 ≤ j ∧ last = true)) (h2 : 0 < F ∨ i64 (f j) = none) : ufk last f (j + 1) = none := by
  rw [ufk, h]; unfold u4
  simp only [Option.bind_some]
  rw [if_neg h1]
  rcases h2 with h2 | h2
  · rw [if_pos h2]
  · rw [h2]; split <;> rfl
theorem ufk_pad {last : Bool} {f : Nat → UInt8} {j N F : Nat} (h : ufk last f j = some (N, F)) (h1 : f j = 61 ∧ 2 ≤ j ∧ last = true) : ufk last f (j + 1) = some (N * 64, F + 1) := by
  rw [ufk, h]; unfold u4
  simp only [Option.bind_some]
  rw [if_pos h1]
theorem ufk_let {last : Bool} {f : Nat → UInt8} {j N v : Nat} (h : ufk last f j = some (N, 0)) (h1 : ¬ (f j = 61 ∧ 2 ≤ j ∧ last = true)) (h2 : i64 (f j) = some v) : ufk last f (j + 1) = some (N * 64 + v, 0) := by
  rw [ufk, h]; unfold u4
  simp only [Option.bind_some]
  rw [if_neg h1, if_neg (by omega), h2]; rfl
def DebRet (s : List UInt8) (w : World) (e : Ending) (w' : World) : Prop := ∃ o : List UInt8, e = .returned (.tuple #[.string (str o), .bool (dB s).isSome]) ∧ o.length ≤ s.length ∧ (∀ b, dB s = some b → o = b) ∧ Below w.heap.size w w'
theorem debRet_none {s : List UInt8} {w w' : World} (h : dB s = none) (hb : Below w.heap.size w w') : DebRet s w (.returned (.tuple #[.string ⟨#[]⟩, .bool false])) w' := ⟨[], by rw [h]; rfl, by simp, (fun b e => by rw [h] at e; cases e), hb⟩
theorem debRet_fin {s : ByteArray} {acc : List UInt8} {w w' : World} {q : Bool} (h : mdB s.data.toList = some acc) (hl : acc.length ≤ s.size) (hq : q = decide (b64 acc = s.data.toList)) (hb : Below w.heap.size w w') : DebRet s.data.toList w (.returned (.tuple #[.string (str acc), .bool q])) w' := by
  refine ⟨acc, ?_, hl, fun b e => ?_, hb⟩
  · rw [hq, dB_of_mdB_some h]
    by_cases he : b64 acc = s.data.toList
    · rw [if_pos he, decide_eq_true he]; rfl
    · rw [if_neg he, decide_eq_false he]; rfl
  · rw [dB_of_mdB_some h] at e
    split at e
    · exact Option.some.inj e
    · cases e
theorem OwnBy.more {B : Nat} {v : Value} {l m : List UInt8} {w : World} (h : w.ownsRow B 5 1 v (l.length + m.length) (Lib.byteCells l ++ Lib.byteCells m)) : OwnBy B v (l ++ m) w := by
  unfold OwnBy
  rw [List.length_append, show Lib.byteCells (l ++ m) = Lib.byteCells l ++ Lib.byteCells m by simp [Lib.byteCells]]
  exact h
theorem cells3 {N : Nat} (h : N < 16777216) : Lib.byteCells [UInt8.ofNat (N / 65536), UInt8.ofNat (N / 256 % 256), UInt8.ofNat (N % 256)] = [.int .u8 ((N : Int) / 65536), .int .u8 ((N : Int) / 256 % 256), .int .u8 ((N : Int) % 256)] := by
  simp only [Lib.byteCells, List.map_cons, List.map_nil, UInt8.toNat_ofNat', List.cons.injEq, Value.int.injEq, true_and, and_true]
  omega
theorem cellsC2 {N : Nat} (h : N < 16777216) : Lib.byteCells [UInt8.ofNat (N / 65536), UInt8.ofNat (N / 256 % 256)] = [.int .u8 ((N : Int) / 65536), .int .u8 ((N : Int) / 256 % 256)] := by
  simp only [Lib.byteCells, List.map_cons, List.map_nil, UInt8.toNat_ofNat', List.cons.injEq, Value.int.injEq, true_and, and_true]
  omega
theorem cells1 {N : Nat} (h : N < 16777216) : Lib.byteCells [UInt8.ofNat (N / 65536)] = [.int .u8 ((N : Int) / 65536)] := by
  simp only [Lib.byteCells, List.map_cons, List.map_nil, UInt8.toNat_ofNat', List.cons.injEq, Value.int.injEq, true_and, and_true]
  omega
theorem and255C (x : Int) (h0 : 0 ≤ x) (h1 : x < 2 ^ 63) : bits .and .i64 x 255 = x % 256 := bits_mask .i64 63 (by decide) wraps_i64C 8 (by decide) x h0 h1
set_option maxRecDepth 100000 in
set_option maxHeartbeats 4000000 in
theorem l5Debase_any (s : ByteArray) (w : World) (hs : s.size ≤ 1073741000) :
    Calls Tryz.prog 100 #[.string s] w (DebRet s.data.toList w) := by
  obtain ⟨i0, hi, hz0, hz1, hz2⟩ := info_parts bInfo
  by_cases h4 : s.size % 4 = 0
  · have hq : (((s.size : Int) % 4) != 0) = false := by simp; omega
    have H4 := Lib.hid h4
    clear h4
    go_enter Tryz.func100, Tryz.ntmps100
    go_wp2_with fail
    go_loopw [4, 5] (fun v i wr => ∃ (k : Nat) (acc : List UInt8), k ≤ s.size ∧ Hid (k % 4 = 0) ∧ i = .int .i64 k ∧ acc.length ≤ k ∧ mdB s.data.toList = (mdB (s.data.toList.drop k)).map (acc ++ ·) ∧ OwnBy w.heap.size v acc wr ∧ Below w.heap.size w wr) (fun _ i _ => s.size - (intOf i).toNat)
    case atStart => exact ⟨0, [], by omega, rfl, rfl, by simp, by rw [List.drop_zero]; cases mdB s.data.toList <;> simp, OwnBy.empty w, (Below.refl _ _).alloc (Nat.le_refl _) _⟩
    case round =>
      obtain ⟨k, acc, hk, hk4, rfl, hal, hg, hown, hb⟩ := hrel
      have HG := Lib.hid hg
      clear hg
      by_cases hlt : k < s.size
      · have hk4' : k + 4 ≤ s.size := by have := hk4.out; have := H4.out; omega
        have HM := Lib.hid (mdB_at s k hk4')
        have HOWN := Lib.hid hown
        have HB := Lib.hid hb
        clear hown hb
        go_wp2_with fail
        go_loop [6, 7, 8] (fun n f i => ∃ (j N F : Nat), j ≤ 4 ∧ i = .int .i64 j ∧ n = .int .i64 N ∧ f = .int .i64 F ∧ N < 64 ^ j ∧ (F = 0 ∨ F + 2 ≤ j) ∧ ufk (decide (k + 4 = s.size)) (fAt s k) j = some (N, F)) (fun _ _ i => 4 - (intOf i).toNat)
        case atStart => exact ⟨0, 0, 0, by omega, rfl, rfl, rfl, by decide, .inl rfl, rfl⟩
        case round =>
          obtain ⟨j, N, F, hj, rfl, rfl, rfl, hN, hF, hu⟩ := hrel
          have HU := Lib.hid hu
          clear hu
          by_cases hj4 : j < 4
          · have hkj : k + j < s.size := by omega
            have HC := Lib.hid (fAt_eq s k j hkj)
            have hN3 : N < 262144 := Nat.lt_of_lt_of_le hN (Nat.pow_le_pow_right (by omega) (show j ≤ 3 by omega))
            have HP : Hid (∀ v : Nat, v < 64 → N * 64 + v < 64 ^ (j + 1)) := fun v hv => by rw [Nat.pow_succ]; omega
            have HNO : Hid (ufk (decide (k + 4 = s.size)) (fAt s k) (j + 1) = none → dB s.data.toList = none) := fun h => by
              have h2 := ufk_none h (3 - j)
              rw [show j + 1 + (3 - j) = 4 by omega] at h2
              exact dB_of_mdB_none (by rw [HG.out, HM.out, h2]; rfl)
            have HBA : Hid (Below w.heap.size w wr) := HB.out
            clear hN
            by_cases h61 : s[k + j] = 61
            · have e61 := beq_t h61 (n := 61) rfl
              have HI : Hid (ixI (i64 s[k + j]) = -1) := by show _ = _; rw [h61, i64_61]; rfl
              by_cases hj2 : 2 ≤ j
              · by_cases hl : k + 4 = s.size
                · have el : (((k : Int) + 4) == (s.size : Int)) = true := by rw [beq_iff_eq]; omega
                  have HN1 := Lib.hid (ufk_pad HU.out ⟨by rw [HC.out]; exact h61, hj2, by simpa using hl⟩)
                  clear h61 hl
                  go_wp2_with fail
                  refine (l5Digit_any s[k + j] _).mono ?_
                  rintro e w1 ⟨rfl, rfl⟩
                  rw [HI.out]
                  go_wp2
                  go_round
                  case rel => exact ⟨j + 1, N * 64, F + 1, by omega, by go_num, by go_num, by go_num, by have := HP.out 0 (by omega); omega, by omega, HN1.out⟩
                  case measure => simp [intOf]; omega
                · have el : (((k : Int) + 4) == (s.size : Int)) = false := by rw [beq_eq_false_iff_ne]; omega
                  have HE := Lib.hid (HNO.out (ufk_bad HU.out (fun h => hl (by simpa using h.2.2)) (.inr (by rw [HC.out, h61]; exact i64_61))))
                  clear h61 hl
                  by_cases hF0 : 0 < F
                  all_goals
                    go_wp2_with fail
                    refine (l5Digit_any s[k + j] _).mono ?_
                    rintro e w1 ⟨rfl, rfl⟩
                    rw [HI.out]
                    go_wp2
                    go_ret2
                    exact debRet_none HE.out HBA.out
              · have HE := Lib.hid (HNO.out (ufk_bad HU.out (fun h => hj2 h.2.1) (.inr (by rw [HC.out, h61]; exact i64_61))))
                obtain rfl : F = 0 := by omega
                clear h61
                go_wp2_with fail
                refine (l5Digit_any s[k + j] _).mono ?_
                rintro e w1 ⟨rfl, rfl⟩
                rw [HI.out]
                go_wp2
                go_ret2
                exact debRet_none HE.out HBA.out
            · have e61 := beq_f h61 (n := 61) rfl
              have HC1 : Hid (¬ (fAt s k j = 61 ∧ 2 ≤ j ∧ decide (k + 4 = s.size) = true)) := fun h => h61 (by rw [← HC.out]; exact h.1)
              clear h61
              by_cases hF0 : 0 < F
              · have HE := Lib.hid (HNO.out (ufk_bad HU.out HC1.out (.inl hF0)))
                go_wp2_with fail
                refine (l5Digit_any s[k + j] _).mono ?_
                rintro e w1 ⟨rfl, rfl⟩
                go_wp2
                go_ret2
                exact debRet_none HE.out HBA.out
              · obtain rfl : F = 0 := by omega
                cases hv : i64 s[k + j] with
                | none =>
                  have HE := Lib.hid (HNO.out (ufk_bad HU.out HC1.out (.inr (by rw [HC.out]; exact hv))))
                  have HI : Hid (ixI (i64 s[k + j]) = -1) := by show _ = _; rw [hv]; rfl
                  clear hv
                  go_wp2_with fail
                  refine (l5Digit_any s[k + j] _).mono ?_
                  rintro e w1 ⟨rfl, rfl⟩
                  rw [HI.out]
                  go_wp2
                  go_ret2
                  exact debRet_none HE.out HBA.out
                | some v =>
                  have hv64 := i64_lt hv
                  have HN1 := Lib.hid (ufk_let HU.out HC1.out (by rw [HC.out]; exact hv))
                  have HI : Hid (ixI (i64 s[k + j]) = (v : Int)) := by show _ = _; rw [hv]; rfl
                  clear hv
                  go_wp2_with fail
                  refine (l5Digit_any s[k + j] _).mono ?_
                  rintro e w1 ⟨rfl, rfl⟩
                  rw [HI.out]
                  go_wp2
                  go_round
                  case rel => exact ⟨j + 1, N * 64 + v, 0, by omega, by go_num, by go_num, rfl, HP.out v hv64, .inl rfl, HN1.out⟩
                  case measure => simp [intOf]; omega
          · obtain rfl : j = 4 := by omega
            have hN4 : N < 16777216 := hN
            have hA1 := and255C ((N : Int) / 256) (by omega) (by omega)
            have hA2 := and255C (N : Int) (by omega) (by omega)
            have HNX : Hid (mdB s.data.toList = (mdB (s.data.toList.drop (k + 4))).map ((acc ++ bytes3 (N, F)) ++ ·)) := by
              show _ = _
              rw [HG.out, HM.out, HU.out]
              cases mdB (s.data.toList.drop (k + 4)) <;> simp
            have hbl : (Lib.byteCells acc).length = acc.length := Lib.byteCells_length acc
            have HBL := Lib.hid hbl
            have hown1 := HOWN.out
            unfold OwnBy at hown1
            have hbs := HB.out.size
            have HBB := Lib.hid HB.out
            clear hN hbl
            rcases (by omega : F = 0 ∨ F = 1 ∨ F = 2) with rfl | rfl | rfl
            · have HCY : Hid (Lib.byteCells [UInt8.ofNat (N / 65536), UInt8.ofNat (N / 256 % 256), UInt8.ofNat (N % 256)] = [.int .u8 ((N : Int) / 65536), .int .u8 ((N : Int) / 256 % 256), .int .u8 ((N : Int) % 256)]) := cells3 hN4
              have HB3 : Hid (bytes3 (N, 0) = [UInt8.ofNat (N / 65536), UInt8.ofNat (N / 256 % 256), UInt8.ofNat (N % 256)]) := rfl
              go_wp2_with (at_builtin; refine wpList_append_own _ rfl _ _ 81 rfl w.heap.size 5 i0 (.int .u8 0) 1 1 Tryz.underlying81 hi hz0 hz1 hz2 rfl (by decide) _ _ _ rfl (hown1.alloc _) ⟨wr.heap.size, 0, none⟩ 3 3 (Lib.byteCells [UInt8.ofNat (N / 65536), UInt8.ofNat (N / 256 % 256), UInt8.ofNat (N % 256)]) rfl rfl ?c1 ?c2 ?c3 ?c4 ?c5 ?_)
              case c1 =>
                intro u v hj
                rw [HCY.out] at hj
                match u, hj with
                | 0, hj => simp at hj; subst hj; rfl
                | 1, hj => simp at hj; subst hj; rfl
                | 2, hj => simp at hj; subst hj; rfl
              case c2 => intro u hu; rw [HCY.out] at hu; simp at hu; rcases hu with rfl | rfl | rfl <;> rfl
              case c3 => unfold maxLen; omega
              case c4 => omega
              case c5 => omega
              intro v' w3 hown' hgrow _
              have hO3 := OwnBy.more (l := acc) (m := [UInt8.ofNat (N / 65536), UInt8.ofNat (N / 256 % 256), UInt8.ofNat (N % 256)]) hown'
              have hb3 : Below w.heap.size wr w3 := ((Below.refl _ _).alloc (by omega) _).grown hgrow (by simp; omega) (fun k hk => (World.ownsRow.lt hown1 k hk).1)
              go_wp2
              go_roundw
              case rel => exact ⟨k + 4, acc ++ bytes3 (N, 0), by omega, (by have := hk4.out; show _ % 4 = 0; omega), by go_num, (by rw [HB3.out, List.length_append]; simp; omega), HNX.out, hO3, HBB.out.trans hb3⟩
              case measure => simp [intOf]; omega
            · have HCY : Hid (Lib.byteCells [UInt8.ofNat (N / 65536), UInt8.ofNat (N / 256 % 256)] = [.int .u8 ((N : Int) / 65536), .int .u8 ((N : Int) / 256 % 256)]) := cellsC2 hN4
              have HB3 : Hid (bytes3 (N, 1) = [UInt8.ofNat (N / 65536), UInt8.ofNat (N / 256 % 256)]) := rfl
              go_wp2_with (at_builtin; refine wpList_append_own _ rfl _ _ 81 rfl w.heap.size 5 i0 (.int .u8 0) 1 1 Tryz.underlying81 hi hz0 hz1 hz2 rfl (by decide) _ _ _ rfl (hown1.alloc _) ⟨wr.heap.size, 0, none⟩ 2 3 (Lib.byteCells [UInt8.ofNat (N / 65536), UInt8.ofNat (N / 256 % 256)]) rfl rfl ?c1 ?c2 ?c3 ?c4 ?c5 ?_)
              case c1 =>
                intro u v hj
                rw [HCY.out] at hj
                match u, hj with
                | 0, hj => simp at hj; subst hj; rfl
                | 1, hj => simp at hj; subst hj; rfl
              case c2 => intro u hu; rw [HCY.out] at hu; simp at hu; rcases hu with rfl | rfl <;> rfl
              case c3 => unfold maxLen; omega
              case c4 => omega
              case c5 => omega
              intro v' w3 hown' hgrow _
              have hO3 := OwnBy.more (l := acc) (m := [UInt8.ofNat (N / 65536), UInt8.ofNat (N / 256 % 256)]) hown'
              have hb3 : Below w.heap.size wr w3 := ((Below.refl _ _).alloc (by omega) _).grown hgrow (by simp; omega) (fun k hk => (World.ownsRow.lt hown1 k hk).1)
              go_wp2
              go_roundw
              case rel => exact ⟨k + 4, acc ++ bytes3 (N, 1), by omega, (by have := hk4.out; show _ % 4 = 0; omega), by go_num, (by rw [HB3.out, List.length_append]; simp; omega), HNX.out, hO3, HBB.out.trans hb3⟩
              case measure => simp [intOf]; omega
            · have HCY : Hid (Lib.byteCells [UInt8.ofNat (N / 65536)] = [.int .u8 ((N : Int) / 65536)]) := cells1 hN4
              have HB3 : Hid (bytes3 (N, 2) = [UInt8.ofNat (N / 65536)]) := rfl
              go_wp2_with (at_builtin; refine wpList_append_own _ rfl _ _ 81 rfl w.heap.size 5 i0 (.int .u8 0) 1 1 Tryz.underlying81 hi hz0 hz1 hz2 rfl (by decide) _ _ _ rfl (hown1.alloc _) ⟨wr.heap.size, 0, none⟩ 1 3 (Lib.byteCells [UInt8.ofNat (N / 65536)]) rfl rfl ?c1 ?c2 ?c3 ?c4 ?c5 ?_)
              case c1 =>
                intro u v hj
                rw [HCY.out] at hj
                match u, hj with
                | 0, hj => simp at hj; subst hj; rfl
              case c2 => intro u hu; rw [HCY.out] at hu; simp at hu; rcases hu with rfl <;> rfl
              case c3 => unfold maxLen; omega
              case c4 => omega
              case c5 => omega
              intro v' w3 hown' hgrow _
              have hO3 := OwnBy.more (l := acc) (m := [UInt8.ofNat (N / 65536)]) hown'
              have hb3 : Below w.heap.size wr w3 := ((Below.refl _ _).alloc (by omega) _).grown hgrow (by simp; omega) (fun k hk => (World.ownsRow.lt hown1 k hk).1)
              go_wp2
              go_roundw
              case rel => exact ⟨k + 4, acc ++ bytes3 (N, 2), by omega, (by have := hk4.out; show _ % 4 = 0; omega), by go_num, (by rw [HB3.out, List.length_append]; simp; omega), HNX.out, hO3, HBB.out.trans hb3⟩
              case measure => simp [intOf]; omega
      · have HE : Hid (mdB s.data.toList = some acc) := by show _ = _; rw [HG.out, drop_out s k (by omega)]; simp [mdB]
        have hback := fun m => OwnBy.back (hown.drewN m) 81 9 5 Tryz.underlying81 Tryz.underlying5 Tryz.underlying9
        have hal' := hal
        go_wp2_with fail
        go_quiet ((go_at_call 139; refine Calls.quiet_of_same (l5Base_same _ _ (by rw [str_size]; omega))))
        go_wp2
        go_ret2
        exact debRet_fin HE.out (by omega) (by rw [str_list]; exact str_eq_s _ _) (below_drewN hb _)
  · have hq : (((s.size : Int) % 4) != 0) = true := by rw [bne_iff_ne]; omega
    have HN : Hid (dB s.data.toList = none) := dB_none fun b e => by
      have := congrArg List.length e
      rw [b64_len, size_list] at this; omega
    clear h4
    go_enter Tryz.func100, Tryz.ntmps100
    go_wp2
    go_ret2
    exact debRet_none HN.out ((Below.refl _ _).alloc (Nat.le_refl _) _)
set_option maxRecDepth 100000 in
set_option maxHeartbeats 4000000 in
theorem decodeBaseS_any (a : Option Addr) (n c : Nat) (xs : List (List UInt8)) (w : World) (hr : RdL w a n xs) (hn : n ≤ 1073741824) (hx : ∀ x ∈ xs, x.length ≤ 1073741000) :
    Calls Tryz.prog 71 #[.slice a n c] w (DecRet (decB xs) w) := by
  have HX := Lib.hid hx
  have HLEN := Lib.hid hr.1
  have HR := Lib.hid hr.2
  clear hx hr
  go_enter Tryz.func71, Tryz.ntmps71
  go_wp2_with fail
  go_loop [4, 5] (fun l i => ∃ (k : Nat) (t : List UInt8), k ≤ n ∧ i = .int .i64 k ∧ l = .string (str t) ∧ t = (xs.take k).flatten ∧ t.length ≤ 600) (fun _ i => n - (intOf i).toNat)
  case atStart => exact ⟨0, [], by omega, rfl, rfl, rfl, by simp⟩
  case round =>
    obtain ⟨k, t, hk, rfl, rfl, ht, hl⟩ := hrel
    have HT := Lib.hid ht
    have htz := str_size t
    clear ht
    by_cases hlt : k < n
    · have hkx : k < xs.length := by rw [HLEN.out]; exact hlt
      obtain ⟨b, off, rfl, hbl, hcell⟩ := HR.out.resolve_left (by omega)
      have c0 : w.cell? ⟨b, off + k, none⟩ = some (.string (str xs[k])) := hcell k hkx
      have hzk : (str xs[k]).size ≤ 1073741000 := by rw [str_size]; exact HX.out _ (List.getElem_mem hkx)
      have HN : Hid (str t ++ str xs[k] = str (xs.take (k + 1)).flatten) := by show _ = _; rw [str_app, HT.out, flat_take xs k hkx]
      have hap : (str t ++ str xs[k]).size = (str t).size + (str xs[k]).size := ByteArray.size_append
      have HZ : Hid ((xs.take (k + 1)).flatten.length = (str t ++ str xs[k]).size) := by show _ = _; rw [HN.out, str_size]
      clear hcell
      generalize str xs[k] = x at *
      by_cases h400 : 600 < (str t ++ x).size
      · have h4 : 600 < (str t).size + x.size := by rw [← hap]; exact h400
        have HE : Hid (decB xs = none) := by show _ = _; apply decB_long; have := flat_le xs (k + 1); have := HZ.out; omega
        clear h400
        go_wp2
        go_ret2
        exact decRet_none HE.out rfl (Below.refl _ _)
      · have h4 : ¬ 600 < (str t).size + x.size := by rw [← hap]; exact h400
        go_wp2
        go_round
        case rel => exact ⟨k + 1, _, by omega, by go_num, by rw [HN.out], rfl, by have := HZ.out; omega⟩
        case measure => simp [intOf]; omega
    · have HF : Hid (t = xs.flatten) := by show _ = _; rw [HT.out, List.take_of_length_le (by rw [HLEN.out]; omega)]
      have HD : Hid (decB xs = lim (dB t)) := by show _ = _; rw [HF.out]; rfl
      have HDB := Lib.hid (l5Debase_any (str t) w (by omega))
      go_wp2_with fail
      refine HDB.out.mono ?_
      rintro e w1 ⟨o, rfl, ho1, ho2, hb1⟩
      rw [str_list] at ho1 ho2 ⊢
      have hoz := str_size o
      cases hd : dB t with
      | none =>
        have HE : Hid (decB xs = none) := by show _ = _; rw [HD.out, hd]; rfl
        clear hd ho2
        go_wp2
        go_ret2
        exact decRet_none HE.out rfl hb1
      | some r =>
        obtain rfl := ho2 r hd
        by_cases h300 : o.length ≤ 300
        · have HE : Hid (decB xs = some o) := by show _ = _; rw [HD.out, hd, lim_in h300]
          have h3 : ¬ 300 < (str o).size := by omega
          clear hd ho2
          go_wp2
          go_ret2
          exact decRet_some HE.out rfl hb1
        · have HE : Hid (decB xs = none) := by show _ = _; rw [HD.out, hd, lim_out (by omega)]
          have h3 : 300 < (str o).size := by omega
          clear hd ho2
          go_wp2
          go_ret2
          exact decRet_none HE.out rfl hb1
end Go.Proofs.YtcdmjckkencgoaaGreatDoor
end

section
namespace Go.Proofs.YtcdmjckkencgoaaGreatDoor
open Go.RowKit

theorem hex_at {n : Nat} (h : n < 16) (h' : n < (ByteArray.mk #[48, 49, 50, 51, 52, 53, 54, 55, 56, 57, 65, 66, 67, 68, 69, 70]).size) : (ByteArray.mk #[48, 49, 50, 51, 52, 53, 54, 55, 56, 57, 65, 66, 67, 68, 69, 70])[n] = hexC n := by
  have key : ∀ n, (h : n < 16) → (ByteArray.mk #[48, 49, 50, 51, 52, 53, 54, 55, 56, 57, 65, 66, 67, 68, 69, 70])[n]'h = hexC n := by decide +kernel
  exact key n h
theorem plainB_t {c : UInt8} {last : Bool} (h : (33 ≤ c.toNat ∧ c.toNat ≤ 126 ∧ c ≠ 61) ∨ (c = 32 ∧ last = false)) : plainB c last = true := by
  unfold plainB; simp only [Bool.or_eq_true, Bool.and_eq_true, decide_eq_true_eq, Bool.not_eq_true']
  rcases h with ⟨a, b, c⟩ | h
  · exact .inl ⟨⟨a, b⟩, c⟩
  · exact .inr h
theorem plainB_f {c : UInt8} {last : Bool} (h : ¬ ((33 ≤ c.toNat ∧ c.toNat ≤ 126 ∧ c ≠ 61) ∨ (c = 32 ∧ last = false))) : plainB c last = false := by
  cases hp : plainB c last
  · rfl
  · exfalso; apply h
    unfold plainB at hp; simp only [Bool.or_eq_true, Bool.and_eq_true, decide_eq_true_eq, Bool.not_eq_true'] at hp
    rcases hp with ⟨⟨a, b⟩, c⟩ | h
    · exact .inl ⟨a, b, c⟩
    · exact .inr h
theorem conv_oneC (w : World) (c : UInt8) : (convert 81 9 (.slice (some ⟨w.heap.size, 0, none⟩) 1 1)).run Tryz.prog (w.alloc (.cells #[.int .u8 c.toNat] 5)) = .ok (.string ⟨#[c]⟩) (w.alloc (.cells #[.int .u8 c.toNat] 5)) :=
  run_convert_bytes_back (P := Tryz.prog) (w.alloc (.cells #[.int .u8 (c.toNat : Int)] 5)) 81 9 5 ⟨w.heap.size, 0, none⟩ 1 [c] Tryz.underlying81 Tryz.underlying5 Tryz.underlying9 (fun j hj => by
    obtain rfl : j = 0 := by simpa using hj
    rw [add0, World.cell?_alloc_at _ _ _ _ rfl]; rfl)
end Go.Proofs.YtcdmjckkencgoaaGreatDoor
end

section
namespace Go.Proofs.YtcdmjckkencgoaaGreatDoor
open Go.RowKit

/-! What stands for a byte. -/
def selfC (c : UInt8) : Bool := alnumB c || decide (c = 45) || decide (c = 46)
def cbB (c : UInt8) : List UInt8 := if selfC c then [c] else if c = 32 then [95] else hexL c
def und (c : UInt8) : UInt8 := if c = 95 then 32 else c
def codL (l : List UInt8) : List UInt8 := l.flatMap cbB
theorem codL_nil : codL [] = [] := rfl
theorem codL_cons (c : UInt8) (l : List UInt8) : codL (c :: l) = cbB c ++ codL l := List.flatMap_cons
theorem codL_app (a b : List UInt8) : codL (a ++ b) = codL a ++ codL b := List.flatMap_append
theorem cbB_len (c : UInt8) : 1 ≤ (cbB c).length ∧ (cbB c).length ≤ 3 := by
  unfold cbB; split
  · simp
  · split <;> simp [hexL]
theorem codL_len : ∀ l : List UInt8, l.length ≤ (codL l).length ∧ (codL l).length ≤ 3 * l.length
  | [] => by simp [codL]
  | c :: l => by
    have h1 := cbB_len c
    have h2 := codL_len l
    rw [codL_cons, List.length_append, List.length_cons]; omega
def wB (c : UInt8) : Bool := okB c && decide (c ≠ 32) && decide (c ≠ 63)
theorem cbB_wB_nat : ∀ n, n < 256 → (cbB (UInt8.ofNat n)).all wB = true := by decide +kernel
theorem cbB_wB (c : UInt8) : ∀ x ∈ cbB c, okB x = true ∧ x ≠ 32 ∧ x ≠ 63 := by
  have h := cbB_wB_nat c.toNat c.toNat_lt
  rw [UInt8.ofNat_toNat] at h
  intro x hx
  have := List.all_eq_true.1 h x hx
  unfold wB at this
  simpa [and_assoc] using this
theorem codL_wB {l : List UInt8} {x : UInt8} (h : x ∈ codL l) : okB x = true ∧ x ≠ 32 ∧ x ≠ 63 := by
  obtain ⟨c, _, hc⟩ := List.mem_flatMap.1 h
  exact cbB_wB c x hc
theorem selfC_nat : ∀ n, n < 256 → selfC (UInt8.ofNat n) = true → UInt8.ofNat n ≠ 61 ∧ und (UInt8.ofNat n) = UInt8.ofNat n := by decide +kernel
theorem selfC_und {c : UInt8} (h : selfC c = true) : c ≠ 61 ∧ und c = c := by
  have := selfC_nat c.toNat c.toNat_lt
  rw [UInt8.ofNat_toNat] at this; exact this h
theorem hexV_und_nat : ∀ n, n < 256 → hexV (und (UInt8.ofNat n)) = hexV (UInt8.ofNat n) := by decide +kernel
theorem hexV_und (c : UInt8) : hexV (und c) = hexV c := by
  have := hexV_und_nat c.toNat c.toNat_lt
  rw [UInt8.ofNat_toNat] at this; exact this
theorem und_61 {c : UInt8} : und c = 61 ↔ c = 61 := by
  unfold und
  split
  · rename_i h; subst h; decide
  · exact Iff.rfl
/-! Bytes of which some are escaped. -/
/-- The byte that '=' and two digits stand for. -/
def escN (l : List UInt8) : Option UInt8 := match l with
  | _ :: x :: y :: _ => (match hexV x, hexV y with | some a, some b => some (UInt8.ofNat (16 * a + b)) | _, _ => none)
  | _ => none
def unE (f : UInt8 → UInt8) : List UInt8 → Option (List UInt8)
  | [] => some []
  | [c] => if c = 61 then none else some [f c]
  | [c, x] => if c = 61 then none else (unE f [x]).map (f c :: ·)
  | c :: x :: y :: m => if c = 61 then (match hexV x, hexV y with | some a, some b => (unE f m).map (UInt8.ofNat (16 * a + b) :: ·) | _, _ => none)
      else (unE f (x :: y :: m)).map (f c :: ·)
theorem unE_nil (f : UInt8 → UInt8) : unE f [] = some [] := by simp [unE]
theorem unE_plain (f : UInt8 → UInt8) {c : UInt8} (l : List UInt8) (h : c ≠ 61) : unE f (c :: l) = (unE f l).map (f c :: ·) := by
  match l with
  | [] => simp [unE, h]
  | [x] => simp [unE, h]
  | x :: y :: m => rw [unE, if_neg h]
theorem unE_esc (f : UInt8 → UInt8) {c : UInt8} (l : List UInt8) (h : c = 61) : unE f (c :: l) = match escN (c :: l) with | none => none | some b => (unE f (l.drop 2)).map (b :: ·) := by
  subst h
  match l with
  | [] => simp [unE, escN]
  | [x] => simp [unE, escN]
  | x :: y :: m =>
    rw [unE, if_pos rfl]
    unfold escN; dsimp only
    cases hexV x with
    | none => rfl
    | some a => cases hexV y <;> rfl
theorem escN_len {l : List UInt8} {b : UInt8} (h : escN l = some b) : 3 ≤ l.length := by
  match l, h with
  | _ :: _ :: _ :: _, _ => simp
theorem unE_und (l : List UInt8) : ∀ n, l.length ≤ n → unE id (l.map und) = unE und l := by
  intro n
  induction n generalizing l with
  | zero =>
    intro h
    have : l = [] := List.length_eq_zero_iff.1 (by omega)
    subst this; simp [unE]
  | succ n ih =>
    intro h
    match l with
    | [] => simp [unE]
    | c :: l =>
      rw [List.length_cons] at h
      by_cases h61 : c = 61
      · rw [List.map_cons, unE_esc id (l.map und) (und_61.2 h61), unE_esc und l h61]
        have he : escN (und c :: l.map und) = escN (c :: l) := by
          match l with
          | [] => rfl
          | [_] => rfl
          | x :: y :: m => unfold escN; simp only [List.map_cons, hexV_und]
        rw [he, ← List.map_drop]
        cases escN (c :: l) with
        | none => rfl
        | some b => dsimp only; rw [ih (l.drop 2) (by rw [List.length_drop]; omega)]
      · rw [List.map_cons, unE_plain id _ (fun e => h61 (und_61.1 e)), unE_plain und _ h61, ih l (by omega)]; rfl
theorem unE_len (f : UInt8 → UInt8) : ∀ (n : Nat) (l : List UInt8), l.length ≤ n → ∀ p, unE f l = some p → p.length ≤ l.length
  | _, [], _, p, h => by rw [unE_nil] at h; injection h with h; subst h; simp
  | n + 1, c :: l, hn, p, h => by
    rw [List.length_cons] at hn
    by_cases h61 : c = 61
    · rw [unE_esc f l h61] at h
      cases he : escN (c :: l) with
      | none => rw [he] at h; cases h
      | some b =>
        rw [he] at h
        obtain ⟨q, hq, rfl⟩ := Option.map_eq_some_iff.1 h
        have h3 := escN_len he
        have := unE_len f n (l.drop 2) (by rw [List.length_drop]; omega) q hq
        rw [List.length_drop] at this
        simp only [List.length_cons] at h3 ⊢; omega
    · rw [unE_plain f l h61] at h
      obtain ⟨q, hq, rfl⟩ := Option.map_eq_some_iff.1 h
      have := unE_len f n l (by omega) q hq
      simp only [List.length_cons]; omega
theorem unE_cb (c : UInt8) (m : List UInt8) : unE und (cbB c ++ m) = (unE und m).map (c :: ·) := by
  unfold cbB
  by_cases h : selfC c = true
  · obtain ⟨h1, h2⟩ := selfC_und h
    rw [if_pos h, List.singleton_append, unE_plain und m h1, h2]
  · rw [if_neg h]
    by_cases h32 : c = 32
    · subst h32
      rw [if_pos rfl, List.singleton_append, unE_plain und m (by decide)]; rfl
    · rw [if_neg h32]
      have hlt := c.toNat_lt
      have h1 := hexV_hexC_nat (c.toNat / 16) (by omega)
      have h2 := hexV_hexC_nat (c.toNat % 16) (by omega)
      show unE und (61 :: hexC (c.toNat / 16) :: hexC (c.toNat % 16) :: m) = _
      rw [unE, if_pos rfl, h1, h2]
      dsimp only
      rw [show 16 * (c.toNat / 16) + c.toNat % 16 = c.toNat by omega, UInt8.ofNat_toNat]
theorem unE_code : ∀ l : List UInt8, unE und (codL l) = some l
  | [] => by rw [codL_nil, unE_nil]
  | c :: l => by rw [codL_cons, unE_cb, unE_code l]; rfl
/-! Coded words. -/
def preL : List UInt8 := [61, 63, 117, 116, 102, 45, 56, 63, 113, 63]
def sufL : List UInt8 := [63, 61]
def wordL (l : List UInt8) : List UInt8 := preL ++ (codL l ++ sufL)
def codeW (l : List UInt8) : Option (List UInt8) := if l ≠ [] ∧ (codL l).length ≤ 28 then some (wordL l) else none
theorem wordL_len (l : List UInt8) : (wordL l).length = (codL l).length + 12 := by
  unfold wordL; simp [preL, sufL]
theorem codeW_in {l : List UInt8} (h : l ≠ []) (h2 : (codL l).length ≤ 28) : codeW l = some (wordL l) := by unfold codeW; rw [if_pos ⟨h, h2⟩]
theorem codeW_nil : codeW [] = none := by unfold codeW; rw [if_neg (fun h => h.1 rfl)]
theorem codeW_out {l : List UInt8} (h : 28 < (codL l).length) : codeW l = none := by unfold codeW; rw [if_neg (fun h2 => by have := h2.2; omega)]
theorem codeW_some {l s : List UInt8} (h : codeW l = some s) : s = wordL l ∧ l ≠ [] ∧ (codL l).length ≤ 28 := by
  unfold codeW at h
  split at h
  · rename_i h2; injection h with h; exact ⟨h.symm, h2⟩
  · cases h
theorem codeW_size {l s : List UInt8} (h : codeW l = some s) : 13 ≤ s.length ∧ s.length ≤ 40 ∧ s.length = (codL l).length + 12 := by
  obtain ⟨rfl, h1, h2⟩ := codeW_some h
  have h3 := (codL_len l).1
  have h4 : 1 ≤ l.length := List.length_pos_iff.2 h1
  rw [wordL_len]; omega
theorem wordL_byte {l : List UInt8} {x : UInt8} (h : x ∈ wordL l) : okB x = true ∧ x ≠ 32 := by
  unfold wordL at h
  rcases List.mem_append.1 h with h | h
  · have : ∀ y ∈ preL, okB y = true ∧ y ≠ 32 := by decide
    exact this x h
  · rcases List.mem_append.1 h with h | h
    · have := codL_wB h; exact ⟨this.1, this.2.1⟩
    · have : ∀ y ∈ sufL, okB y = true ∧ y ≠ 32 := by decide
      exact this x h
theorem codeW_text {l s : List UInt8} (h : codeW l = some s) : isText s = true := by
  obtain ⟨rfl, _, _⟩ := codeW_some h
  have := codeW_size h
  unfold isText
  rw [Bool.and_eq_true, decide_eq_true_iff, List.all_eq_true]
  exact ⟨by omega, fun x hx => (wordL_byte hx).1⟩
def innerL (s : List UInt8) : List UInt8 := (s.drop 10).take (s.length - 12)
def readW (s : List UInt8) : Option (List UInt8) := match unE und (innerL s) with
  | some b => if codeW b = some s then some b else none
  | none => none
theorem inner_word (l : List UInt8) : innerL (wordL l) = codL l := by
  unfold innerL
  rw [wordL_len]
  unfold wordL
  rw [show (10 : Nat) = preL.length from rfl, List.drop_left]
  exact List.take_left' (by omega)
theorem readW_code {l s : List UInt8} (h : codeW l = some s) : readW s = some l := by
  obtain ⟨rfl, _, _⟩ := codeW_some h
  unfold readW
  rw [inner_word, unE_code]
  dsimp only
  rw [if_pos h]
theorem readW_sound {l s : List UInt8} (h : readW s = some l) : codeW l = some s := by
  unfold readW at h
  split at h
  · split at h
    · injection h with h; subst h; assumption
    · cases h
  · cases h
theorem readW_off {s : List UInt8} (h : ∀ l, s ≠ wordL l ∨ s.length < 13 ∨ 40 < s.length) : readW s = none := by
  cases hr : readW s with
  | none => rfl
  | some l =>
    have h1 := readW_sound hr
    have h2 := codeW_size h1
    rcases h l with h | h | h
    · exact absurd (codeW_some h1).1 h
    · omega
    · omega
theorem readW_len {s l : List UInt8} (h : readW s = some l) : l.length ≤ 28 ∧ 1 ≤ l.length ∧ 13 ≤ s.length ∧ s.length ≤ 40 := by
  have h1 := readW_sound h
  have h2 := codeW_size h1
  obtain ⟨_, h3, h4⟩ := codeW_some h1
  have h5 := (codL_len l).1
  exact ⟨by omega, List.length_pos_iff.2 h3, by omega, by omega⟩
/-! How many bytes one coded word has room for. -/
def room : Nat → List UInt8 → Nat
  | _, [] => 0
  | r, c :: l => if (cbB c).length ≤ r then room (r - (cbB c).length) l + 1 else 0
theorem room_le : ∀ (l : List UInt8) (r : Nat), room r l ≤ l.length
  | [], r => by simp [room]
  | c :: l, r => by
    rw [room]; split
    · have := room_le l (r - (cbB c).length); rw [List.length_cons]; omega
    · omega
theorem room_fit : ∀ (l : List UInt8) (r : Nat), (codL (l.take (room r l))).length ≤ r
  | [], r => by simp [room, codL]
  | c :: l, r => by
    rw [room]; split
    · have := room_fit l (r - (cbB c).length)
      rw [List.take_succ_cons, codL_cons, List.length_append]; omega
    · rw [List.take_zero, codL_nil]; simp
theorem room_max : ∀ (l : List UInt8) (r : Nat), room r l < l.length → r < (codL (l.take (room r l + 1))).length
  | [], r, h => by simp [room] at h
  | c :: l, r, h => by
    rw [room] at h ⊢
    split
    · rename_i h2
      rw [if_pos h2, List.length_cons] at h
      have := room_max l (r - (cbB c).length) (by omega)
      rw [List.take_succ_cons, codL_cons, List.length_append]; omega
    · rename_i h2
      rw [List.take_succ_cons, codL_cons, List.length_append]; omega
theorem room_char : ∀ (l : List UInt8) (r m : Nat), m ≤ l.length → (codL (l.take m)).length ≤ r → (m = l.length ∨ r < (codL (l.take (m + 1))).length) → room r l = m
  | [], r, m, h, _, _ => by simp at h; simp [room, h]
  | c :: l, r, 0, _, _, h => by
    rcases h with h | h
    · simp at h
    · rw [List.take_succ_cons, codL_cons, List.length_append, List.take_zero, codL_nil, List.length_nil] at h
      rw [room, if_neg (by omega)]
  | c :: l, r, m + 1, h, h1, h2 => by
    rw [List.take_succ_cons, codL_cons, List.length_append] at h1
    rw [List.length_cons] at h
    rw [room, if_pos (by omega), room_char l (r - (cbB c).length) m (by omega) (by omega) (by
      rcases h2 with h2 | h2
      · rw [List.length_cons] at h2; exact .inl (by omega)
      · rw [List.take_succ_cons, codL_cons, List.length_append] at h2; exact .inr (by omega))]
theorem room_all (l : List UInt8) (r : Nat) : room r l = l.length ↔ (codL l).length ≤ r := by
  constructor
  · intro h
    have := room_fit l r
    rw [h, List.take_length] at this; exact this
  · intro h
    exact room_char l r l.length (Nat.le_refl _) (by rw [List.take_length]; exact h) (.inl rfl)
theorem room_pos {l : List UInt8} (h : l ≠ []) : 1 ≤ room 28 l := by
  match l, h with
  | c :: l, _ =>
    have := cbB_len c
    rw [room, if_pos (by omega)]; omega
theorem room_big {l : List UInt8} (h : room 28 l < l.length) : 26 ≤ (codL (l.take (room 28 l))).length := by
  have h1 := room_max l 28 h
  have h2 : l.take (room 28 l + 1) = l.take (room 28 l) ++ [l[room 28 l]] := by rw [List.take_add_one, List.getElem?_eq_getElem h]; rfl
  rw [h2, codL_app, List.length_append] at h1
  have h3 := (cbB_len l[room 28 l]).2
  have : (codL [l[room 28 l]]).length = (cbB l[room 28 l]).length := by simp [codL]
  omega
/-! Names. -/
def wordsN : Nat → List UInt8 → List (List UInt8)
  | 0, _ => []
  | n + 1, l => if l = [] then [] else wordL (l.take (room 28 l)) :: wordsN n (l.drop (room 28 l))
def wordsOf (l : List UInt8) : List (List UInt8) := wordsN l.length l
theorem wordsN_fuel : ∀ (n m : Nat) (l : List UInt8), l.length ≤ n → l.length ≤ m → wordsN n l = wordsN m l
  | 0, m, l, h, _ => by
    have : l = [] := List.length_eq_zero_iff.1 (by omega)
    subst this
    cases m <;> simp [wordsN]
  | n + 1, 0, l, _, h => by
    have : l = [] := List.length_eq_zero_iff.1 (by omega)
    subst this; simp [wordsN]
  | n + 1, m + 1, l, h, h2 => by
    unfold wordsN
    by_cases h0 : l = []
    · rw [if_pos h0, if_pos h0]
    · have hp := room_pos h0
      rw [if_neg h0, if_neg h0, wordsN_fuel n m _ (by rw [List.length_drop]; omega) (by rw [List.length_drop]; omega)]
theorem wordsOf_nil : wordsOf [] = [] := rfl
theorem wordsOf_step {l : List UInt8} (h : l ≠ []) : wordsOf l = wordL (l.take (room 28 l)) :: wordsOf (l.drop (room 28 l)) := by
  have hp := room_pos h
  have hl : 1 ≤ l.length := List.length_pos_iff.2 h
  unfold wordsOf
  obtain ⟨n, hn⟩ : ∃ n, l.length = n + 1 := ⟨l.length - 1, by omega⟩
  rw [hn]
  conv => lhs; rw [wordsN, if_neg h]
  rw [wordsN_fuel n _ _ (by rw [List.length_drop]; omega) (Nat.le_refl _)]
theorem take_ne {l : List UInt8} (h : l ≠ []) : l.take (room 28 l) ≠ [] := by
  have hp := room_pos h
  intro e
  have := congrArg List.length e
  have hr := room_le l 28
  rw [List.length_take, List.length_nil] at this; omega
theorem word_code {l : List UInt8} (h : l ≠ []) : codeW (l.take (room 28 l)) = some (wordL (l.take (room 28 l))) := codeW_in (take_ne h) (room_fit l 28)
theorem wordsOf_rec {P : List UInt8 → Prop} (h0 : P []) (h1 : ∀ l, l ≠ [] → P (l.drop (room 28 l)) → P l) : ∀ (n : Nat) (l : List UInt8), l.length ≤ n → P l
  | 0, l, h => by
    have : l = [] := List.length_eq_zero_iff.1 (by omega)
    subst this; exact h0
  | n + 1, l, h => by
    by_cases he : l = []
    · subst he; exact h0
    · have hp := room_pos he
      exact h1 l he (wordsOf_rec h0 h1 n _ (by rw [List.length_drop]; omega))
theorem wordsOf_mem (l : List UInt8) : ∀ s ∈ wordsOf l, ∃ b, codeW b = some s := by
  refine wordsOf_rec (P := fun l => ∀ s ∈ wordsOf l, ∃ b, codeW b = some s) ?_ ?_ l.length l (Nat.le_refl _)
  · intro s hs; cases hs
  · intro l hl ih s hs
    rw [wordsOf_step hl] at hs
    rcases List.mem_cons.1 hs with rfl | hs
    · exact ⟨_, word_code hl⟩
    · exact ih s hs
theorem wordsOf_ne {l : List UInt8} (h : l ≠ []) : wordsOf l ≠ [] := by rw [wordsOf_step h]; simp
/-- Sums: the lengths of the words, and how many there are. -/
theorem wordsOf_sum (l : List UInt8) : ((wordsOf l).map List.length).sum = (codL l).length + 12 * (wordsOf l).length ∧ 26 * (wordsOf l).length ≤ (codL l).length + 26 := by
  refine wordsOf_rec (P := fun l => ((wordsOf l).map List.length).sum = (codL l).length + 12 * (wordsOf l).length ∧ 26 * (wordsOf l).length ≤ (codL l).length + 26) ?_ ?_ l.length l (Nat.le_refl _)
  · simp [wordsOf_nil, codL_nil]
  · intro l hl ih
    have hc : codL l = codL (l.take (room 28 l)) ++ codL (l.drop (room 28 l)) := by rw [← codL_app, List.take_append_drop]
    have hcl := congrArg List.length hc
    rw [List.length_append] at hcl
    rw [wordsOf_step hl, List.map_cons, List.sum_cons, wordL_len, List.length_cons]
    refine ⟨by omega, ?_⟩
    by_cases hr : room 28 l < l.length
    · have := room_big hr; omega
    · have hd : l.drop (room 28 l) = [] := List.drop_eq_nil_of_le (by omega)
      rw [hd, wordsOf_nil]; simp
theorem join_cons2 (x y : List UInt8) (r : List (List UInt8)) (sep : List UInt8) : Lib.join (x :: y :: r) sep = x ++ (sep ++ Lib.join (y :: r) sep) := by
  rw [Lib.join_cons, Lib.join_cons]; unfold Lib.joinTail; simp
theorem join_len : ∀ xs : List (List UInt8), (Lib.join xs [32]).length ≤ (xs.map List.length).sum + xs.length
  | [] => by simp [Lib.join_nil]
  | [x] => by rw [Lib.join_one]; simp
  | x :: y :: r => by
    have := join_len (y :: r)
    rw [join_cons2]
    simp only [List.length_append, List.map_cons, List.sum_cons, List.length_cons, List.length_nil] at this ⊢; omega
theorem join_snoc : ∀ (xs : List (List UInt8)) (y : List UInt8), Lib.join (xs ++ [y]) [32] = (if xs = [] then [] else Lib.join xs [32] ++ [32]) ++ y
  | [], y => by simp [Lib.join_one]
  | [x], y => by rw [List.singleton_append, join_cons2, Lib.join_one, Lib.join_one, if_neg (by simp)]; simp
  | x :: z :: r, y => by
    have := join_snoc (z :: r) y
    rw [if_neg (by simp)] at this ⊢
    rw [List.cons_append, List.cons_append, join_cons2, ← List.cons_append, this, join_cons2]; simp
theorem joinWords_len {l : List UInt8} (h : l.length ≤ 120) : (Lib.join (wordsOf l) [32]).length ≤ 560 := by
  have h1 := wordsOf_sum l
  have h2 := (codL_len l).2
  have h3 := join_len (wordsOf l)
  omega
theorem splitC_one (c : UInt8) : ∀ (p : List UInt8), (∀ x ∈ p, x ≠ c) → splitC c p = [p]
  | [], _ => rfl
  | y :: p, h => by rw [splitC_skip p (h y (by simp)), splitC_one c p (fun x hx => h x (by simp [hx]))]; rfl
theorem splitC_two (c : UInt8) : ∀ (p l : List UInt8), (∀ x ∈ p, x ≠ c) → splitC c (p ++ c :: l) = p :: splitC c l
  | [], l, _ => splitC_hit c l
  | y :: p, l, h => by rw [List.cons_append, splitC_skip _ (h y (by simp)), splitC_two c p l (fun x hx => h x (by simp [hx]))]; rfl
theorem splitC_join (c : UInt8) : ∀ (xs : List (List UInt8)), xs ≠ [] → (∀ p ∈ xs, ∀ x ∈ p, x ≠ c) → splitC c (Lib.join xs [c]) = xs
  | [], h, _ => absurd rfl h
  | [x], _, h => by rw [Lib.join_one]; exact splitC_one c x (h x (by simp))
  | x :: y :: r, _, h => by
    rw [join_cons2, List.singleton_append, splitC_two c x _ (h x (by simp)), splitC_join c (y :: r) (by simp) (fun p hp => h p (by simp [hp]))]
theorem joinC_split (c : UInt8) : ∀ (n : Nat) (l : List UInt8), l.length ≤ n → Lib.join (splitC c l) [c] = l
  | n, l, hn => by
    rcases splitC_parts c l with ⟨p, h1, h2⟩ | ⟨p, r, h1, h2⟩
    · rw [h1, Lib.join_one, h2]
    · match n, hn with
      | 0, hn => rw [h2] at hn; simp at hn
      | n + 1, hn =>
        have ih := joinC_split c n r (by rw [h2, List.length_append, List.length_cons] at hn; omega)
        rw [h1]
        cases hs : splitC c r with
        | nil => exact absurd hs (splitC_ne c r)
        | cons y ys => rw [join_cons2, ← hs, ih, h2]; rfl
theorem splitC_infix (c : UInt8) : ∀ (n : Nat) (l : List UInt8), l.length ≤ n → ∀ p ∈ splitC c l, ∃ a b, l = a ++ (p ++ b)
  | n, l, hn, q, hq => by
    rcases splitC_parts c l with ⟨p, h1, h2⟩ | ⟨p, r, h1, h2⟩
    · rw [h1] at hq; rw [List.mem_singleton.1 hq, h2]; exact ⟨[], [], by simp⟩
    · rw [h1] at hq
      rcases List.mem_cons.1 hq with rfl | hq
      · exact ⟨[], c :: r, by rw [h2]; rfl⟩
      · match n, hn with
        | 0, hn => rw [h2] at hn; simp at hn
        | n + 1, hn =>
          obtain ⟨a, b, hab⟩ := splitC_infix c n r (by rw [h2, List.length_append, List.length_cons] at hn; omega) q hq
          exact ⟨p ++ c :: a, b, by rw [h2, hab]; simp⟩
/-! Names that need code. -/
def hasQ : List UInt8 → Bool
  | a :: b :: l => (decide (a = 61) && decide (b = 63)) || hasQ (b :: l)
  | _ => false
theorem hasQ_mid : ∀ (a r : List UInt8), hasQ (a ++ 61 :: 63 :: r) = true
  | [], r => by simp [hasQ]
  | [x], r => by rw [List.singleton_append, hasQ, Bool.or_eq_true]; exact .inr (hasQ_mid [] r)
  | x :: y :: a, r => by
    rw [List.cons_append, List.cons_append, hasQ, Bool.or_eq_true]; exact .inr (by have := hasQ_mid (y :: a) r; rwa [List.cons_append] at this)
theorem hasQ_iff : ∀ l : List UInt8, hasQ l = true → ∃ a r, l = a ++ 61 :: 63 :: r
  | [], h => by simp [hasQ] at h
  | [_], h => by simp [hasQ] at h
  | x :: y :: l, h => by
    rw [hasQ, Bool.or_eq_true] at h
    rcases h with h | h
    · simp at h; exact ⟨[], l, by rw [h.1, h.2]; rfl⟩
    · obtain ⟨a, r, hr⟩ := hasQ_iff (y :: l) h
      exact ⟨x :: a, r, by rw [hr]; rfl⟩
def needs (b : List UInt8) : Bool := decide (120 < b.length) || (!isText b || (decide (b.head? = some 32) || (decide (b.getLast? = some 32) || hasQ b)))
theorem needs_false {b : List UInt8} : needs b = false ↔ b.length ≤ 120 ∧ isText b = true ∧ b.head? ≠ some 32 ∧ b.getLast? ≠ some 32 ∧ hasQ b = false := by
  unfold needs; simp
def encN (b : List UInt8) : Option (List UInt8) := if b.length ≤ 120 then some (if needs b then Lib.join (wordsOf b) [32] else b) else none
theorem encN_out {b : List UInt8} (h : 120 < b.length) : encN b = none := by unfold encN; rw [if_neg (by omega)]
theorem encN_in {b : List UInt8} (h : b.length ≤ 120) : encN b = some (if needs b then Lib.join (wordsOf b) [32] else b) := by unfold encN; rw [if_pos h]
/-! Names read. -/
def dgo : Bool → Bool → List (List UInt8) → List UInt8
  | _, _, [] => []
  | fst, cd, p :: ps => (if fst || ((readW p).isSome && cd) then [] else [32]) ++ ((readW p).getD p ++ dgo false (readW p).isSome ps)
def decN (s : List UInt8) : Option (List UInt8) := if s.length ≤ 600 ∧ (dgo true false (splitC 32 s)).length ≤ 120 then some (dgo true false (splitC 32 s)) else none
theorem decN_in {s : List UInt8} (h : s.length ≤ 600) (h2 : (dgo true false (splitC 32 s)).length ≤ 120) : decN s = some (dgo true false (splitC 32 s)) := by unfold decN; rw [if_pos ⟨h, h2⟩]
theorem decN_some {s b : List UInt8} (h : decN s = some b) : s.length ≤ 600 ∧ b.length ≤ 120 ∧ b = dgo true false (splitC 32 s) := by
  unfold decN at h
  split at h
  · rename_i h2; injection h with h; subst h; exact ⟨h2.1, h2.2, rfl⟩
  · cases h
theorem dgo_plain : ∀ (xs : List (List UInt8)) (cd : Bool), (∀ p ∈ xs, readW p = none) → dgo true cd xs = Lib.join xs [32] ∧ (xs ≠ [] → dgo false cd xs = 32 :: Lib.join xs [32])
  | [], cd, _ => ⟨rfl, fun h => absurd rfl h⟩
  | [x], cd, h => by
    have hx := h x (by simp)
    rw [Lib.join_one]
    simp [dgo, hx]
  | x :: y :: r, cd, h => by
    have hx := h x (by simp)
    have ih := (dgo_plain (y :: r) false (fun p hp => h p (by simp [hp]))).2 (by simp)
    constructor
    · rw [dgo, hx, join_cons2]; simp [ih]
    · intro _
      rw [dgo, hx, join_cons2]; simp [ih]
theorem decN_plain {s : List UInt8} (h : ∀ p ∈ splitC 32 s, readW p = none) : dgo true false (splitC 32 s) = s := by
  rw [(dgo_plain _ false h).1]; exact joinC_split 32 _ s (Nat.le_refl _)
theorem readW_q {s b : List UInt8} (h : readW s = some b) : ∃ r, s = 61 :: 63 :: r := by
  obtain ⟨rfl, _⟩ := codeW_some (readW_sound h)
  exact ⟨_, rfl⟩
theorem noQ_parts {s : List UInt8} (h : hasQ s = false) : ∀ p ∈ splitC 32 s, readW p = none := by
  intro p hp
  cases hr : readW p with
  | none => rfl
  | some b =>
    obtain ⟨r, rfl⟩ := readW_q hr
    obtain ⟨a, t, hab⟩ := splitC_infix 32 _ s (Nat.le_refl _) _ hp
    rw [hab, List.cons_append, List.cons_append, hasQ_mid] at h
    cases h
theorem hasQ_63 {s : List UInt8} (h : (63 : UInt8) ∉ s) : hasQ s = false := by
  cases hq : hasQ s
  · rfl
  · obtain ⟨a, r, rfl⟩ := hasQ_iff s hq
    exact absurd (by simp) h
theorem dgo_words (l : List UInt8) : dgo false true (wordsOf l) = l ∧ dgo true false (wordsOf l) = l := by
  refine wordsOf_rec (P := fun l => dgo false true (wordsOf l) = l ∧ dgo true false (wordsOf l) = l) ?_ ?_ l.length l (Nat.le_refl _)
  · exact ⟨rfl, rfl⟩
  · intro l hl ih
    have hr := readW_code (word_code hl)
    rw [wordsOf_step hl]
    constructor
    · rw [dgo, hr]; simp [ih.1, List.take_append_drop]
    · rw [dgo, hr]; simp [ih.1, List.take_append_drop]
theorem split_words {l : List UInt8} (h : l ≠ []) : splitC 32 (Lib.join (wordsOf l) [32]) = wordsOf l := by
  refine splitC_join 32 _ (wordsOf_ne h) ?_
  intro p hp x hx
  obtain ⟨b, hb⟩ := wordsOf_mem l p hp
  obtain ⟨rfl, _⟩ := codeW_some hb
  exact (wordL_byte hx).2
theorem needs_nil : needs [] = false := by decide
theorem dec_enc {b s : List UInt8} (h : encN b = some s) : decN s = some b ∧ b.length ≤ 120 := by
  unfold encN at h
  split at h
  · rename_i h120
    injection h with h
    cases hn : needs b
    · rw [hn] at h
      have h' : b = s := by simpa using h
      subst h'
      have hq := (needs_false.1 hn).2.2.2.2
      have hd := decN_plain (noQ_parts hq)
      exact ⟨by rw [decN_in (by omega) (by rw [hd]; exact h120), hd], h120⟩
    · rw [hn, if_pos rfl] at h
      subst h
      have hne : b ≠ [] := by intro e; subst e; rw [needs_nil] at hn; cases hn
      have hl := joinWords_len h120
      have hd : dgo true false (splitC 32 (Lib.join (wordsOf b) [32])) = b := by rw [split_words hne]; exact (dgo_words b).2
      exact ⟨by rw [decN_in (by omega) (by rw [hd]; exact h120), hd], h120⟩
  · cases h
theorem encN_size {b s : List UInt8} (h : encN b = some s) : s.length ≤ 560 := by
  unfold encN at h
  split at h
  · rename_i h120
    injection h with h
    subst h
    split
    · exact joinWords_len h120
    · omega
  · cases h
end Go.Proofs.YtcdmjckkencgoaaGreatDoor
end

section
namespace Go.Proofs.YtcdmjckkencgoaaGreatDoor
open Go.RowKit

theorem hexD_eq : (ByteArray.mk #[48, 49, 50, 51, 52, 53, 54, 55, 56, 57, 65, 66, 67, 68, 69, 70]).data.toList = [48, 49, 50, 51, 52, 53, 54, 55, 56, 57, 65, 66, 67, 68, 69, 70] := rfl
theorem bne_t {c d : UInt8} (h : c ≠ d) {n : Int} (hn : (d.toNat : Int) = n) : ((c.toNat : Int) != n) = true := by rw [bne, beq_f h hn]; rfl
theorem bne_f {c d : UInt8} (h : c = d) {n : Int} (hn : (d.toNat : Int) = n) : ((c.toNat : Int) != n) = false := by rw [bne, beq_t h hn]; rfl
theorem okB_in {c : UInt8} (h : okB c = true) : 32 ≤ c.toNat ∧ c.toNat ≤ 126 := by unfold okB at h; simp at h; exact h
theorem okB_out {c : UInt8} (h : okB c = false) : c.toNat < 32 ∨ (32 ≤ c.toNat ∧ 126 < c.toNat) := by unfold okB at h; simp at h; omega
theorem ixI_none {o : Option Nat} (h : o = none) : ixI o = -1 := by rw [h]; rfl
theorem ixI_some {o : Option Nat} {v : Nat} (h : o = some v) : ixI o = (v : Int) := by rw [h]; rfl
theorem own_snocB {B : Nat} {v : Value} {l : List UInt8} {c : UInt8} {w : World} (h : w.ownsRow B 5 1 v (l.length + 1) (Lib.byteCells l ++ [.int .u8 c.toNat])) : OwnBy B v (l ++ [c]) w := by
  unfold OwnBy
  rw [List.length_append, show Lib.byteCells (l ++ [c]) = Lib.byteCells l ++ [.int .u8 c.toNat] by simp [Lib.byteCells]]
  exact h
/-- One byte appended to a row of the call's own, as a step of a region. -/
theorem step_append_B {ops : Array Oper} {o : Oper} {Q : Exit → Act → World → Prop} {K : Act → World → Prop} {E : Prop} {a : Act} {w : World} (hgd : o.guard = none) (s x : Operand)
    (ho : o.op = .call { callee := .builtin .append, args := #[s, x], argTypes := #[81, 81] })
    (B : Nat) (v : Value) (l : List UInt8) (c : UInt8) (g : Nat) (hs : a.eval s = v) (hx : a.eval x = .slice (some ⟨g, 0, none⟩) 1 1) (hown : OwnBy B v l w)
    (hy : w.cell? ⟨g, 0, none⟩ = some (.int .u8 c.toNat)) (hB : B ≤ w.heap.size) (hl : l.length ≤ 1073741824)
    (h : ∀ v' w', OwnBy B v' (l ++ [c]) w' → Below B w w' → K (a.put o.dst v') w') : if Region.wanted o (yielded ops a.tmps) = true then Oper.wp Tryz.prog o a w K Q else E := by
  rw [if_pos (by simp [Region.wanted, hgd])]
  obtain ⟨i0, hi, hz0, hz1, hz2⟩ := info_parts bInfo
  have hown1 := hown
  unfold OwnBy at hown1
  refine wp_append_own w s x 81 ho B 5 i0 (.int .u8 0) 1 1 Tryz.underlying81 hi hz0 hz1 hz2 rfl (by decide) v l.length (Lib.byteCells l) hs hown1 ⟨g, 0, none⟩ 1 1 [.int .u8 c.toNat] hx rfl ?_ ?_ ?_ ?_ hB ?_
  · intro j u hj
    match j, hj with
    | 0, hj => simp at hj; subst hj; simpa [Addr.add] using hy
  · intro u hu; simp at hu; subst hu; rfl
  · unfold maxLen; omega
  · omega
  · intro v' w' h2 h3 _
    exact h v' w' (own_snocB h2) ((Below.refl _ _).grown h3 hB (fun k hk => (World.ownsRow.lt hown1 k hk).1))
theorem hex_index (c : UInt8) : Lib.indexByte [48, 49, 50, 51, 52, 53, 54, 55, 56, 57, 65, 66, 67, 68, 69, 70] c = ixI (hexV c) := by
  have key : ∀ n, n < 256 → Lib.indexByte [48, 49, 50, 51, 52, 53, 54, 55, 56, 57, 65, 66, 67, 68, 69, 70] (UInt8.ofNat n) = ixI (hexV (UInt8.ofNat n)) := by decide +kernel
  have := key c.toNat c.toNat_lt
  rw [UInt8.ofNat_toNat] at this; exact this
theorem indexHex_any (c : UInt8) (w : World) : Calls Tryz.prog 146 #[.string (ByteArray.mk #[48, 49, 50, 51, 52, 53, 54, 55, 56, 57, 65, 66, 67, 68, 69, 70]), .int .u8 c.toNat] w fun e w' => e = .returned (.int .i64 (ixI (hexV c))) ∧ w' = w := by
  refine (Tryz.strings_IndexByte (ByteArray.mk #[48, 49, 50, 51, 52, 53, 54, 55, 56, 57, 65, 66, 67, 68, 69, 70]) (c.toNat : Int) w).mono ?_
  rintro e w' ⟨rfl, rfl⟩
  refine ⟨ret_int ?_, rfl⟩
  rw [hexD_eq, ← hex_index]
  congr 1
  simp
/-- The byte that '=' and two digits stand for. -/
def esc? (l : List UInt8) : Option UInt8 := match l with
  | _ :: x :: y :: _ => (match hexV x, hexV y with | some a, some b => some (UInt8.ofNat (16 * a + b)) | _, _ => none)
  | _ => none
def EscRet (o : Option UInt8) (w : World) (e : Ending) (w' : World) : Prop := e = .returned (.tuple #[.int .u8 ((o.getD 0).toNat : Int), .bool o.isSome]) ∧ w = w'
theorem escRet_none {o : Option UInt8} {w : World} (h : o = none) : EscRet o w (.returned (.tuple #[.int .u8 0, .bool false])) w := by subst h; exact ⟨rfl, rfl⟩
theorem escRet_some {o : Option UInt8} {c : UInt8} {x : Int} {w : World} (h : o = some c) (hx : x = (c.toNat : Int)) : EscRet o w (.returned (.tuple #[.int .u8 x, .bool true])) w := by subst h hx; exact ⟨rfl, rfl⟩
theorem list3 (s : ByteArray) (h : 3 ≤ s.size) : s.data.toList = s[0] :: s[1] :: s[2] :: s.data.toList.drop 3 := by
  conv => lhs; rw [← List.drop_zero (l := s.data.toList)]
  rw [drop_at s 0 (by omega), drop_at s 1 (by omega), drop_at s 2 (by omega)]
theorem esc_short (s : ByteArray) (h : s.size < 3) : esc? s.data.toList = none := by
  have hl : s.data.toList.length < 3 := by rw [size_list]; exact h
  match hs : s.data.toList, hl with
  | [], _ => rfl
  | [_], _ => rfl
  | [_, _], _ => rfl
set_option maxRecDepth 100000 in
set_option maxHeartbeats 1000000 in
theorem readEscape_any (s : ByteArray) (w : World) (hs : s.size ≤ 1073741000) :
    Calls Tryz.prog 176 #[.string s] w (EscRet (esc? s.data.toList) w) := by
  by_cases h3 : s.size < 3
  · have HN := Lib.hid (esc_short s h3)
    go_enter Tryz.func176, Tryz.ntmps176
    go_wp2
    go_ret2
    exact escRet_none HN.out
  · have h1 : 1 < s.size := by omega
    have h2 : 2 < s.size := by omega
    have HL : Hid (esc? s.data.toList = match hexV s[1], hexV s[2] with | some a, some b => some (UInt8.ofNat (16 * a + b)) | _, _ => none) := by show _ = _; rw [list3 s (by omega)]; rfl
    cases ha : hexV s[1] with
    | none =>
      have HI := Lib.hid (ixI_none ha)
      have HN : Hid (esc? s.data.toList = none) := by show _ = _; rw [HL.out, ha]
      clear ha
      go_enter Tryz.func176, Tryz.ntmps176
      go_wp2_with fail
      refine (indexHex_any s[1] _).mono ?_
      rintro e w1 ⟨rfl, rfl⟩
      rw [HI.out]
      go_wp2_with fail
      refine (indexHex_any s[2] _).mono ?_
      rintro e w1 ⟨rfl, rfl⟩
      go_wp2
      go_ret2
      exact escRet_none HN.out
    | some a =>
      have HI := Lib.hid (ixI_some ha)
      have ha16 := hexV_lt ha
      cases hb : hexV s[2] with
      | none =>
        have HJ := Lib.hid (ixI_none hb)
        have HN : Hid (esc? s.data.toList = none) := by show _ = _; rw [HL.out, ha, hb]
        clear ha hb
        go_enter Tryz.func176, Tryz.ntmps176
        go_wp2_with fail
        refine (indexHex_any s[1] _).mono ?_
        rintro e w1 ⟨rfl, rfl⟩
        rw [HI.out]
        go_wp2_with fail
        refine (indexHex_any s[2] _).mono ?_
        rintro e w1 ⟨rfl, rfl⟩
        rw [HJ.out]
        go_wp2
        go_ret2
        exact escRet_none HN.out
      | some b =>
        have HJ := Lib.hid (ixI_some hb)
        have hb16 := hexV_lt hb
        have HN : Hid (esc? s.data.toList = some (UInt8.ofNat (16 * a + b))) := by show _ = _; rw [HL.out, ha, hb]
        clear ha hb
        go_enter Tryz.func176, Tryz.ntmps176
        go_wp2_with fail
        refine (indexHex_any s[1] _).mono ?_
        rintro e w1 ⟨rfl, rfl⟩
        rw [HI.out]
        go_wp2_with fail
        refine (indexHex_any s[2] _).mono ?_
        rintro e w1 ⟨rfl, rfl⟩
        rw [HJ.out]
        go_wp2
        go_ret2
        exact escRet_some HN.out (by rw [UInt8.toNat_ofNat']; omega)
theorem escN_eq (l : List UInt8) : escN l = esc? l := rfl
set_option maxRecDepth 100000 in
set_option maxHeartbeats 2000000 in
theorem readEscapes_any (s : ByteArray) (w : World) (hs : s.size ≤ 1073741000) :
    Calls Tryz.prog 145 #[.string s] w (DecRet (unE id s.data.toList) w) := by
  go_enter Tryz.func145, Tryz.ntmps145
  go_wp2_with fail
  go_loopw [5] (fun i wr => ∃ (k : Nat) (acc : List UInt8), k ≤ s.size ∧ i = .int .i64 k ∧ acc.length ≤ k ∧ unE id s.data.toList = (unE id (s.data.toList.drop k)).map (acc ++ ·) ∧ Bld w.heap.size w.heap.size acc wr ∧ Below w.heap.size w wr) (fun i _ => s.size - (intOf i).toNat)
  case atStart => exact ⟨0, [], by omega, rfl, by simp, by rw [List.drop_zero]; cases unE id s.data.toList <;> simp, bld_fresh w, (Below.refl _ _).alloc (Nat.le_refl _) _⟩
  case round =>
    obtain ⟨k, acc, hk, rfl, hal, hg, hB, hb⟩ := hrel
    have HG := Lib.hid hg
    clear hg
    by_cases hlt : k < s.size
    · have HD := Lib.hid (drop_at s k hlt)
      by_cases h61 : s[k] = 61
      · have e61 := beq_t h61 (n := 61) rfl
        have hxs : (s.extract k s.size).size = s.size - k := by rw [ByteArray.size_extract]; omega
        have HXL : Hid ((s.extract k s.size).data.toList = s[k] :: s.data.toList.drop (k + 1)) := by show _ = _; rw [ext_drop, str_list, HD.out]
        have HRE := Lib.hid (unE_esc id (s.data.toList.drop (k + 1)) h61)
        clear h61
        go_wp2_with fail
        refine (readEscape_any _ _ (by omega)).mono ?_
        rintro e w1 ⟨rfl, rfl⟩
        rw [HXL.out]
        cases he : esc? (s[k] :: s.data.toList.drop (k + 1)) with
        | none =>
          have HN : Hid (unE id s.data.toList = none) := by show _ = _; rw [HG.out, HD.out, HRE.out, escN_eq, he]; rfl
          clear he
          go_wp2
          go_ret2
          exact decRet_none HN.out rfl hb
        | some b =>
          have h3 := escN_len he
          rw [List.length_cons, List.length_drop, size_list] at h3
          have HN : Hid (unE id s.data.toList = (unE id (s.data.toList.drop (k + 3))).map ((acc ++ [b]) ++ ·)) := by
            show _ = _; rw [HG.out, HD.out, HRE.out, escN_eq, he, List.drop_drop]
            cases unE id (s.data.toList.drop (k + 1 + 2)) <;> simp
          clear he
          go_wp2_with fail
          refine (writeByte_any _ _ _ b _ hB (by omega)).mono ?_
          rintro e w3 ⟨rfl, hB3, hb3⟩
          go_wp2
          go_roundw
          case rel => exact ⟨k + 3, _, by omega, by go_num, by rw [List.length_append, List.length_singleton]; omega, HN.out, hB3, hb.trans hb3⟩
          case measure => simp [intOf]; omega
      · have e61 := beq_f h61 (n := 61) rfl
        have HN : Hid (unE id s.data.toList = (unE id (s.data.toList.drop (k + 1))).map ((acc ++ [s[k]]) ++ ·)) := by
          show _ = _; rw [HG.out, HD.out, unE_plain id _ h61]
          cases unE id (s.data.toList.drop (k + 1)) <;> simp
        clear h61
        go_wp2_with fail
        refine (writeByte_any _ _ _ s[k] _ hB (by omega)).mono ?_
        rintro e w3 ⟨rfl, hB3, hb3⟩
        go_wp2
        go_roundw
        case rel => exact ⟨k + 1, _, by omega, by go_num, by rw [List.length_append, List.length_singleton]; omega, HN.out, hB3, hb.trans hb3⟩
        case measure => simp [intOf]; omega
    · have HN : Hid (unE id s.data.toList = some acc) := by show _ = _; rw [HG.out, drop_out s k (by omega)]; simp [unE]
      go_wp2_with fail
      refine (bString_any _ _ _ _ hB).mono ?_
      rintro e w5 ⟨rfl, hb5⟩
      go_wp2
      go_ret2
      exact decRet_some HN.out rfl (hb.trans hb5)
theorem rq_esc (c : UInt8) (l : List UInt8) (h : c = 61) : rq (c :: l) = match esc? (c :: l) with | none => none | some b => (rq (l.drop 2)).map (b :: ·) := by
  subst h
  match l with
  | [] => rw [rq_end]; rfl
  | [x] => rw [rq_short]; rfl
  | x :: y :: m =>
    cases hx : hexV x with
    | none => rw [rq_nohex _ (.inl hx)]; unfold esc?; dsimp only; rw [hx]
    | some a =>
      cases hy : hexV y with
      | none => rw [rq_nohex _ (.inr hy)]; unfold esc?; dsimp only; rw [hx, hy]
      | some b => rw [rq_hex _ hx hy]; unfold esc?; dsimp only; rw [hx, hy]; rfl
theorem escQ_len {l : List UInt8} {b : UInt8} (h : esc? l = some b) : 3 ≤ l.length := by
  match l, h with
  | _ :: _ :: _ :: _, _ => simp
theorem hexV_okB_nat : ∀ n, n < 256 → (hexV (UInt8.ofNat n)).isSome = true → okB (UInt8.ofNat n) = true := by decide +kernel
theorem hexV_okB {c : UInt8} {a : Nat} (h : hexV c = some a) : okB c = true := by
  have := hexV_okB_nat c.toNat c.toNat_lt
  rw [UInt8.ofNat_toNat, h] at this; exact this rfl
theorem rq_foul : ∀ (n : Nat) (l : List UInt8), l.length ≤ n → (∃ x ∈ l, okB x = false) → rq l = none := by
  intro n
  induction n with
  | zero => intro l hl ⟨x, hx, _⟩; rw [List.length_eq_zero_iff.1 (by omega : l.length = 0)] at hx; cases hx
  | succ n ih =>
    intro l hl ⟨x, hx, hb⟩
    cases l with
    | nil => cases hx
    | cons c l =>
      rw [List.length_cons] at hl
      cases hc : okB c
      · exact rq_bad l hc
      · have hxl : x ∈ l := by
          rcases List.mem_cons.1 hx with rfl | h
          · rw [hc] at hb; cases hb
          · exact h
        by_cases h61 : c = 61
        · subst h61
          match l, hl, hxl with
          | [], _, hxl => cases hxl
          | [y], _, _ => exact rq_short y
          | y :: z :: m, hl, hxl =>
            cases hy : hexV y with
            | none => exact rq_nohex m (.inl hy)
            | some p =>
              cases hz : hexV z with
              | none => exact rq_nohex m (.inr hz)
              | some q =>
                rw [rq_hex m hy hz, ih m (by simp only [List.length_cons] at hl; omega) ⟨x, by
                  rcases List.mem_cons.1 hxl with rfl | h
                  · rw [hexV_okB hy] at hb; cases hb
                  · rcases List.mem_cons.1 h with rfl | h
                    · rw [hexV_okB hz] at hb; cases hb
                    · exact h, hb⟩]; rfl
        · rw [rq_plain l h61 hc, ih l (by omega) ⟨x, hxl, hb⟩]; rfl
theorem rq_clean : ∀ (n : Nat) (l : List UInt8), l.length ≤ n → (∀ x ∈ l, okB x = true) → rq l = unE id l := by
  intro n
  induction n with
  | zero => intro l hl _; rw [List.length_eq_zero_iff.1 (by omega : l.length = 0)]; rfl
  | succ n ih =>
    intro l hl ho
    cases l with
    | nil => rfl
    | cons c l =>
      rw [List.length_cons] at hl
      have hc := ho c (List.mem_cons_self ..)
      have hol : ∀ x ∈ l, okB x = true := fun x h => ho x (List.mem_cons_of_mem _ h)
      by_cases h61 : c = 61
      · rw [rq_esc c l h61, unE_esc id l h61]
        show _ = match esc? (c :: l) with | none => none | some b => (unE id (l.drop 2)).map (b :: ·)
        rw [ih (l.drop 2) (by rw [List.length_drop]; omega) (fun x h => hol x (List.mem_of_mem_drop h))]
      · rw [rq_plain l h61 hc, unE_plain id l h61, ih l (by omega) hol]; rfl
set_option maxRecDepth 100000 in
set_option maxHeartbeats 2000000 in
theorem readQuotedLine_any (s : ByteArray) (w : World) (hs : s.size ≤ 1073741000) :
    Calls Tryz.prog 108 #[.string s] w (DecRet (rq s.data.toList) w) := by
  go_enter Tryz.func108, Tryz.ntmps108
  go_wp2_with fail
  go_loop [4] (fun i => ∃ k : Nat, k ≤ s.size ∧ i = .int .i64 k ∧ ∀ j, (h : j < k) → (h' : j < s.size) → okB s[j] = true) (fun i => s.size - (intOf i).toNat)
  case atStart => exact ⟨0, Nat.zero_le _, rfl, fun j h => by omega⟩
  case round =>
    obtain ⟨k, hk, rfl, hall⟩ := hrel
    have H := Lib.hid hall
    clear hall
    by_cases hlt : k < s.size
    · cases ho : okB s[k]
      · have hm : s[k] ∈ s.data.toList := by simp [ByteArray.getElem_eq_getElem_data]
        have HN := Lib.hid (rq_foul _ s.data.toList (Nat.le_refl _) ⟨_, hm, ho⟩)
        rcases okB_out ho with h1 | ⟨h1, h2⟩ <;> clear ho hm
        all_goals
          go_wp2
          go_ret2
          exact decRet_none HN.out rfl (Below.refl _ _)
      · obtain ⟨h1, h2⟩ := okB_in ho
        have HO := Lib.hid ho
        clear ho
        go_wp2
        go_round
        case rel => exact ⟨k + 1, by omega, by go_num, fun j h h' => by
          by_cases e : j = k
          · subst e; exact HO.out
          · exact H.out j (by omega) h'⟩
        case measure => simp [intOf]; omega
    · have HE : Hid (rq s.data.toList = unE id s.data.toList) := rq_clean _ _ (Nat.le_refl _) fun x hx => by
        obtain ⟨j, hj, rfl⟩ := List.getElem_of_mem hx
        exact H.out j (by rw [size_list] at hj; omega) (by rw [size_list] at hj; exact hj)
      have HR := Lib.hid (readEscapes_any s w hs)
      rw [← HE.out] at HR
      clear HE
      generalize rq s.data.toList = o at *
      go_wp2_with fail
      refine HR.out.mono ?_
      rintro e w1 ⟨rfl, hb⟩
      go_wp2
      go_ret2
      exact ⟨rfl, hb⟩
theorem l5Value_any (c : UInt8) (w : World) : Calls Tryz.prog 137 #[.int .u8 c.toNat] w fun e w' => e = .returned (.int .i64 (ixI (hexV c))) ∧ w' = w := by
  by_cases h1 : 48 ≤ c.toNat ∧ c.toNat ≤ 57
  · have HV : Hid (ixI (hexV c) = (c.toNat : Int) - 48) := by show _ = _; unfold hexV; rw [if_pos h1]; show ((c.toNat - 48 : Nat) : Int) = _; omega
    obtain ⟨h2, h3⟩ := h1
    go_enter Tryz.func137, Tryz.ntmps137
    go_wp2
    go_ret
    exact ⟨ret_int HV.out.symm, rfl⟩
  · by_cases h2 : 65 ≤ c.toNat ∧ c.toNat ≤ 70
    · have HV : Hid (ixI (hexV c) = (c.toNat : Int) - 65 + 10) := by show _ = _; unfold hexV; rw [if_neg h1, if_pos h2]; show ((c.toNat - 55 : Nat) : Int) = _; omega
      obtain ⟨h3, h4⟩ := h2
      clear h1
      go_enter Tryz.func137, Tryz.ntmps137
      go_wp2
      go_ret
      exact ⟨ret_int HV.out.symm, rfl⟩
    · have HV : Hid (ixI (hexV c) = -1) := by show _ = _; unfold hexV; rw [if_neg h1, if_neg h2]; rfl
      rcases (by omega : c.toNat < 48 ∨ (57 < c.toNat ∧ c.toNat < 65) ∨ 70 < c.toNat) with h3 | h3 | h3
      all_goals
        clear h1 h2
        go_enter Tryz.func137, Tryz.ntmps137
        go_wp2
        go_ret
        exact ⟨ret_int HV.out.symm, rfl⟩
def UqRet (o : Option (List UInt8 × Bool)) (w : World) (e : Ending) (w' : World) : Prop := e = .returned (.tuple #[.string (str (o.getD ([], false)).1), .bool (o.getD ([], false)).2, .bool o.isSome]) ∧ Below w.heap.size w w'
theorem uqRet_none {o : Option (List UInt8 × Bool)} {w w' : World} (h : o = none) (hb : Below w.heap.size w w') : UqRet o w (.returned (.tuple #[.string ⟨#[]⟩, .bool false, .bool false])) w' := by subst h; exact ⟨rfl, hb⟩
theorem uqRet_some {o : Option (List UInt8 × Bool)} {l : List UInt8} {g : Bool} {w w' : World} (h : o = some (l, g)) (hb : Below w.heap.size w w') : UqRet o w (.returned (.tuple #[.string (str l), .bool g, .bool true])) w' := by subst h; exact ⟨rfl, hb⟩
set_option maxRecDepth 100000 in
set_option maxHeartbeats 1000000 in
theorem l5Unquote_any (s : ByteArray) (w : World) (hs : s.size ≤ 1073741000) :
    Calls Tryz.prog 99 #[.string s] w (UqRet (uq s.data.toList) w) := by
  obtain ⟨i0, hi, hz0, hz1, hz2⟩ := info_parts bInfo
  go_enter Tryz.func99, Tryz.ntmps99
  go_wp2_with fail
  go_loopw [5, 6] (fun v i wr => ∃ (k : Nat) (acc : List UInt8), k ≤ s.size ∧ i = .int .i64 k ∧ acc.length ≤ k ∧ uq s.data.toList = (uq (s.data.toList.drop k)).map (fun r => (acc ++ r.1, r.2)) ∧ OwnBy w.heap.size v acc wr ∧ Below w.heap.size w wr) (fun _ i _ => s.size - (intOf i).toNat)
  case atStart => exact ⟨0, [], by omega, rfl, by simp, by rw [List.drop_zero]; cases uq s.data.toList <;> simp, OwnBy.empty w, (Below.refl _ _).alloc (Nat.le_refl _) _⟩
  case round =>
    obtain ⟨k, acc, hk, rfl, hal, hg, hown, hb⟩ := hrel
    have HG := Lib.hid hg
    have HB := Lib.hid hb
    have HOWN := Lib.hid hown
    have hbs := hb.size
    clear hg
    by_cases hlt : k < s.size
    · have HD := Lib.hid (drop_at s k hlt)
      have hown1 := hown
      unfold OwnBy at hown1
      by_cases h61 : s[k] = 61
      · have e61 := bne_f h61 (n := 61) rfl
        by_cases hend : k + 1 = s.size
        · have HN : Hid (uq s.data.toList = some (acc, true)) := by show _ = _; rw [HG.out, HD.out, h61, drop_out s (k + 1) (by omega), uq_end]; simp
          have el : (((k : Int) + 1) == (s.size : Int)) = true := by rw [beq_iff_eq]; omega
          have hback := OwnBy.back hown 81 9 5 Tryz.underlying81 Tryz.underlying5 Tryz.underlying9
          clear h61 hend
          go_wp2
          go_ret3
          exact uqRet_some HN.out hb
        · have el : (((k : Int) + 1) == (s.size : Int)) = false := by rw [beq_eq_false_iff_ne]; omega
          by_cases h2 : k + 2 < s.size
          · have h1 : k + 1 < s.size := by omega
            have HD3 : Hid (s.data.toList.drop (k + 1) = s[k + 1] :: s[k + 2] :: s.data.toList.drop (k + 3)) := by show _ = _; rw [drop_at s (k + 1) h1, drop_at s (k + 2) h2]
            have hge : ¬ ((s.size : Int) ≤ (k : Int) + 2) := by omega
            have hw1 : IntKind.i64.wrap ((k : Int) + 1) = (k : Int) + 1 := IntWalk.i64_in _ (by omega)
            have hw2 : 0 ≤ (k : Int) + 1 := by omega
            have hw3 : ((k : Int) + 1).toNat = k + 1 := by omega
            have hw4 : (k : Int) + 1 < (s.size : Int) := by omega
            have hv1 : IntKind.i64.wrap ((k : Int) + 2) = (k : Int) + 2 := IntWalk.i64_in _ (by omega)
            have hv2 : 0 ≤ (k : Int) + 2 := by omega
            have hv3 : ((k : Int) + 2).toNat = k + 2 := by omega
            have hv4 : (k : Int) + 2 < (s.size : Int) := by omega
            cases ha : hexV s[k + 1] with
            | none =>
              have HI := Lib.hid (ixI_none ha)
              have HN : Hid (uq s.data.toList = none) := by show _ = _; rw [HG.out, HD.out, h61, HD3.out, uq_nohex _ (.inl ha)]; rfl
              clear ha h61 hend
              go_wp2_with fail
              refine (l5Value_any s[k + 1] _).mono ?_
              rintro e w1 ⟨rfl, rfl⟩
              rw [HI.out]
              go_wp2
              go_ret3
              exact uqRet_none HN.out hb
            | some a =>
              have HI := Lib.hid (ixI_some ha)
              have ha16 := hexV_lt ha
              cases hbv : hexV s[k + 2] with
              | none =>
                have HJ := Lib.hid (ixI_none hbv)
                have HN : Hid (uq s.data.toList = none) := by show _ = _; rw [HG.out, HD.out, h61, HD3.out, uq_nohex _ (.inr hbv)]; rfl
                clear ha hbv h61 hend
                go_wp2_with fail
                refine (l5Value_any s[k + 1] _).mono ?_
                rintro e w1 ⟨rfl, rfl⟩
                rw [HI.out]
                go_wp2_with fail
                refine (l5Value_any s[k + 2] _).mono ?_
                rintro e w1 ⟨rfl, rfl⟩
                rw [HJ.out]
                go_wp2
                go_ret3
                exact uqRet_none HN.out hb
              | some b =>
                have HJ := Lib.hid (ixI_some hbv)
                have hb16 := hexV_lt hbv
                have HN : Hid (uq s.data.toList = (uq (s.data.toList.drop (k + 3))).map (fun r => ((acc ++ [UInt8.ofNat (16 * a + b)]) ++ r.1, r.2))) := by
                  show _ = _; rw [HG.out, HD.out, h61, HD3.out, uq_hex _ ha hbv]
                  cases uq (s.data.toList.drop (k + 3)) <;> simp
                have HV1 : Hid (∀ u : World, Calls Tryz.prog 137 #[.int .u8 s[k + 1].toNat] u fun e w' => e = .returned (.int .i64 (a : Int)) ∧ w' = u) := fun u => by rw [← HI.out]; exact l5Value_any s[k + 1] u
                have HV2 : Hid (∀ u : World, Calls Tryz.prog 137 #[.int .u8 s[k + 2].toNat] u fun e w' => e = .returned (.int .i64 (b : Int)) ∧ w' = u) := fun u => by rw [← HJ.out]; exact l5Value_any s[k + 2] u
                obtain ⟨cb, hcb, hce⟩ : ∃ cb : UInt8, (16 * (a : Int) + b) = (cb.toNat : Int) ∧ cb = UInt8.ofNat (16 * a + b) := ⟨_, by rw [UInt8.toNat_ofNat']; omega, rfl⟩
                rw [← hce] at HN
                have hcb256 := cb.toNat_lt
                clear ha hbv h61 hend hce
                go_wp2_with fail
                refine (HV1.out _).mono ?_
                rintro e w1 ⟨rfl, rfl⟩
                go_wp2_with fail
                refine (HV2.out _).mono ?_
                rintro e w1 ⟨rfl, rfl⟩
                go_wp2_with fail
                have hwx : (IntKind.u8.wrap (IntKind.i64.wrap (IntKind.i64.wrap (16 * (a : Int)) + (b : Int)))) = (cb.toNat : Int) := by rw [IntWalk.i64_in (16 * (a : Int)) (by omega), IntWalk.i64_in _ (by omega), IntWalk.u8_in _ (by omega)]; exact hcb
                have HA := Lib.hid (show OwnBy w.heap.size _ acc (w1.alloc (.cells #[.int .u8 (IntKind.u8.wrap (IntKind.i64.wrap (IntKind.i64.wrap (16 * (a : Int)) + (b : Int))))] 5)).drew from World.ownsRow.alloc (w := w1) hown1 _)
                have HCN : Hid ((w1.alloc (.cells #[.int .u8 (IntKind.u8.wrap (IntKind.i64.wrap (IntKind.i64.wrap (16 * (a : Int)) + (b : Int))))] 5)).drew.cell? ⟨w1.heap.size, 0, none⟩ = some (.int .u8 (cb.toNat : Int))) := by show (w1.alloc _).cell? _ = _; rw [World.cell?_alloc_at _ _ _ _ rfl, hwx]; rfl
                have HBD : Hid (Below w.heap.size w (w1.alloc (.cells #[.int .u8 (IntKind.u8.wrap (IntKind.i64.wrap (IntKind.i64.wrap (16 * (a : Int)) + (b : Int))))] 5)).drew) := (HB.out.alloc hbs _).drew
                clear hwx hcb
                go_region_law (first
                  | (refine step_append_B (by rfl) _ _ (by rfl) w.heap.size _ acc cb w1.heap.size (by rfl) (by rfl) HA.out HCN.out HBD.out.size (by omega) ?_
                     intro v3 w3 hO3 hb3)
                  | (go_simp
                     go_at_call 137
                     refine (l5Value_any _ _).mono ?_
                     rintro e w6 ⟨rfl, rfl⟩
                     first | rw [HI.out] | rw [HJ.out]))
                all_goals
                  have hb4 := HBD.out.trans hb3
                  go_wp2
                  go_roundw
                  case rel => exact ⟨k + 3, _, by omega, by go_num, by rw [List.length_append, List.length_singleton]; omega, HN.out, hO3, hb4⟩
                  case measure => simp [intOf]; omega
          · have HN : Hid (uq s.data.toList = none) := by
              show _ = _; rw [HG.out, HD.out, h61, drop_at s (k + 1) (by omega), drop_out s (k + 1 + 1) (by omega), uq_short]; rfl
            have hge : ((s.size : Int) ≤ (k : Int) + 2) := by omega
            clear h61 hend
            go_wp2
            go_ret3
            exact uqRet_none HN.out hb
      · have e61 := bne_t h61 (n := 61) rfl
        cases ho : okB s[k]
        · have HN : Hid (uq s.data.toList = none) := by show _ = _; rw [HG.out, HD.out, uq_bad _ ho]; rfl
          rcases okB_out ho with h1 | ⟨h1, h2⟩ <;> clear ho h61
          all_goals
            go_wp2
            go_ret3
            exact uqRet_none HN.out hb
        · obtain ⟨h1, h2⟩ := okB_in ho
          have HN : Hid (uq s.data.toList = (uq (s.data.toList.drop (k + 1))).map (fun r => ((acc ++ [s[k]]) ++ r.1, r.2))) := by
            show _ = _; rw [HG.out, HD.out, uq_plain _ h61 ho]
            cases uq (s.data.toList.drop (k + 1)) <;> simp
          clear ho h61
          go_wp2_with (at_builtin; refine wpList_append_own _ rfl _ _ 81 rfl w.heap.size 5 i0 (.int .u8 0) 1 1 Tryz.underlying81 hi hz0 hz1 hz2 rfl (by decide) _ _ _ rfl (hown1.alloc _) ⟨wr.heap.size, 0, none⟩ 1 1 [.int .u8 s[k].toNat] rfl rfl ?c1 ?c2 ?c3 ?c4 ?c5 ?_)
          case c1 =>
            intro j u hj
            match j, hj with
            | 0, hj => simp at hj; subst hj; simp [Addr.add]
          case c2 => intro u hu; simp at hu; subst hu; rfl
          case c3 => unfold maxLen; omega
          case c4 => omega
          case c5 => simp; omega
          intro v' w3 hown' hgrow _
          have hO3 := own_snocB hown'
          have hb3 : Below w.heap.size wr w3 := ((Below.refl _ _).alloc (by omega) _).grown hgrow (by simp; omega) (fun k hk => (World.ownsRow.lt hown1 k hk).1)
          go_wp2
          go_roundw
          case rel => exact ⟨k + 1, _, by omega, by go_num, by rw [List.length_append, List.length_singleton]; omega, HN.out, hO3, HB.out.trans hb3⟩
          case measure => simp [intOf]; omega
    · have HN : Hid (uq s.data.toList = some (acc, false)) := by show _ = _; rw [HG.out, drop_out s k (by omega)]; simp [uq]
      have hback := OwnBy.back hown 81 9 5 Tryz.underlying81 Tryz.underlying5 Tryz.underlying9
      go_wp2
      go_ret3
      exact uqRet_some HN.out hb
end Go.Proofs.YtcdmjckkencgoaaGreatDoor
end

section
namespace Go.Proofs.YtcdmjckkencgoaaGreatDoor
open Go.RowKit

def cutL (l : List UInt8) : List UInt8 × Bool := if l.getLast? = some 61 then (l.dropLast, true) else (l, false)
theorem uq_cut (l : List UInt8) : uq l = (rq (cutL l).1).map (·, (cutL l).2) := by
  unfold cutL
  by_cases h : l.getLast? = some 61
  · rw [if_pos h]
    have hne : l ≠ [] := fun e => by rw [e] at h; simp at h
    have h2 : l = l.dropLast ++ [61] := by
      have := List.dropLast_concat_getLast hne
      rw [List.getLast?_eq_some_getLast hne] at h
      injection h with h
      rw [h] at this; exact this.symm
    conv => lhs; rw [h2]
    exact uq_soft _ _ (Nat.le_refl _)
  · rw [if_neg h]; exact uq_hard _ _ (Nat.le_refl _) h
theorem cutL_len (l : List UInt8) : (cutL l).1.length ≤ l.length := by unfold cutL; split <;> simp
theorem suffix_eq (r : List UInt8) : Lib.hasSuffix r [61] = decide (r.getLast? = some 61) := by
  unfold Lib.hasSuffix
  rw [Bool.eq_iff_iff, decide_eq_true_iff, List.isSuffixOf_iff_suffix]
  constructor
  · rintro ⟨t, rfl⟩; simp
  · intro h
    refine ⟨r.dropLast, ?_⟩
    have hne : r ≠ [] := fun e => by rw [e] at h; simp at h
    have := List.dropLast_concat_getLast hne
    rw [List.getLast?_eq_some_getLast hne] at h
    injection h with h
    rw [h] at this; exact this
theorem cutSuffix_any (r : List UInt8) (w : World) (hr : r.length ≤ 1073741824) :
    Calls Tryz.prog 107 #[.string (str r), .string ⟨#[61]⟩] w fun e w' => e = .returned (.tuple #[.string (str (cutL r).1), .bool (cutL r).2]) ∧ w' = w := by
  refine (Tryz.strings_CutSuffix (str r) ⟨#[61]⟩ w (by rw [str_size]; omega)).mono ?_
  rintro e w' ⟨rfl, rfl⟩
  refine ⟨?_, rfl⟩
  rw [str_list, show (⟨#[61]⟩ : ByteArray).data.toList = [61] from rfl, suffix_eq]
  unfold cutL Lib.trimSuffix
  rw [suffix_eq]
  by_cases h : r.getLast? = some 61
  · rw [if_pos h, decide_eq_true h]
    simp [str, List.dropLast_eq_take]
  · rw [if_neg h, decide_eq_false h]
    simp [str]
theorem decG_step (g : Bool) (l : List UInt8) (ls : List (List UInt8)) : decG g (l :: ls) = match rq (cutL l).1 with | none => none | some p => (decG (cutL l).2 ls).map fun t => (if g then [] else [10]) ++ p ++ t := by
  rw [decG, uq_cut]
  cases rq (cutL l).1 <;> rfl
theorem rq_len : ∀ (n : Nat) (l : List UInt8), l.length ≤ n → ∀ p, rq l = some p → p.length ≤ l.length
  | _, [], _, p, h => by simp [rq] at h; subst h; simp
  | n + 1, c :: l, hn, p, h => by
    rw [List.length_cons] at hn
    cases h2 : okB c
    · rw [rq_bad _ h2] at h; cases h
    by_cases h61 : c = 61
    · subst h61
      match l, hn, h with
      | [], _, h => rw [rq_end] at h; cases h
      | [x], _, h => rw [rq_short] at h; cases h
      | x :: y :: m, hn, h =>
        cases hx : hexV x with
        | none => rw [rq_nohex _ (.inl hx)] at h; cases h
        | some a =>
          cases hy : hexV y with
          | none => rw [rq_nohex _ (.inr hy)] at h; cases h
          | some b =>
            rw [rq_hex _ hx hy] at h
            obtain ⟨q, hq, rfl⟩ := Option.map_eq_some_iff.1 h
            have := rq_len n m (by simp only [List.length_cons] at hn; omega) q hq
            simp only [List.length_cons]; omega
    · rw [rq_plain _ h61 h2] at h
      obtain ⟨q, hq, rfl⟩ := Option.map_eq_some_iff.1 h
      have := rq_len n l (by omega) q hq
      simp only [List.length_cons]; omega
theorem uq_len (l : List UInt8) : ∀ y, uq l = some y → y.1.length ≤ l.length := by
  intro y h
  rw [uq_cut] at h
  obtain ⟨p, hp, rfl⟩ := Option.map_eq_some_iff.1 h
  have := rq_len _ _ (Nat.le_refl _) p hp
  have := cutL_len l
  show p.length ≤ _
  omega
theorem lim_map_none {o : Option (List UInt8)} {acc : List UInt8} (h : 300 < acc.length) : lim (o.map (acc ++ ·)) = none := by
  cases o with
  | none => rfl
  | some t => exact lim_out (by rw [List.length_append]; omega)
theorem drop_cons (xs : List (List UInt8)) (k : Nat) (h : k < xs.length) : xs.drop k = xs[k] :: xs.drop (k + 1) := List.drop_eq_getElem_cons h
set_option maxRecDepth 100000 in
set_option maxHeartbeats 4000000 in
theorem decodeQuoted_any (a : Option Addr) (n c : Nat) (xs : List (List UInt8)) (w : World) (hr : RdL w a n xs) (hn : n ≤ 1073741824) (hx : ∀ x ∈ xs, x.length ≤ 1073741000) :
    Calls Tryz.prog 78 #[.slice a n c] w (DecRet (decQ xs) w) := by
  have HX := Lib.hid hx
  have HLEN := Lib.hid hr.1
  have HR := Lib.hid hr.2
  clear hx hr
  go_enter Tryz.func78, Tryz.ntmps78
  go_wp2_with fail
  go_loopw [5, 12] (fun g i wr => ∃ (k : Nat) (gb : Bool) (acc : List UInt8), k ≤ n ∧ i = .int .i64 k ∧ g = .bool gb ∧ acc.length ≤ 300 ∧ decG true xs = (decG gb (xs.drop k)).map (acc ++ ·) ∧ Bld w.heap.size w.heap.size acc wr ∧ Below w.heap.size w wr) (fun _ i _ => n - (intOf i).toNat)
  case atStart => exact ⟨0, true, [], by omega, rfl, rfl, by simp, by rw [List.drop_zero]; cases decG true xs <;> simp, bld_fresh w, (Below.refl _ _).alloc (Nat.le_refl _) _⟩
  case round =>
    obtain ⟨k, gb, acc, hk, rfl, rfl, hal, hg, hB, hb⟩ := hrel
    have HG := Lib.hid hg
    clear hg
    by_cases hlt : k < n
    · have hkx : k < xs.length := by rw [HLEN.out]; exact hlt
      obtain ⟨b, off, rfl, hbl, hcell⟩ := HR.out.resolve_left (by omega)
      have c0 : wr.cell? ⟨b, off + k, none⟩ = some (.string (str xs[k])) := by rw [below_at hb hbl]; exact hcell k hkx
      have hzx : xs[k].length ≤ 1073741000 := HX.out _ (List.getElem_mem hkx)
      have HST : Hid (decG gb (xs.drop k) = match rq (cutL xs[k]).1 with | none => none | some p => (decG (cutL xs[k]).2 (xs.drop (k + 1))).map fun t => (if gb then [] else [10]) ++ p ++ t) := by show _ = _; rw [drop_cons xs k hkx, decG_step]
      have HCS := Lib.hid (fun u => cutSuffix_any xs[k] u (by omega))
      have hcl := cutL_len xs[k]
      have HRQ : Hid (∀ u, Calls Tryz.prog 108 #[.string (str (cutL xs[k]).1)] u (DecRet (rq (cutL xs[k]).1) u)) := fun u => by
        have := readQuotedLine_any (str (cutL xs[k]).1) u (by rw [str_size]; omega)
        rw [str_list] at this; exact this
      have HRL := Lib.hid (rq_len _ (cutL xs[k]).1 (Nat.le_refl _))
      generalize (cutL xs[k]).2 = g2 at *
      generalize (cutL xs[k]).1 = cl at *
      generalize str xs[k] = x at *
      clear hcell
      obtain ⟨pre, HPRE⟩ : ∃ pre : List UInt8, Hid (pre = if gb then [] else [10]) := ⟨_, rfl⟩
      have hpl : pre.length ≤ 1 := by rw [HPRE.out]; split <;> simp
      cases hq : rq cl with
      | none =>
        have HN : Hid (decQ xs = none) := by show lim _ = _; rw [HG.out, HST.out, hq]; rfl
        rw [hq] at HRQ
        clear hq
        cases gb
        all_goals
          go_wp2_with fail
          first
            | (refine (writeByte_any _ _ _ 10 _ hB (by omega)).mono ?_
               rintro e w2 ⟨rfl, hB2, hb2⟩
               have c1 := hb2
               go_wp2_with fail)
            | skip
          refine (HCS.out _).mono ?_
          rintro e w3 ⟨rfl, rfl⟩
          go_wp2_with fail
          refine (HRQ.out _).mono ?_
          rintro e w4 ⟨rfl, hb4⟩
          go_wp2
          go_ret2
          exact decRet_none HN.out rfl (by first | exact nx (hb.trans hb2) hb4 | exact nx hb hb4)
      | some p =>
        have hpz := HRL.out p hq
        obtain ⟨acc5, hacc5⟩ : ∃ acc5, acc5 = acc ++ (if gb then [] else [10]) ++ p := ⟨_, rfl⟩
        have HGN : Hid (decG true xs = (decG g2 (xs.drop (k + 1))).map (acc5 ++ ·)) := by
          show _ = _; rw [HG.out, HST.out, hq, hacc5]; dsimp only
          cases decG g2 (xs.drop (k + 1)) <;> simp
        rw [hq] at HRQ
        clear hq HPRE hpl
        cases gb
        · go_wp2_with fail
          refine (writeByte_any _ _ _ 10 _ hB (by omega)).mono ?_
          rintro e w2 ⟨rfl, hB2, hb2⟩
          go_wp2_with fail
          refine (HCS.out _).mono ?_
          rintro e w3 ⟨rfl, rfl⟩
          go_wp2_with fail
          refine (HRQ.out _).mono ?_
          rintro e w4 ⟨rfl, hb4⟩
          have hb14 := nx (hb.trans hb2) hb4
          have hB4 := Bld.keep hB2 hb4
          go_wp2_with fail
          refine (writeString_any _ _ _ (str p) _ hB4 (by rw [str_size]; first | omega | (simp only [List.length_append, List.length_singleton]; omega))).mono ?_
          rintro e w5 ⟨rfl, hB5, hb5⟩
          rw [str_list] at hB5
          have hb15 := hb14.trans hb5
          have HA5 : Hid (acc ++ [10] ++ p = acc5) := by show _ = _; rw [hacc5]; simp
          rw [HA5.out] at hB5
          have hl5 : acc5.length ≤ 1073742000 := by rw [← HA5.out]; simp only [List.length_append, List.length_cons, List.length_nil]; omega
          clear hacc5
          go_wp2_with fail
          refine (bLen_any _ _ _ _ hB5).mono ?_
          rintro e w6 ⟨rfl, rfl⟩
          by_cases h300 : 300 < acc5.length
          · have HN : Hid (decQ xs = none) := by show lim _ = _; rw [HGN.out]; exact lim_map_none h300
            go_wp2
            go_ret2
            exact decRet_none HN.out rfl hb15
          · go_wp2
            go_roundw
            case rel => exact ⟨k + 1, g2, acc5, by omega, by go_num, rfl, by omega, HGN.out, hB5, hb15⟩
            case measure => simp [intOf]; omega
        · go_wp2_with fail
          refine (HCS.out _).mono ?_
          rintro e w3 ⟨rfl, rfl⟩
          go_wp2_with fail
          refine (HRQ.out _).mono ?_
          rintro e w4 ⟨rfl, hb4⟩
          have hb14 := nx hb hb4
          have hB4 := Bld.keep hB hb4
          go_wp2_with fail
          refine (writeString_any _ _ _ (str p) _ hB4 (by rw [str_size]; first | omega | (simp only [List.length_append, List.length_singleton]; omega))).mono ?_
          rintro e w5 ⟨rfl, hB5, hb5⟩
          rw [str_list] at hB5
          have hb15 := hb14.trans hb5
          have HA5 : Hid (acc ++ p = acc5) := by show _ = _; rw [hacc5]; simp
          rw [HA5.out] at hB5
          have hl5 : acc5.length ≤ 1073742000 := by rw [← HA5.out]; simp only [List.length_append]; omega
          clear hacc5
          go_wp2_with fail
          refine (bLen_any _ _ _ _ hB5).mono ?_
          rintro e w6 ⟨rfl, rfl⟩
          by_cases h300 : 300 < acc5.length
          · have HN : Hid (decQ xs = none) := by show lim _ = _; rw [HGN.out]; exact lim_map_none h300
            go_wp2
            go_ret2
            exact decRet_none HN.out rfl hb15
          · go_wp2
            go_roundw
            case rel => exact ⟨k + 1, g2, acc5, by omega, by go_num, rfl, by omega, HGN.out, hB5, hb15⟩
            case measure => simp [intOf]; omega
    · cases gb
      · have HN : Hid (decQ xs = some acc) := by show lim _ = _; rw [HG.out, List.drop_eq_nil_of_le (by rw [HLEN.out]; omega)]; show lim (some (acc ++ [])) = _; rw [List.append_nil]; exact lim_in hal
        go_wp2_with fail
        refine (bString_any _ _ _ _ hB).mono ?_
        rintro e w5 ⟨rfl, hb5⟩
        go_wp2
        go_ret2
        exact decRet_some HN.out rfl (hb.trans hb5)
      · have HN : Hid (decQ xs = none) := by show lim _ = _; rw [HG.out, List.drop_eq_nil_of_le (by rw [HLEN.out]; omega)]; rfl
        go_wp2
        go_ret2
        exact decRet_none HN.out rfl hb
theorem decG_end (g : Bool) : decG g [] = if g then none else some [] := rfl
set_option maxRecDepth 100000 in
set_option maxHeartbeats 4000000 in
theorem decodeQuotedS_any (a : Option Addr) (n c : Nat) (xs : List (List UInt8)) (w : World) (hr : RdL w a n xs) (hn : n ≤ 1073741824) (hx : ∀ x ∈ xs, x.length ≤ 1073741000) :
    Calls Tryz.prog 70 #[.slice a n c] w (DecRet (decQ xs) w) := by
  have HX := Lib.hid hx
  have HLEN := Lib.hid hr.1
  have HR := Lib.hid hr.2
  clear hx hr
  go_enter Tryz.func70, Tryz.ntmps70
  go_wp2_with fail
  go_loopw [4, 5] (fun o i wr => ∃ (k : Nat) (acc : List UInt8), k ≤ n ∧ i = .int .i64 k ∧ o = .string (str acc) ∧ acc.length ≤ 300 ∧ ((k < n ∧ decG true xs = (decG true (xs.drop k)).map (acc ++ ·)) ∨ (k = n ∧ 0 < n ∧ decG true xs = some acc) ∨ (n = 0 ∧ acc = [])) ∧ Below w.heap.size w wr) (fun _ i _ => n - (intOf i).toNat)
  case atStart =>
    refine ⟨0, [], by omega, rfl, rfl, by simp, ?_, Below.refl _ _⟩
    by_cases h0 : n = 0
    · exact .inr (.inr ⟨h0, rfl⟩)
    · exact .inl ⟨by omega, by rw [List.drop_zero]; cases decG true xs <;> simp⟩
  case round =>
    obtain ⟨k, acc, hk, rfl, rfl, hal, hst, hb⟩ := hrel
    have haz := str_size acc
    by_cases hlt : k < n
    · obtain ⟨_, hg⟩ : k < n ∧ decG true xs = (decG true (xs.drop k)).map (acc ++ ·) := by
        rcases hst with h | h | h
        · exact h
        · omega
        · omega
      have HG := Lib.hid hg
      clear hg hst
      have hkx : k < xs.length := by rw [HLEN.out]; exact hlt
      obtain ⟨b, off, rfl, hbl, hcell⟩ := HR.out.resolve_left (by omega)
      have c0 : wr.cell? ⟨b, off + k, none⟩ = some (.string (str xs[k])) := by rw [below_at hb hbl]; exact hcell k hkx
      have hzx : xs[k].length ≤ 1073741000 := HX.out _ (List.getElem_mem hkx)
      have HDC := Lib.hid (drop_cons xs k hkx)
      have HUQ : Hid (∀ u, Calls Tryz.prog 99 #[.string (str xs[k])] u (UqRet (uq xs[k]) u)) := fun u => by
        have := l5Unquote_any (str xs[k]) u (by rw [str_size]; omega)
        rw [str_list] at this; exact this
      have HUL := Lib.hid (uq_len xs[k])
      generalize hxk : xs[k] = x at *
      clear hcell hxk
      cases hu : uq x with
      | none =>
        have HN : Hid (decQ xs = none) := by show lim _ = _; rw [HG.out, HDC.out, decG_none _ hu]; rfl
        rw [hu] at HUQ
        clear hu
        go_wp2_with fail
        refine (HUQ.out _).mono ?_
        rintro e w2 ⟨rfl, hb2⟩
        go_wp2
        go_ret2
        exact decRet_none HN.out rfl (nx hb hb2)
      | some y =>
        obtain ⟨r, g⟩ := y
        have hrl := HUL.out _ hu
        have hrz := str_size r
        have HDS : Hid (decG true (xs.drop k) = (decG g (xs.drop (k + 1))).map (r ++ ·)) := by show _ = _; rw [HDC.out, decG_some _ hu]; cases decG g (xs.drop (k + 1)) <;> simp
        rw [hu] at HUQ
        have hap : (str acc ++ str r).size = acc.length + r.length := by rw [ByteArray.size_append, haz, hrz]
        have HAR : Hid (str acc ++ str r = str (acc ++ r)) := str_app acc r
        clear hu
        by_cases hlast : k + 1 = n
        · have el : (((k : Int) + 1) == (n : Int)) = true := by rw [beq_iff_eq]; omega
          have HNIL : Hid (xs.drop (k + 1) = []) := List.drop_eq_nil_of_le (by rw [HLEN.out]; omega)
          cases g
          · have HF : Hid (decG true xs = some (acc ++ r)) := by show _ = _; rw [HG.out, HDS.out, HNIL.out]; simp [decG]
            by_cases h300 : 300 < acc.length + r.length
            · have HN : Hid (decQ xs = none) := by show lim _ = _; rw [HF.out]; exact lim_out (by rw [List.length_append]; exact h300)
              clear hlast
              go_wp2_with fail
              refine (HUQ.out _).mono ?_
              rintro e w2 ⟨rfl, hb2⟩
              go_wp2
              go_ret2
              exact decRet_none HN.out rfl (nx hb hb2)
            · have HNN : Hid (k + 1 = n) := hlast
              clear hlast
              go_wp2_with fail
              refine (HUQ.out _).mono ?_
              rintro e w2 ⟨rfl, hb2⟩
              go_wp2
              go_roundw
              case rel => exact ⟨k + 1, acc ++ r, by omega, by go_num, by rw [HAR.out], by rw [List.length_append]; omega, .inr (.inl ⟨HNN.out, by omega, HF.out⟩), nx hb hb2⟩
              case measure => simp [intOf]; omega
          · have HN : Hid (decQ xs = none) := by show lim _ = _; rw [HG.out, HDS.out, HNIL.out]; rfl
            clear hlast
            go_wp2_with fail
            refine (HUQ.out _).mono ?_
            rintro e w2 ⟨rfl, hb2⟩
            go_wp2
            go_ret2
            exact decRet_none HN.out rfl (nx hb hb2)
        · have el : (((k : Int) + 1) == (n : Int)) = false := by rw [beq_eq_false_iff_ne]; omega
          have hk1 : k + 1 < n := by omega
          have HNE : Hid (xs.drop (k + 1) ≠ []) := by show _ ≠ _; intro e; have := congrArg List.length e; rw [List.length_drop, HLEN.out] at this; simp at this; omega
          clear hlast
          cases g
          · have HF : Hid (decG true xs = (decG true (xs.drop (k + 1))).map ((acc ++ r ++ [10]) ++ ·)) := by
              show _ = _; rw [HG.out, HDS.out, decG_false HNE.out]; cases decG true (xs.drop (k + 1)) <;> simp
            have hap2 : (str acc ++ str r ++ (ByteArray.mk #[10])).size = acc.length + r.length + 1 := by rw [ByteArray.size_append, hap]; rfl
            have HAR2 : Hid (str acc ++ str r ++ (ByteArray.mk #[10]) = str (acc ++ r ++ [10])) := by show _ = _; rw [str_app, show (ByteArray.mk #[10]) = str [10] from rfl, str_app]
            by_cases h300 : 300 < acc.length + r.length + 1
            · have HN : Hid (decQ xs = none) := by show lim _ = _; rw [HF.out]; exact lim_map_none (by simp only [List.length_append, List.length_singleton]; omega)
              go_wp2_with fail
              refine (HUQ.out _).mono ?_
              rintro e w2 ⟨rfl, hb2⟩
              go_wp2
              go_ret2
              exact decRet_none HN.out rfl (nx hb hb2)
            · go_wp2_with fail
              refine (HUQ.out _).mono ?_
              rintro e w2 ⟨rfl, hb2⟩
              go_wp2
              go_roundw
              case rel => exact ⟨k + 1, acc ++ r ++ [10], by omega, by go_num, by rw [HAR2.out], by simp only [List.length_append, List.length_singleton]; omega, .inl ⟨hk1, HF.out⟩, nx hb hb2⟩
              case measure => simp [intOf]; omega
          · have HF : Hid (decG true xs = (decG true (xs.drop (k + 1))).map ((acc ++ r) ++ ·)) := by
              show _ = _; rw [HG.out, HDS.out]; cases decG true (xs.drop (k + 1)) <;> simp
            by_cases h300 : 300 < acc.length + r.length
            · have HN : Hid (decQ xs = none) := by show lim _ = _; rw [HF.out]; exact lim_map_none (by rw [List.length_append]; omega)
              go_wp2_with fail
              refine (HUQ.out _).mono ?_
              rintro e w2 ⟨rfl, hb2⟩
              go_wp2
              go_ret2
              exact decRet_none HN.out rfl (nx hb hb2)
            · go_wp2_with fail
              refine (HUQ.out _).mono ?_
              rintro e w2 ⟨rfl, hb2⟩
              go_wp2
              go_roundw
              case rel => exact ⟨k + 1, acc ++ r, by omega, by go_num, by rw [HAR.out], by rw [List.length_append]; omega, .inl ⟨hk1, HF.out⟩, nx hb hb2⟩
              case measure => simp [intOf]; omega
    · by_cases h0 : 0 < n
      · have HN : Hid (decQ xs = some acc) := by
          rcases hst with ⟨h, _⟩ | ⟨_, _, h⟩ | ⟨h, _⟩
          · omega
          · show lim _ = _; rw [h]; exact lim_in hal
          · omega
        clear hst
        go_wp2
        go_ret2
        exact decRet_some HN.out rfl hb
      · have h00 : n = 0 := by omega
        have HN : Hid (decQ xs = none) := by
          have : xs = [] := List.length_eq_zero_iff.1 (by rw [HLEN.out]; exact h00)
          show lim _ = _; rw [this]; rfl
        have HAC : Hid (str acc = str []) := by
          rcases hst with ⟨h, _⟩ | ⟨_, h, _⟩ | ⟨_, h⟩
          · omega
          · omega
          · show _ = _; rw [h]
        clear hst h00
        go_wp2
        go_ret2
        exact decRet_none HN.out HAC.out hb
end Go.Proofs.YtcdmjckkencgoaaGreatDoor
end

section
namespace Go.Proofs.YtcdmjckkencgoaaGreatDoor
open Go.RowKit

theorem joinC_any (a : Option Addr) (n c : Nat) (xs : List (List UInt8)) (sep : ByteArray) (w : World) (hr : RdL w a n xs) (hnc : n ≤ c) (hn : n ≤ 140737488355328) (hlen : (Lib.join xs sep.data.toList).length ≤ 140737488355328) :
    Calls Tryz.prog 95 #[.slice a n c, .string sep] w fun e w' => e = .returned (.string (str (Lib.join xs sep.data.toList))) ∧ Below w.heap.size w w' := by
  obtain ⟨hl, h0 | ⟨b, off, rfl, hb, hc⟩⟩ := hr
  · subst h0
    have : xs = [] := List.length_eq_zero_iff.1 hl
    subst this
    refine (Tryz.strings_Join_none a c sep w).mono ?_
    rintro e w' ⟨rfl, rfl⟩
    exact ⟨rfl, Below.refl _ _⟩
  · have hm : (xs.map str).map (·.data.toList) = xs := by rw [List.map_map]; conv => rhs; rw [← List.map_id xs]
                                                          exact List.map_congr_left fun x _ => str_list x
    have := Tryz.strings_Join b off c (xs.map str) sep w (fun j x hx => by
      rw [List.getElem?_map] at hx
      obtain ⟨y, hy, rfl⟩ := Option.map_eq_some_iff.1 hx
      obtain ⟨hj, hj2⟩ := List.getElem?_eq_some_iff.1 hy
      rw [hc j hj, hj2]) hb (by simp; omega) (by simp; omega) (by rw [hm]; exact hlen)
    rw [hm] at this
    rw [List.length_map, hl] at this
    exact this
theorem plOk_iff {l : List UInt8} : plOk l = true ↔ isText l = true ∧ l.length ≤ 40 := by unfold plOk; simp
set_option maxRecDepth 100000 in
set_option maxHeartbeats 1000000 in
theorem plainLinesValid_any (a : Option Addr) (n c : Nat) (xs : List (List UInt8)) (w : World) (hr : RdL w a n xs) (hn : n ≤ 1073741824) (hx : ∀ x ∈ xs, x.length ≤ 1073741000) :
    Calls Tryz.prog 105 #[.slice a n c] w fun e w' => e = .returned (.bool (decide (xs ≠ []) && xs.all plOk)) ∧ w = w' := by
  have HX := Lib.hid hx
  have HLEN := Lib.hid hr.1
  have HR := Lib.hid hr.2
  clear hx hr
  go_enter Tryz.func105, Tryz.ntmps105
  go_wp2_with fail
  go_loop [7] (fun i => ∃ k : Nat, k ≤ n ∧ i = .int .i64 k ∧ ∀ j, (h : j < xs.length) → j < k → plOk xs[j] = true) (fun i => n - (intOf i).toNat)
  case atStart => exact ⟨0, by omega, rfl, fun j _ h => by omega⟩
  case round =>
    obtain ⟨k, hk, rfl, hall⟩ := hrel
    have HA := Lib.hid hall
    clear hall
    by_cases hlt : k < n
    · have hkx : k < xs.length := by rw [HLEN.out]; exact hlt
      obtain ⟨b, off, rfl, hbl, hcell⟩ := HR.out.resolve_left (by omega)
      have c0 : w.cell? ⟨b, off + k, none⟩ = some (.string (str xs[k])) := hcell k hkx
      have hzx : xs[k].length ≤ 1073741000 := HX.out _ (List.getElem_mem hkx)
      have hkz := str_size xs[k]
      have HTV : Hid (∀ u, Calls Tryz.prog 124 #[.string (str xs[k])] u fun e w' => e = .returned (.bool (isText xs[k])) ∧ u = w') := fun u => by
        have := textValid_any (str xs[k]) u (by rw [str_size]; unfold maxLen; omega)
        rw [str_list] at this; exact this
      have HBAD : Hid (plOk xs[k] = false → (decide (xs ≠ []) && xs.all plOk) = false) := fun h => by
        rw [Bool.and_eq_false_iff]; right; rw [List.all_eq_false]; exact ⟨_, List.getElem_mem hkx, by simp [h]⟩
      clear hcell
      cases ht : isText xs[k]
      · have HE := Lib.hid (HBAD.out (by unfold plOk; rw [ht]; rfl))
        rw [ht] at HTV
        clear ht
        generalize str xs[k] = x at *
        go_wp2_with fail
        refine (HTV.out _).mono ?_
        rintro e w1 ⟨rfl, rfl⟩
        go_wp2
        go_ret
        exact ⟨ret_bool HE.out.symm, rfl⟩
      · by_cases h40 : 40 < xs[k].length
        · have HE := Lib.hid (HBAD.out (by unfold plOk; rw [decide_eq_false (by omega)]; simp))
          rw [ht] at HTV
          have h4 : 40 < (str xs[k]).size := by omega
          clear ht hkz h40
          generalize str xs[k] = x at *
          go_wp2_with fail
          refine (HTV.out _).mono ?_
          rintro e w1 ⟨rfl, rfl⟩
          go_wp2
          go_ret
          exact ⟨ret_bool HE.out.symm, rfl⟩
        · have HK : Hid (plOk xs[k] = true) := plOk_iff.2 ⟨ht, by omega⟩
          rw [ht] at HTV
          have h4 : ¬ 40 < (str xs[k]).size := by omega
          clear ht hkz h40
          generalize str xs[k] = x at *
          go_wp2_with fail
          refine (HTV.out _).mono ?_
          rintro e w1 ⟨rfl, rfl⟩
          go_wp2
          go_round
          case rel => exact ⟨k + 1, by omega, by go_num, fun j hj hjk => by
            by_cases e : j = k
            · subst e; exact HK.out
            · exact HA.out j hj (by omega)⟩
          case measure => simp [intOf]; omega
    · have HE : Hid (xs.all plOk = true) := by
        show _ = _
        rw [List.all_eq_true]; intro x hx
        obtain ⟨j, hj, rfl⟩ := List.getElem_of_mem hx
        exact HA.out j hj (by rw [HLEN.out] at hj; omega)
      have HNE : Hid (decide (0 < n) = (!decide (xs = []))) := by
        show _ = _
        by_cases h : xs = []
        · rw [decide_eq_true h, decide_eq_false (by rw [← HLEN.out, h]; simp)]; rfl
        · rw [decide_eq_false h, decide_eq_true (by rw [← HLEN.out]; exact List.length_pos_iff.2 h)]; rfl
      go_wp2
      go_ret
      exact ⟨ret_bool (by rw [HE.out]; simp only [Bool.and_true]; exact HNE.out), rfl⟩
theorem joinNl_len (xs : List (List UInt8)) (h : ∀ x ∈ xs, x.length ≤ 40) : (joinNl xs).length ≤ 41 * xs.length := by
  induction xs with
  | nil => simp [joinNl]
  | cons x xs ih =>
    have h1 := h x (by simp)
    have h2 := ih (fun y hy => h y (by simp [hy]))
    cases xs with
    | nil => simp [joinNl]; omega
    | cons y ys =>
      show (x ++ 10 :: joinNl (y :: ys)).length ≤ _
      rw [List.length_append, List.length_cons]
      simp only [List.length_cons] at h2 ⊢; omega
set_option maxRecDepth 100000 in
set_option maxHeartbeats 1000000 in
theorem decodePlain_any (a : Option Addr) (n c : Nat) (xs : List (List UInt8)) (w : World) (hr : RdL w a n xs) (hnc : n ≤ c) (hn : n ≤ 1073741824) (hx : ∀ x ∈ xs, x.length ≤ 1073741000) :
    Calls Tryz.prog 77 #[.slice a n c] w (DecRet (decP xs) w) := by
  have HX := Lib.hid hx
  have HR := Lib.hid hr
  clear hx hr
  go_enter Tryz.func77, Tryz.ntmps77
  go_wp2_with fail
  refine (plainLinesValid_any a n c xs _ HR.out hn HX.out).mono ?_
  rintro e w1 ⟨rfl, rfl⟩
  cases hv : (decide (xs ≠ []) && xs.all plOk)
  · have HN : Hid (decP xs = none) := by
      show _ = _; unfold decP
      rw [if_neg (fun h => by rw [decide_eq_true h.1, h.2] at hv; cases hv)]
    clear hv
    go_wp2
    go_ret2
    exact decRet_none HN.out rfl (Below.refl _ _)
  · rw [Bool.and_eq_true, decide_eq_true_eq] at hv
    have HD : Hid (decP xs = lim (some (joinNl xs))) := by show _ = _; unfold decP; rw [if_pos hv]
    have hjl := joinNl_len xs (fun x hx => (plOk_iff.1 (List.all_eq_true.1 hv.2 x hx)).2)
    have hlen := HR.out.1
    have HJ : Hid ((Lib.join xs (⟨#[10]⟩ : ByteArray).data.toList).length ≤ 140737488355328) := by
      show _ ≤ _; rw [show (⟨#[10]⟩ : ByteArray).data.toList = [10] from rfl, join_nl]; omega
    have HJE : Hid (Lib.join xs (⟨#[10]⟩ : ByteArray).data.toList = joinNl xs) := join_nl xs
    have hjz := str_size (joinNl xs)
    have hjb : (joinNl xs).length ≤ 100000000000 := by omega
    clear hv hjl hlen
    go_wp2_with fail
    refine (joinC_any a n c xs ⟨#[10]⟩ _ HR.out hnc (by omega) HJ.out).mono ?_
    rintro e w2 ⟨rfl, hb2⟩
    rw [HJE.out]
    by_cases h300 : (joinNl xs).length ≤ 300
    · have HN : Hid (decP xs = some (joinNl xs)) := by show _ = _; rw [HD.out, lim_in h300]
      have h3 : ¬ 300 < (str (joinNl xs)).size := by omega
      clear h300 hjb hjz
      generalize joinNl xs = J at *
      go_wp2
      go_ret2
      exact decRet_some HN.out rfl hb2
    · have HN : Hid (decP xs = none) := by show _ = _; rw [HD.out, lim_out (by omega)]
      have h3 : 300 < (str (joinNl xs)).size := by omega
      clear h300 hjb hjz
      generalize joinNl xs = J at *
      go_wp2
      go_ret2
      exact decRet_none HN.out rfl hb2
theorem decW_other {b : List (List UInt8)} {k : Int} (h0 : k ≠ 0) (h1 : k ≠ 1) (h2 : k ≠ 2) : decW b k = none := by unfold decW; rw [if_neg h0, if_neg h1, if_neg h2]
set_option maxRecDepth 100000 in
set_option maxHeartbeats 1000000 in
theorem decodeBytes_any (a : Option Addr) (n c : Nat) (xs : List (List UInt8)) (k : Int) (w : World) (hr : RdL w a n xs) (hnc : n ≤ c) (hn : n ≤ 1073741824) (hx : ∀ x ∈ xs, x.length ≤ 1073741000) :
    Calls Tryz.prog 51 #[.slice a n c, .int .i64 k] w (DecRet (decW xs k) w) := by
  by_cases h0 : k = 0
  · subst h0
    have HW : Hid (decW xs 0 = decP xs) := rfl
    rw [HW.out]
    go_enter Tryz.func51, Tryz.ntmps51
    go_wp2_with fail
    refine (decodePlain_any a n c xs _ hr hnc hn hx).mono ?_
    rintro e w1 ⟨rfl, hb⟩
    go_wp2
    go_ret2
    exact ⟨rfl, hb⟩
  by_cases h1 : k = 1
  · subst h1
    have HW : Hid (decW xs 1 = decQ xs) := rfl
    rw [HW.out]
    go_enter Tryz.func51, Tryz.ntmps51
    go_wp2_with fail
    refine (decodeQuoted_any a n c xs _ hr hn hx).mono ?_
    rintro e w1 ⟨rfl, hb⟩
    go_wp2
    go_ret2
    exact ⟨rfl, hb⟩
  by_cases h2 : k = 2
  · subst h2
    have HW : Hid (decW xs 2 = decB xs) := rfl
    rw [HW.out]
    go_enter Tryz.func51, Tryz.ntmps51
    go_wp2_with fail
    refine (decodeBase_any a n c xs _ hr hn hx).mono ?_
    rintro e w1 ⟨rfl, hb⟩
    go_wp2
    go_ret2
    exact ⟨rfl, hb⟩
  · have HN := Lib.hid (decW_other (b := xs) h0 h1 h2)
    have e0 : (k == 0) = false := by rw [beq_eq_false_iff_ne]; exact h0
    have e1 : (k == 1) = false := by rw [beq_eq_false_iff_ne]; exact h1
    have e2 : (k == 2) = false := by rw [beq_eq_false_iff_ne]; exact h2
    clear h0 h1 h2
    go_enter Tryz.func51, Tryz.ntmps51
    go_wp2
    go_ret2
    exact decRet_none HN.out rfl (Below.refl _ _)
end Go.Proofs.YtcdmjckkencgoaaGreatDoor
end

section
namespace Go.Proofs.YtcdmjckkencgoaaGreatDoor
open Go.RowKit

theorem joinNl_snoc : ∀ (xs : List (List UInt8)) (x : List UInt8), joinNl (xs ++ [x]) = if xs = [] then x else joinNl xs ++ 10 :: x
  | [], x => by simp [joinNl]
  | [y], x => by simp [joinNl]
  | y :: z :: xs, x => by
    show y ++ 10 :: joinNl ((z :: xs) ++ [x]) = _
    rw [joinNl_snoc (z :: xs) x, if_neg (by simp), if_neg (by simp)]
    show y ++ 10 :: (joinNl (z :: xs) ++ 10 :: x) = (y ++ 10 :: joinNl (z :: xs)) ++ 10 :: x
    simp
theorem joinNl_take (xs : List (List UInt8)) (k : Nat) (h : k < xs.length) : joinNl (xs.take (k + 1)) = if k = 0 then xs[k] else joinNl (xs.take k) ++ 10 :: xs[k] := by
  rw [List.take_succ_eq_append_getElem h, joinNl_snoc]
  by_cases hk : k = 0
  · rw [if_pos hk, if_pos (by rw [hk]; rfl)]
  · rw [if_neg hk, if_neg (by intro e; have := congrArg List.length e; rw [List.length_take, List.length_nil] at this; omega)]
theorem joinNl_mono (xs : List (List UInt8)) : ∀ (k : Nat), k ≤ xs.length → (joinNl (xs.take k)).length ≤ (joinNl xs).length := by
  intro k hk
  have key : ∀ m, k + m ≤ xs.length → (joinNl (xs.take k)).length ≤ (joinNl (xs.take (k + m))).length := by
    intro m
    induction m with
    | zero => intro _; exact Nat.le_refl _
    | succ m ih =>
      intro h
      have h1 := ih (by omega)
      rw [← Nat.add_assoc, joinNl_take xs (k + m) (by omega)]
      by_cases h0 : k + m = 0
      · obtain ⟨rfl, rfl⟩ : k = 0 ∧ m = 0 := by omega
        simp [joinNl]
      · rw [if_neg h0, List.length_append, List.length_cons]; omega
  have := key (xs.length - k) (by omega)
  rw [show k + (xs.length - k) = xs.length by omega, List.take_length] at this
  exact this
set_option maxRecDepth 100000 in
set_option maxHeartbeats 2000000 in
theorem decodeBytesS_any (a : Option Addr) (n c : Nat) (xs : List (List UInt8)) (q : Int) (w : World) (hr : RdL w a n xs) (hn : n ≤ 1073741824) (hx : ∀ x ∈ xs, x.length ≤ 1073741000) :
    Calls Tryz.prog 48 #[.slice a n c, .int .i64 q] w (DecRet (decW xs q) w) := by
  by_cases h1 : q = 1
  · subst h1
    have HW : Hid (decW xs 1 = decQ xs) := rfl
    rw [HW.out]
    go_enter Tryz.func48, Tryz.ntmps48
    go_wp2_with fail
    refine (decodeQuotedS_any a n c xs _ hr hn hx).mono ?_
    rintro e w1 ⟨rfl, hb⟩
    go_wp2
    go_ret2
    exact ⟨rfl, hb⟩
  by_cases h2 : q = 2
  · subst h2
    have HW : Hid (decW xs 2 = decB xs) := rfl
    rw [HW.out]
    go_enter Tryz.func48, Tryz.ntmps48
    go_wp2_with fail
    refine (decodeBaseS_any a n c xs _ hr hn hx).mono ?_
    rintro e w1 ⟨rfl, hb⟩
    go_wp2
    go_ret2
    exact ⟨rfl, hb⟩
  have HDD : Hid (decW xs q = if q = 0 then decP xs else none) := by
    show _ = _; unfold decW
    by_cases h0 : q = 0
    · rw [if_pos h0, if_pos h0]
    · rw [if_neg h0, if_neg h0, if_neg h1, if_neg h2]
  have HBADL : Hid (xs.all plOk = false → decW xs q = none) := fun h => by
    rw [HDD.out]
    split
    · unfold decP; rw [if_neg (fun c => by rw [h] at c; cases c.2)]
    · rfl
  have HLONG : Hid (300 < (joinNl xs).length → decW xs q = none) := fun h => by
    rw [HDD.out]
    split
    · unfold decP
      split
      · exact lim_out h
      · rfl
    · rfl
  have e1 : (q == 1) = false := by rw [beq_eq_false_iff_ne]; exact h1
  have e2 : (q == 2) = false := by rw [beq_eq_false_iff_ne]; exact h2
  have HX := Lib.hid hx
  have HLEN := Lib.hid hr.1
  have HR := Lib.hid hr.2
  clear hx hr h1 h2
  go_enter Tryz.func48, Tryz.ntmps48
  go_wp2_with fail
  go_loop [6, 7] (fun o i => ∃ (k : Nat) (t : List UInt8), k ≤ n ∧ i = .int .i64 k ∧ o = .string (str t) ∧ t = joinNl (xs.take k) ∧ t.length ≤ 300 ∧ ∀ j, (h : j < xs.length) → j < k → plOk xs[j] = true) (fun _ i => n - (intOf i).toNat)
  case atStart => exact ⟨0, [], by omega, rfl, rfl, rfl, by simp, fun j _ h => by omega⟩
  case round =>
    obtain ⟨k, t, hk, rfl, rfl, ht, htl, hall⟩ := hrel
    have HT := Lib.hid ht
    have HA := Lib.hid hall
    have htz := str_size t
    clear ht hall
    by_cases hlt : k < n
    · have hkx : k < xs.length := by rw [HLEN.out]; exact hlt
      obtain ⟨b, off, rfl, hbl, hcell⟩ := HR.out.resolve_left (by omega)
      have c0 : w.cell? ⟨b, off + k, none⟩ = some (.string (str xs[k])) := hcell k hkx
      have hzx : xs[k].length ≤ 1073741000 := HX.out _ (List.getElem_mem hkx)
      have hkz := str_size xs[k]
      have HTV : Hid (∀ u, Calls Tryz.prog 72 #[.string (str xs[k])] u fun e w' => e = .returned (.bool (isText xs[k])) ∧ u = w') := fun u => by
        have := textValidS_any (str xs[k]) u (by rw [str_size]; unfold maxLen; omega)
        rw [str_list] at this; exact this
      have HBAD : Hid (plOk xs[k] = false → decW xs q = none) := fun h => HBADL.out (by rw [List.all_eq_false]; exact ⟨_, List.getElem_mem hkx, by simp [h]⟩)
      have HJN := Lib.hid (joinNl_take xs k hkx)
      have HMO := Lib.hid (joinNl_mono xs (k + 1) (by omega))
      obtain ⟨t2, ht2⟩ : ∃ t2, t2 = joinNl (xs.take (k + 1)) := ⟨_, rfl⟩
      have HT2 := Lib.hid ht2
      clear hcell ht2
      by_cases hk0 : k = 0
      · have hnil : t = [] := by rw [HT.out, hk0]; rfl
        have HS2 : Hid (str t ++ str xs[k] = str t2) := by show _ = _; rw [HT2.out, HJN.out, if_pos hk0, str_app, hnil]; rfl
        clear hnil
        have hap : (str t ++ str xs[k]).size = t.length + xs[k].length := by rw [ByteArray.size_append, htz, hkz]
        have HSZ : Hid (t2.length = t.length + xs[k].length) := by have := congrArg ByteArray.size HS2.out; rw [hap, str_size] at this; exact this.symm
        have hki : ¬ ((0 : Int) < (k : Int)) := by omega
        clear hk0
        cases htx : isText xs[k]
        · have HE := Lib.hid (HBAD.out (by unfold plOk; rw [htx]; rfl))
          rw [htx] at HTV
          have hzx' := hzx
          clear htx
          generalize xs[k].length = zl at *
          generalize str xs[k] = x at *
          go_wp2_with fail
          refine (HTV.out _).mono ?_
          rintro e w2 ⟨rfl, rfl⟩
          go_wp2
          go_ret2
          exact decRet_none HE.out rfl (Below.refl _ _)
        · by_cases h40 : 40 < xs[k].length
          · have HE := Lib.hid (HBAD.out (by unfold plOk; rw [decide_eq_false (by omega)]; simp))
            rw [htx] at HTV
            clear htx
            generalize xs[k].length = zl at *
            generalize str xs[k] = x at *
            go_wp2_with fail
            refine (HTV.out _).mono ?_
            rintro e w2 ⟨rfl, rfl⟩
            go_wp2
            go_ret2
            exact decRet_none HE.out rfl (Below.refl _ _)
          · have HK : Hid (plOk xs[k] = true) := plOk_iff.2 ⟨htx, by omega⟩
            rw [htx] at HTV
            clear htx
            by_cases h300 : 300 < t2.length
            · have HE := Lib.hid (HLONG.out (by have := HMO.out; rw [← HT2.out] at this; omega))
              have h3 := HSZ.out
              have h3' : 300 < t.length + xs[k].length := by omega
              clear h3 h300
              generalize xs[k].length = zl at *
              generalize str xs[k] = x at *
              go_wp2_with fail
              refine (HTV.out _).mono ?_
              rintro e w2 ⟨rfl, rfl⟩
              go_wp2
              go_ret2
              exact decRet_none HE.out rfl (Below.refl _ _)
            · have h3 := HSZ.out
              have h3' : ¬ 300 < t.length + xs[k].length := by omega
              clear h3
              have HKA : Hid (∀ j, (h : j < xs.length) → j < k + 1 → plOk xs[j] = true) := fun j hj hjk => by
                by_cases e : j = k
                · subst e; exact HK.out
                · exact HA.out j hj (by omega)
              generalize xs[k].length = zl at *
              generalize str xs[k] = x at *
              go_wp2_with fail
              refine (HTV.out _).mono ?_
              rintro e w2 ⟨rfl, rfl⟩
              go_wp2
              go_round
              case rel => exact ⟨k + 1, t2, by omega, by go_num, by rw [HS2.out], HT2.out, by omega, HKA.out⟩
              case measure => simp [intOf]; omega
      · have HS2 : Hid (str t ++ (ByteArray.mk #[10]) ++ str xs[k] = str t2) := by show _ = _; rw [HT2.out, HJN.out, if_neg hk0, show (ByteArray.mk #[10]) = str [10] from rfl, str_app, str_app, HT.out]; simp
        have hap1 : (str t ++ (ByteArray.mk #[10])).size = t.length + 1 := by rw [ByteArray.size_append, htz]; rfl
        have hap : (str t ++ (ByteArray.mk #[10]) ++ str xs[k]).size = t.length + 1 + xs[k].length := by rw [ByteArray.size_append, hap1, hkz]
        have HSZ : Hid (t2.length = t.length + 1 + xs[k].length) := by have := congrArg ByteArray.size HS2.out; rw [hap, str_size] at this; exact this.symm
        have hki : ((0 : Int) < (k : Int)) := by omega
        clear hk0
        cases htx : isText xs[k]
        · have HE := Lib.hid (HBAD.out (by unfold plOk; rw [htx]; rfl))
          rw [htx] at HTV
          have hzx' := hzx
          clear htx
          generalize xs[k].length = zl at *
          generalize str xs[k] = x at *
          go_wp2_with fail
          refine (HTV.out _).mono ?_
          rintro e w2 ⟨rfl, rfl⟩
          go_wp2
          go_ret2
          exact decRet_none HE.out rfl (Below.refl _ _)
        · by_cases h40 : 40 < xs[k].length
          · have HE := Lib.hid (HBAD.out (by unfold plOk; rw [decide_eq_false (by omega)]; simp))
            rw [htx] at HTV
            clear htx
            generalize xs[k].length = zl at *
            generalize str xs[k] = x at *
            go_wp2_with fail
            refine (HTV.out _).mono ?_
            rintro e w2 ⟨rfl, rfl⟩
            go_wp2
            go_ret2
            exact decRet_none HE.out rfl (Below.refl _ _)
          · have HK : Hid (plOk xs[k] = true) := plOk_iff.2 ⟨htx, by omega⟩
            rw [htx] at HTV
            clear htx
            by_cases h300 : 300 < t2.length
            · have HE := Lib.hid (HLONG.out (by have := HMO.out; rw [← HT2.out] at this; omega))
              have h3 := HSZ.out
              have h3' : 300 < t.length + 1 + xs[k].length := by omega
              clear h3 h300
              generalize xs[k].length = zl at *
              generalize str xs[k] = x at *
              go_wp2_with fail
              refine (HTV.out _).mono ?_
              rintro e w2 ⟨rfl, rfl⟩
              go_wp2
              go_ret2
              exact decRet_none HE.out rfl (Below.refl _ _)
            · have h3 := HSZ.out
              have h3' : ¬ 300 < t.length + 1 + xs[k].length := by omega
              clear h3
              have HKA : Hid (∀ j, (h : j < xs.length) → j < k + 1 → plOk xs[j] = true) := fun j hj hjk => by
                by_cases e : j = k
                · subst e; exact HK.out
                · exact HA.out j hj (by omega)
              generalize xs[k].length = zl at *
              generalize str xs[k] = x at *
              go_wp2_with fail
              refine (HTV.out _).mono ?_
              rintro e w2 ⟨rfl, rfl⟩
              go_wp2
              go_round
              case rel => exact ⟨k + 1, t2, by omega, by go_num, by rw [HS2.out], HT2.out, by omega, HKA.out⟩
              case measure => simp [intOf]; omega
    · have HALL : Hid (xs.all plOk = true) := by
        show _ = _
        rw [List.all_eq_true]; intro x hx
        obtain ⟨j, hj, rfl⟩ := List.getElem_of_mem hx
        exact HA.out j hj (by rw [HLEN.out] at hj; omega)
      have HTJ : Hid (t = joinNl xs) := by show _ = _; rw [HT.out, List.take_of_length_le (by rw [HLEN.out]; omega)]
      by_cases h0 : q = 0
      · have e0 : (q == 0) = true := by rw [beq_iff_eq]; exact h0
        have e0' : (q != 0) = false := by rw [bne, e0]; rfl
        by_cases hn0 : n = 0
        · have en : ((n : Int) == 0) = true := by rw [beq_iff_eq]; omega
          have HN : Hid (decW xs q = none) := by
            show _ = _; rw [HDD.out, if_pos h0]; unfold decP
            rw [if_neg (fun c => c.1 (List.length_eq_zero_iff.1 (by rw [HLEN.out]; exact hn0)))]
          clear h0 hn0
          go_wp2
          go_ret2
          exact decRet_none HN.out rfl (Below.refl _ _)
        · have en : ((n : Int) == 0) = false := by rw [beq_eq_false_iff_ne]; omega
          have HN : Hid (decW xs q = some t) := by
            show _ = _; rw [HDD.out, if_pos h0]; unfold decP
            rw [if_pos ⟨by intro e; apply hn0; rw [← HLEN.out, e]; rfl, HALL.out⟩, ← HTJ.out, lim_in htl]
          clear h0 hn0
          go_wp2
          go_ret2
          exact decRet_some HN.out rfl (Below.refl _ _)
      · have e0' : (q != 0) = true := by rw [bne_iff_ne]; exact h0
        have HN : Hid (decW xs q = none) := by show _ = _; rw [HDD.out, if_neg h0]
        clear h0
        go_wp2
        go_ret2
        exact decRet_none HN.out rfl (Below.refl _ _)
end Go.Proofs.YtcdmjckkencgoaaGreatDoor
end

section
namespace Go.Proofs.YtcdmjckkencgoaaGreatDoor
open Go.RowKit

/-- The bytes of the body of a part, where there are any. -/
def bytesT (p : Prt) : Option (List UInt8) := if isPrt p = true ∧ p.kids = [] then decW p.body (wayI p.fields) else none
theorem decW_neg (b : List (List UInt8)) : decW b (-1) = none := by unfold decW; rw [if_neg (by decide), if_neg (by decide), if_neg (by decide)]
set_option maxRecDepth 100000 in
set_option maxHeartbeats 2000000 in
theorem bodyBytes_any (f : Nat) (v : Value) (p : Prt) (w : World) (tab : Tab w) (ct : CTab w) (hr : RdT w f v p) :
    Calls Tryz.prog 27 #[v] w (DecRet (bytesT p) w) := by
  have HV : Hid (∀ u, Below w.heap.size w u → Calls Tryz.prog 43 #[v] u fun e w' => e = .returned (.bool (isPrt p)) ∧ Below u.heap.size u w') := fun u h => partValid_any f v p u (tab.below h) (hr.below h f)
  obtain ⟨f', a1, c1, a2, c2, a3, c3, hff, rfl, ⟨hf, _⟩, ⟨hbd, hbc, _⟩, _, hpf, _⟩ := hr.open
  have HC : Hid (∀ u, Below w.heap.size w u → Calls Tryz.prog 50 #[.slice a1 p.fields.length c1] u fun e w' => ∃ r : Int, e = .returned (.tuple #[.int .i64 r, .bool (decide (wayI p.fields ≠ -1))]) ∧ (wayI p.fields ≠ -1 → r = wayI p.fields) ∧ Below u.heap.size u w') := fun u h => codeOfFields_any a1 p.fields.length c1 p.fields u (ct.below h) (hf.below h) hpf.1 hpf.2.1
  have HD : Hid (∀ u, Below w.heap.size w u → Calls Tryz.prog 51 #[.slice a2 p.body.length c2, .int .i64 (wayI p.fields)] u (DecRet (decW p.body (wayI p.fields)) u)) := fun u h => decodeBytes_any a2 p.body.length c2 p.body (wayI p.fields) u (hbd.below h) hbc (by have := hpf.2.2.1; omega) (fun x hx => by have := hpf.2.2.2.1 x hx; omega)
  have hA : Below w.heap.size w (w.alloc (.cells #[.slice a1 p.fields.length c1, .slice a2 p.body.length c2, .slice a3 p.kids.length c3] 33)) := (Below.refl _ _).alloc (Nat.le_refl _) _
  have HX := Lib.hid (KK3.new w (.slice a1 p.fields.length c1) (.slice a2 p.body.length c2) (.slice a3 p.kids.length c3) 33)
  have HB : Hid (bytesT p = if isPrt p = true ∧ p.kids.length = 0 then decW p.body (wayI p.fields) else none) := by
    show _ = _
    unfold bytesT
    by_cases h : p.kids = []
    · rw [h]; simp
    · rw [if_neg (fun c => h c.2), if_neg (fun c => h (List.length_eq_zero_iff.1 c.2))]
  have HN : Hid (wayI p.fields = -1 → decW p.body (wayI p.fields) = none) := fun h => by rw [h]; exact decW_neg _
  clear hr hff hf hbd hbc hpf tab ct
  generalize bytesT p = BT at *
  generalize isPrt p = q at *
  generalize hD : decW p.body (wayI p.fields) = D at *
  clear hD
  generalize wayI p.fields = R at *
  generalize p.fields.length = n1 at *
  generalize p.body.length = n2 at *
  generalize p.kids.length = n3 at *
  by_cases hR : R = -1
  · have HD0 := Lib.hid (HN.out hR)
    have HB0 : Hid (BT = none) := by show _ = _; rw [HB.out, HD0.out]; split <;> rfl
    have hd : decide (R ≠ -1) = false := by simp [hR]
    rw [hd] at HC
    clear HB HN HD HD0 hR hd HV
    go_enter Tryz.func27, Tryz.ntmps27
    go_wp2_with fail
    refine (HC.out _ hA).mono ?_
    rintro e w1 ⟨r, rfl, _, hb1⟩
    go_wp2
    go_ret2
    exact decRet_none HB0.out rfl (nx hA hb1)
  · have hd : decide (R ≠ -1) = true := by simp [hR]
    have HC1 : Hid (∀ u, Below w.heap.size w u → Calls Tryz.prog 50 #[.slice a1 n1 c1] u fun e w' => e = .returned (.tuple #[.int .i64 R, .bool true]) ∧ Below u.heap.size u w') := fun u h => (HC.out u h).mono fun e w' ⟨r, he, hr, hb⟩ => ⟨by rw [he, hd, hr hR], hb⟩
    clear HC HN hd hR
    cases q
    · have HB0 : Hid (BT = none) := by show _ = _; rw [HB.out, if_neg (fun c => by cases c.1)]
      clear HB HD
      go_enter Tryz.func27, Tryz.ntmps27
      go_wp2_with fail
      refine (HC1.out _ hA).mono ?_
      rintro e w1 ⟨rfl, hb1⟩
      have hb01 := nx hA hb1
      obtain ⟨y0, y1, y2⟩ := HX.out.below hb1
      go_wp2_with fail
      refine (HV.out _ hb01).mono ?_
      rintro e w2 ⟨rfl, hb2⟩
      have hb02 := nx hb01 hb2
      clear y0 y1 y2
      obtain ⟨y0, y1, y2⟩ := HX.out.below (nx hb1 hb2)
      go_wp2
      go_ret2
      exact decRet_none HB0.out rfl hb02
    · by_cases h3 : n3 = 0
      · have HB0 : Hid (BT = D) := by show _ = _; rw [HB.out, if_pos ⟨rfl, h3⟩]
        have e0 : decide (0 < n3) = false := decide_eq_false (by omega)
        rw [HB0.out]
        clear HB h3
        go_enter Tryz.func27, Tryz.ntmps27
        go_wp2_with fail
        refine (HC1.out _ hA).mono ?_
        rintro e w1 ⟨rfl, hb1⟩
        have hb01 := nx hA hb1
        obtain ⟨y0, y1, y2⟩ := HX.out.below hb1
        go_wp2_with fail
        refine (HV.out _ hb01).mono ?_
        rintro e w2 ⟨rfl, hb2⟩
        have hb02 := nx hb01 hb2
        clear y0 y1 y2
        obtain ⟨y0, y1, y2⟩ := HX.out.below (nx hb1 hb2)
        go_wp2_with fail
        refine (HD.out _ hb02).mono ?_
        rintro e w3 ⟨rfl, hb3⟩
        go_wp2
        go_ret2
        exact ⟨rfl, nx hb02 hb3⟩
      · have HB0 : Hid (BT = none) := by show _ = _; rw [HB.out, if_neg (fun c => h3 c.2)]
        have e0 : decide (0 < n3) = true := decide_eq_true (by omega)
        clear HB HD h3
        go_enter Tryz.func27, Tryz.ntmps27
        go_wp2_with fail
        refine (HC1.out _ hA).mono ?_
        rintro e w1 ⟨rfl, hb1⟩
        have hb01 := nx hA hb1
        obtain ⟨y0, y1, y2⟩ := HX.out.below hb1
        go_wp2_with fail
        refine (HV.out _ hb01).mono ?_
        rintro e w2 ⟨rfl, hb2⟩
        have hb02 := nx hb01 hb2
        clear y0 y1 y2
        obtain ⟨y0, y1, y2⟩ := HX.out.below (nx hb1 hb2)
        go_wp2
        go_ret2
        exact decRet_none HB0.out rfl hb02
set_option maxRecDepth 100000 in
set_option maxHeartbeats 2000000 in
theorem bodyBytesS_any (f : Nat) (v : Value) (p : Prt) (w : World) (hr : RdT w f v p) :
    Calls Tryz.prog 26 #[v] w (DecRet (bytesT p) w) := by
  have HV : Hid (∀ u, Below w.heap.size w u → Calls Tryz.prog 30 #[v] u fun e w' => e = .returned (.bool (isPrt p)) ∧ Below u.heap.size u w') := fun u h => partValidS_any f v p u (hr.below h f)
  obtain ⟨f', a1, c1, a2, c2, a3, c3, hff, rfl, ⟨hf, _⟩, ⟨hbd, hbc, _⟩, _, hpf, _⟩ := hr.open
  have HC : Hid (∀ u, Below w.heap.size w u → Calls Tryz.prog 49 #[.slice a1 p.fields.length c1] u fun e w' => e = .returned (.int .i64 (wayI p.fields)) ∧ Below u.heap.size u w') := fun u h => l8Way_any a1 p.fields.length c1 p.fields u (hf.below h) hpf.1 hpf.2.1
  have HD : Hid (∀ u, Below w.heap.size w u → Calls Tryz.prog 48 #[.slice a2 p.body.length c2, .int .i64 (wayI p.fields)] u (DecRet (decW p.body (wayI p.fields)) u)) := fun u h => decodeBytesS_any a2 p.body.length c2 p.body (wayI p.fields) u (hbd.below h) (by have := hpf.2.2.1; omega) (fun x hx => by have := hpf.2.2.2.1 x hx; omega)
  have hA : Below w.heap.size w (w.alloc (.cells #[.slice a1 p.fields.length c1, .slice a2 p.body.length c2, .slice a3 p.kids.length c3] 33)) := (Below.refl _ _).alloc (Nat.le_refl _) _
  have HX := Lib.hid (KK3.new w (.slice a1 p.fields.length c1) (.slice a2 p.body.length c2) (.slice a3 p.kids.length c3) 33)
  have HB : Hid (bytesT p = if isPrt p = true ∧ p.kids.length = 0 then decW p.body (wayI p.fields) else none) := by
    show _ = _
    unfold bytesT
    by_cases h : p.kids = []
    · rw [h]; simp
    · rw [if_neg (fun c => h c.2), if_neg (fun c => h (List.length_eq_zero_iff.1 c.2))]
  clear hr hff hf hbd hbc hpf
  generalize bytesT p = BT at *
  generalize isPrt p = q at *
  unfold DecRet at HD
  generalize hD : decW p.body (wayI p.fields) = D at *
  clear hD
  generalize wayI p.fields = R at *
  generalize p.fields.length = n1 at *
  generalize p.body.length = n2 at *
  generalize p.kids.length = n3 at *
  cases q
  · have HB0 : Hid (BT = none) := by show _ = _; rw [HB.out, if_neg (fun c => by cases c.1)]
    clear HB HD HC
    go_enter Tryz.func26, Tryz.ntmps26
    go_wp2_with fail
    refine (HV.out _ hA).mono ?_
    rintro e w1 ⟨rfl, hb1⟩
    have hb01 := nx hA hb1
    obtain ⟨y0, y1, y2⟩ := HX.out.below hb1
    go_wp2
    go_ret2
    exact decRet_none HB0.out rfl hb01
  · by_cases h3 : n3 = 0
    · have HB0 : Hid (BT = D) := by show _ = _; rw [HB.out, if_pos ⟨rfl, h3⟩]
      have e0 : decide (0 < n3) = false := decide_eq_false (by omega)
      rw [HB0.out]
      unfold DecRet
      generalize str (D.getD []) = DS at *
      generalize D.isSome = ds at *
      clear HB h3 HB0
      go_enter Tryz.func26, Tryz.ntmps26
      go_wp2_with fail
      refine (HV.out _ hA).mono ?_
      rintro e w1 ⟨rfl, hb1⟩
      have hb01 := nx hA hb1
      obtain ⟨y0, y1, y2⟩ := HX.out.below hb1
      have z0 : ∀ y : BelowT w1, y.val.cell? ⟨w.heap.size, 0, none⟩ = some (.slice a1 n1 c1) := fun y => ((HX.out.below hb1).below y.below).1
      have z1 : ∀ y : BelowT w1, y.val.cell? ⟨w.heap.size, 1, none⟩ = some (.slice a2 n2 c2) := fun y => ((HX.out.below hb1).below y.below).2.1
      have z2 : ∀ y : BelowT w1, y.val.cell? ⟨w.heap.size, 2, none⟩ = some (.slice a3 n3 c3) := fun y => ((HX.out.below hb1).below y.below).2.2
      go_wp2_with fail
      refine wp_region_quietB (W := w1) (by kernel_rfl) (by kernel_rfl) (Below.refl _ _) ?_
      repeat (go_big_quiet_step (first
        | (go_at_call 49; exact calls_belowT (HC.out _ (nx hb01 (BelowT.below _))))
        | (go_at_call 48; exact calls_belowT (HD.out _ (nx hb01 (BelowT.below _))))))
      refine wpQuiet_nil ?_
      intro wz hwz
      obtain ⟨x9, rfl⟩ := hwz
      have hbx := nx hb01 x9.below
      clear z0 z1 z2 y0 y1 y2
      generalize x9.val = w9 at *
      go_wp2
      go_ret2
      exact ⟨rfl, hbx⟩
    · have HB0 : Hid (BT = none) := by show _ = _; rw [HB.out, if_neg (fun c => h3 c.2)]
      have e0 : decide (0 < n3) = true := decide_eq_true (by omega)
      clear HB HD HC h3
      go_enter Tryz.func26, Tryz.ntmps26
      go_wp2_with fail
      refine (HV.out _ hA).mono ?_
      rintro e w1 ⟨rfl, hb1⟩
      have hb01 := nx hA hb1
      obtain ⟨y0, y1, y2⟩ := HX.out.below hb1
      go_wp2
      go_ret2
      exact decRet_none HB0.out rfl hb01
end Go.Proofs.YtcdmjckkencgoaaGreatDoor
end

section
namespace Go.Proofs.YtcdmjckkencgoaaGreatDoor
open Go.ChangeShapes Go.WideShapes Go.ChangeAt Go.RowKit
open Go.ChangeMaps (open_string shut_string)

theorem kG : Tryz.prog.globalNamed "loop.example/mailwire/impl.codeNames" = some 0 := by kernel_rfl
theorem kGType : (Tryz.prog.globals[0]?).map (·.type) = some 93 := by kernel_rfl
theorem kCellsE : Tryz.prog.cellsOf 9 = 1 := by kernel_rfl
theorem kCellsT : Tryz.prog.cellsOf 93 = 3 := by kernel_rfl
def strOfK : Value → ByteArray
  | .string s => s
  | _ => ⟨#[]⟩
def kDatum {H : Type} (ss : List ByteArray) : DataW H := .agg (ss.map fun s => .lit (.string s.data.toList))
def kStrs : List ByteArray := [way0, way1, way2]
def kVals : List Value := [.string way0, .string way1, .string way2]
theorem ktab_inv {H : Type} {enc : TypeId × Value → H} {w : World} {base fuel : Nat} {sp : Nat → Bool} {held : Bool} {cs : List Value} {x : DataW H × List MemPlace}
    (h : DataW.trod enc Tryz.prog w base sp held fuel 93 cs = some x) : ∃ ss : List ByteArray, ss.length = 3 ∧ cs = ss.map Value.string ∧ x = (kDatum ss, []) := by
  obtain ⟨xs, m, _, rfl, hl, hn, hf⟩ := DataW.trod_array Tryz.underlying93 h
  rw [kCellsT] at hl
  have key : ∀ i, i < 3 → ∃ s : ByteArray, cs[i]? = some (.string s) ∧ xs[i]? = some (.lit (.string s.data.toList), []) := by
    intro i hi
    have h1 := hf i hi
    rw [List.getElem?_eq_getElem (by omega)] at h1
    obtain ⟨s, hc, hx, _⟩ := DataW.trod_string Tryz.underlying9 h1
    refine ⟨s, ?_, ?_⟩
    · have := congrArg (·[0]?) hc
      simp only [kCellsE] at this
      simpa [List.getElem?_take, List.getElem?_drop] using this
    · rw [List.getElem?_eq_getElem (by omega), hx]
  refine ⟨cs.map strOfK, by simpa using hl, ?_, ?_⟩
  · apply List.ext_getElem?
    intro i
    by_cases hi : i < 3
    · obtain ⟨s, hc, _⟩ := key i hi
      simp [hc, strOfK]
    · rw [List.getElem?_eq_none (by omega), List.getElem?_eq_none (by simp; omega)]
  · have hxs : xs = cs.map fun v => ((.lit (.string (strOfK v).data.toList), []) : DataW H × List MemPlace) := by
      apply List.ext_getElem?
      intro i
      by_cases hi : i < 3
      · obtain ⟨s, hc, hx⟩ := key i hi
        rw [hx]; simp [hc, strOfK]
      · rw [List.getElem?_eq_none (by omega), List.getElem?_eq_none (by simp; omega)]
    rw [hxs]
    unfold kDatum
    simp [List.map_map, Function.comp_def]
theorem ktab_list {ss : List ByteArray} (hl : ss.length = 3) (hd : (kDatum ss : DataW Unit) = Rows.laid_loop_example_mailwire_impl_codeNames) : ss = kStrs := by
  match ss, hl with
  | [s0, s1, s2], _ =>
    unfold kDatum Rows.laid_loop_example_mailwire_impl_codeNames at hd
    simp only [List.map_cons, List.map_nil, DataW.agg.injEq, List.cons.injEq, DataW.lit.injEq, Lit.string.injEq, and_true] at hd
    obtain ⟨h0, h1, h2⟩ := hd
    unfold kStrs
    rw [bytes_ext (a := s0) (b := way0) (by rw [h0]; rfl), bytes_ext (a := s1) (b := way1) (by rw [h1]; rfl), bytes_ext (a := s2) (b := way2) (by rw [h2]; rfl)]
theorem ktab_reads {H : Type} (enc : TypeId × Value → H) (w : World) (base : Nat) (sp : Nat → Bool) (held : Bool) : DataW.trod enc Tryz.prog w base sp held 8 93 kVals = some (kDatum kStrs, []) := by kernel_rfl
theorem kVals_strs : kStrs.map Value.string = kVals := rfl
theorem kstrs_inj {a b : List ByteArray} (e : a.map Value.string = b.map Value.string) : a = b := by
  have e2 := congrArg (List.map strOfK) e
  simpa [List.map_map, Function.comp_def, strOfK] using e2
/-- From the rows' condition: the tables' cells. -/
theorem ktab_of_laid {W : World} (h : laidMet Tryz.prog [("unicode/utf8.acceptRanges", Rows.laid_unicode_utf8_acceptRanges), ("loop.example/mailwire/impl.atomMarks", Rows.laid_loop_example_mailwire_impl_atomMarks), ("loop.example/mailwire/impl.codeNames", Rows.laid_loop_example_mailwire_impl_codeNames), ("unicode/utf8.first", Rows.laid_unicode_utf8_first)] W) :
    (W.var? Tryz.prog "loop.example/mailwire/impl.codeNames" = some kVals.toArray ∧ W.var? Tryz.prog "loop.example/mailwire/impl.atomMarks" = some tabL.toArray) ∧ (CTab W ∧ Tab W) := by
  obtain ⟨ps, ⟨_, _, _, _, _, _, _, _, _, _, ⟨g5, t5, cs5, f5, p5, q5, hg5, ht5, hv5, hd5, ⟨g6, t6, cs6, f6, p6, q6, hg6, ht6, hv6, hd6, ⟨_, _, _, _, _, _, _, _, _, _, _, _⟩, _⟩, _⟩, _⟩, _⟩ := h
  obtain rfl := Option.some.inj (tG.symm.trans hg5)
  obtain rfl := Option.some.inj (tGType.symm.trans ht5)
  obtain rfl := Option.some.inj (kG.symm.trans hg6)
  obtain rfl := Option.some.inj (kGType.symm.trans ht6)
  obtain ⟨hl, hc, hx⟩ := tab_inv hd5
  have hcs := tab_list hl hc (congrArg Prod.fst hx).symm
  have hv : W.var? Tryz.prog "loop.example/mailwire/impl.atomMarks" = some tabL.toArray := by rw [hv5, ← hcs]
  obtain ⟨ss, hl2, hc2, hx2⟩ := ktab_inv hd6
  have hss := ktab_list hl2 (congrArg Prod.fst hx2).symm
  have hk : W.var? Tryz.prog "loop.example/mailwire/impl.codeNames" = some kVals.toArray := by
    have e : cs6.toList = kVals := by rw [hc2, hss, kVals_strs]
    rw [hv6, ← e]
  refine ⟨⟨hk, hv⟩, ⟨?_, ?_, ?_⟩, fun j v hj => ?_⟩
  · exact World.var?_cell kG hk 0
  · exact World.var?_cell kG hk 1
  · exact World.var?_cell kG hk 2
  · have := World.var?_cell tG hv j
    rw [Nat.zero_add, this]; simpa using hj
theorem CTab.lt {w : World} (h : CTab w) : 0 < w.heap.size := lt_of_cell h.1
theorem ktab_again {H : Type} {enc : TypeId × Value → H} {W W' : World} {gs : List (DataW H)} {ps : List MemPlace} (h : DataW.TrodVars enc Tryz.prog W (fun _ => true) ["loop.example/mailwire/impl.codeNames", "loop.example/mailwire/impl.atomMarks"] gs ps)
    (hv : W.var? Tryz.prog "loop.example/mailwire/impl.codeNames" = some kVals.toArray ∧ W.var? Tryz.prog "loop.example/mailwire/impl.atomMarks" = some tabL.toArray) (hb : Below W.heap.size W W') (ht : CTab W ∧ Tab W) :
    ∃ d : DataW H × DataW H, gs = [d.1, d.2] ∧ ∀ sp, DataW.TrodVars enc Tryz.prog W' sp ["loop.example/mailwire/impl.codeNames", "loop.example/mailwire/impl.atomMarks"] [d.1, d.2] (MemPlace.row ⟨0, 0, none⟩ kVals.toArray.size ++ [] ++ (MemPlace.row ⟨4, 0, none⟩ tabL.toArray.size ++ [])) := by
  obtain ⟨hvk, hvt⟩ := hv
  obtain ⟨g0, t0, cs0, f0, d0, p0, g1, t1, cs1, f1, d1, p1, rfl, hg0, ht0, hv0, hd0, hg1, ht1, hv1, hd1, rfl⟩ := trodVars_two h
  obtain rfl := Option.some.inj (kG.symm.trans hg0)
  obtain rfl := Option.some.inj (kGType.symm.trans ht0)
  obtain rfl := Option.some.inj (hvk.symm.trans hv0)
  obtain rfl := Option.some.inj (tG.symm.trans hg1)
  obtain rfl := Option.some.inj (tGType.symm.trans ht1)
  obtain rfl := Option.some.inj (hvt.symm.trans hv1)
  obtain ⟨ss, _, hc, hx⟩ := ktab_inv hd0
  have hss : ss = kStrs := kstrs_inj (by rw [kVals_strs, ← hc])
  have hdd : d0 = kDatum kStrs := by rw [← hss]; exact congrArg Prod.fst hx
  obtain ⟨_, _, hx1⟩ := tab_inv hd1
  have hdd1 : d1 = tabDatum tabL := congrArg Prod.fst hx1
  subst hdd hdd1
  exact ⟨(_, _), rfl, fun sp => ⟨_, _, _, 8, [], _, kG, kGType, var?_below hb kG ht.1.lt hvk, ktab_reads enc W' 0 sp true, trodVars_mk1 tG tGType (var?_below hb tG ht.2.lt hvt) (tab_reads enc W' 0 sp true), rfl⟩⟩
/-- A world for the witness: the settled one, the four tables holding what their initialisers lay. -/
noncomputable def laidWorldK (os : Os) : World :=
  { World.holding Tryz.prog os ⟨#[], #[], []⟩ with heap := layAt (layAt (layAt (layAt (World.holding Tryz.prog os ⟨#[], #[], []⟩).heap 0 kVals.toArray) 4 tabL.toArray) 2 (Go.Pinned.utf8FirstZ.map fun (n : Nat) => Value.int .u8 n).toArray) 3 (accL.map fun (n : Nat) => Value.int .u8 n).toArray }
end Go.Proofs.YtcdmjckkencgoaaGreatDoor
end
