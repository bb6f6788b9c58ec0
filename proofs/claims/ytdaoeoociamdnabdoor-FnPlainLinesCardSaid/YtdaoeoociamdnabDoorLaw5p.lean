/-
  The laws of chapter 5 on plain lines and on every way: each law's walk. For every input of the law: it returns true, and the input reads as it did. Conditions: none but the statement's own.
-/
import Derived.Test.YtdaoeoociamdnabDoorLaw0c
import Derived.Test.YtdaoeoociamdnabDoorDrawC
import Derived.Test.YtdaoeoociamdnabDoorDraw2
import Derived.Test.YtdaoeoociamdnabDoorLaw5n
namespace Go.Proofs.YtdaoeoociamdnabDoor
open Go.ChangeShapes Go.WideShapes Go.ChangeAt Go.RowKit
open Go.ChangeMaps (open_string shut_string)

theorem take_snoc_p (s : ByteArray) (k : Nat) (h : k < s.size) : s.data.toList.take (k + 1) = s.data.toList.take k ++ [s[k]] := by
  rw [List.take_succ_eq_append_getElem (by rw [size_list]; exact h)]; rfl
theorem take_all_p (s : ByteArray) : s.data.toList.take s.size = s.data.toList := List.take_of_length_le (by rw [size_list]; exact Nat.le_refl _)
set_option maxRecDepth 100000 in
set_option maxHeartbeats 4000000 in
theorem fnPlainLines_walk (a : Option Addr) (n c : Nat) (w : World) (hmx : ∃ m, w.cell? ⟨4, 0, none⟩ = some (.int .i64 m)) (hc : Code w a n) (hnc : n ≤ c) (hm : c ≤ maxLen) :
    Calls Tryd.prog 3 #[.slice a n c] w fun e w' => e = .returned (.bool true) ∧ Below w.heap.size w w' := by
  have hm' := hm
  unfold maxLen at hm'
  by_cases hn : 1048576 < n
  · have hd : decide ((1048576 : Int) < n) = true := by simp; omega
    go_enter Tryd.func3, Tryd.ntmps3
    go_wp2
    go_ret
    exact ⟨rfl, Below.refl _ _⟩
  have hd : decide ((1048576 : Int) < n) = false := by simp; omega
  go_enter Tryd.func3, Tryd.ntmps3
  go_wp2_with fail
  refine (drawEncodeBytes_any a n c w hc hnc hm).mono ?_
  rintro e w1 ⟨s, q, rfl, hs, hq0, hq3, hb1⟩
  obtain ⟨hxl, hxs⟩ := encW_small s.data.toList q
  have HXS := Lib.hid hxs
  have HM : Hid (((encW s.data.toList q).getD []).length ≤ maxLen) := by show _ ≤ _; unfold maxLen; omega
  clear hxs
  go_wp2_with fail
  refine (encodeBytes_any s q _ (mx_below hmx hb1) (by omega)).mono ?_
  rintro e w2 ⟨v2, rfl, ho2, hb2⟩
  obtain ⟨a2, c2, rfl, hr2, _⟩ := ho2.read
  have HR2 := Lib.hid hr2
  have HC2 := Lib.hid (ownL_cap ho2)
  have hB2 := nx hb1 hb2
  clear hr2 ho2 hb1 hb2
  go_wp2_with fail
  refine (encodeBytesS_any s q _ (by omega)).mono ?_
  rintro e w3 ⟨v3, rfl, ho3, hb3⟩
  obtain ⟨a3, c3, rfl, hr3, _⟩ := ho3.read
  have HR23 := Lib.hid (HR2.out.below hb3)
  have HR3 := Lib.hid hr3
  have hB3 := nx hB2 hb3
  clear hr3 ho3 hb3 HR2 hB2 hq0 hq3
  generalize hX : (encW s.data.toList q).getD [] = xs at *
  have HX := Lib.hid hX
  clear hX
  go_wp2_with fail
  refine (mwTexts_any _ _ _ _ _ _ xs xs _ HR23.out HR3.out HM.out HM.out).mono ?_
  rintro e w4 ⟨rfl, hb4⟩
  rw [decide_eq_true (rfl : xs = xs)]
  have HR24 := Lib.hid (HR23.out.below hb4)
  have HR34 := Lib.hid (HR3.out.below hb4)
  have hB4 := nx hB3 hb4
  clear hb4 hB3 HR23 HR3
  cases ho : encW s.data.toList q with
  | none =>
    clear ho
    go_wp2_with fail
    refine (mwTexts_any _ _ _ _ _ _ xs xs _ HR24.out HR34.out HM.out HM.out).mono ?_
    rintro e w5 ⟨rfl, hb5⟩
    rw [decide_eq_true (rfl : xs = xs)]
    go_wp2
    go_ret
    exact ⟨rfl, nx hB4 hb5⟩
  | some ys =>
    have HYX : Hid (xs = ys) := by show _ = _; rw [← HX.out, ho]; rfl
    by_cases hq : q = 0
    · subst hq
      have HE : Hid (xs = splitC 10 s.data.toList) := by
        show _ = _
        rw [HYX.out]
        have : encP s.data.toList = some ys := ho
        unfold encP at this
        split at this
        · injection this with h; exact h.symm
        · cases this
      have HSC := Lib.hid (split_count s.data.toList)
      rw [← HE.out] at HSC
      have HNB : Hid (nls s.data.toList ≤ s.size) := by have : nls s.data.toList ≤ s.data.toList.length := List.count_le_length; rw [size_list] at this; exact this
      have HSM : Hid (∀ x ∈ xs, x.length ≤ 1000) := fun x hx => Nat.le_trans (HXS.out x hx) (by omega)
      clear ho HX
      go_wp2_with fail
      go_loop [9, 10] (fun v i => ∃ k : Nat, k ≤ s.size ∧ i = .int .i64 k ∧ v = .int .i64 (nls (s.data.toList.take k) : Nat) ∧ nls (s.data.toList.take k) ≤ k) (fun _ i => s.size - (intOf i).toNat)
      case atStart => exact ⟨0, by omega, rfl, rfl, by simp [nls]⟩
      case round =>
        obtain ⟨k, hk, rfl, rfl, hnk⟩ := hrel
        by_cases hlt : k < s.size
        · have HT := Lib.hid (take_snoc_p s k hlt)
          by_cases h10 : s[k] = 10
          · have e10 := beq_t h10 (n := 10) rfl
            have HNX : Hid (nls (s.data.toList.take (k + 1)) = nls (s.data.toList.take k) + 1) := by show _ = _; rw [HT.out, h10]; simp [nls]
            clear h10
            generalize nls (s.data.toList.take k) = t at *
            go_wp2
            go_round
            case rel => exact ⟨k + 1, by omega, by go_num, by rw [HNX.out]; go_num, by have := HNX.out; omega⟩
            case measure => simp [intOf]; omega
          · have e10 := beq_f h10 (n := 10) rfl
            have HNX : Hid (nls (s.data.toList.take (k + 1)) = nls (s.data.toList.take k)) := by show _ = _; rw [HT.out]; unfold nls; rw [List.count_append]; simp [h10]
            clear h10
            generalize nls (s.data.toList.take k) = t at *
            go_wp2
            go_round
            case rel => exact ⟨k + 1, by omega, by go_num, by rw [HNX.out], by have := HNX.out; omega⟩
            case measure => simp [intOf]; omega
        · have hkk : k = s.size := by omega
          have HNT : Hid (nls (s.data.toList.take k) = nls s.data.toList) := by show _ = _; rw [hkk, take_all_p]
          rw [HNT.out]
          have hnb := HNB.out
          have h1 := HSC.out.1
          have h2 := HSC.out.2
          rw [size_list] at h2
          have hfz := str_size xs.flatten
          clear hkk hnk
          generalize nls s.data.toList = N at *
          have e1 : (((xs.length : Nat) : Int) == ((N : Nat) : Int) + 1) = true := by rw [beq_iff_eq]; omega
          have e2 : ((((str xs.flatten).size : Nat) : Int) == ((s.size : Nat) : Int) - ((N : Nat) : Int)) = true := by rw [beq_iff_eq]; omega
          have HE2 := Lib.hid e2
          clear h1 h2 hfz e2
          go_wp2_with fail
          refine (mwJoin_any a2 _ c2 xs _ HR24.out (by omega) HSM.out).mono ?_
          rintro e w9 ⟨rfl, rfl⟩
          have e2 := HE2.out
          generalize str xs.flatten = f at *
          go_wp2
          go_ret
          exact ⟨rfl, hB4⟩
    · have e0 : (q == 0) = false := by rw [beq_eq_false_iff_ne]; exact hq
      have e1 : (q != 0) = true := by rw [bne_iff_ne]; exact hq
      clear ho hq HX
      go_wp2_with fail
      refine (mwTexts_any _ _ _ _ _ _ xs xs _ HR24.out HR34.out HM.out HM.out).mono ?_
      rintro e w5 ⟨rfl, hb5⟩
      rw [decide_eq_true (rfl : xs = xs)]
      go_wp2
      go_ret
      exact ⟨rfl, nx hB4 hb5⟩
theorem best_in {b : List UInt8} {m : Nat} (h : best b = some m) : b.length ≤ 300 := by
  unfold best at h
  split at h
  · cases h
  · omega
set_option maxRecDepth 100000 in
set_option maxHeartbeats 4000000 in
theorem fnBestAll_walk (a : Option Addr) (n c : Nat) (w : World) (hmx : ∃ m, w.cell? ⟨4, 0, none⟩ = some (.int .i64 m)) (hc : Code w a n) (hnc : n ≤ c) (hm : c ≤ maxLen) :
    Calls Tryd.prog 4 #[.slice a n c] w fun e w' => e = .returned (.bool true) ∧ Below w.heap.size w w' := by
  have hm' := hm
  unfold maxLen at hm'
  by_cases hn : 1048576 < n
  · have hd : decide ((1048576 : Int) < n) = true := by simp; omega
    go_enter Tryd.func4, Tryd.ntmps4
    go_wp2
    go_ret
    exact ⟨rfl, Below.refl _ _⟩
  have hd : decide ((1048576 : Int) < n) = false := by simp; omega
  go_enter Tryd.func4, Tryd.ntmps4
  go_wp2_with fail
  refine (drawBestCode_any a n c w hc hnc hm).mono ?_
  rintro e w1 ⟨s, rfl, hs, hb1⟩
  have HB := bestCode_any s w1 (mx_below hmx hb1) (by omega)
  have HBS := Lib.hid (fun u => bestCodeS_any s u (by omega))
  have hsz : s.size ≤ 1073741000 := by omega
  cases hbest : best s.data.toList with
  | none =>
    rw [hbest] at HB
    rw [hbest] at HBS
    have HB := Lib.hid HB
    clear hbest
    go_wp2_with fail
    refine HB.out.mono ?_
    rintro e w2 ⟨rfl, hb2⟩
    go_wp2_with fail
    refine (HBS.out _).mono ?_
    rintro e w3 ⟨rfl, hb3⟩
    go_wp2
    go_ret
    exact ⟨rfl, nx (nx hb1 hb2) hb3⟩
  | some m =>
    rw [hbest] at HB
    rw [hbest] at HBS
    have HB := Lib.hid HB
    have h300 := best_in hbest
    have HE : Hid (∀ q : Int, q = 1 ∨ q = 2 → ∀ u : World, Below w.heap.size w u → Calls Tryd.prog 10 #[.string s, .int .i64 q] u fun e w' => ∃ (a : Option Addr) (k c : Nat), e = .returned (.tuple #[.slice a k c, .bool true]) ∧ Below u.heap.size u w' ∧ Calls Tryd.prog 17 #[.slice a k c, .int .i64 q] w' fun e w'' => e = .returned (.tuple #[.string s, .bool true]) ∧ Below w'.heap.size w' w'') := fun q hq u hu => by
      obtain ⟨ys, hys⟩ : ∃ ys, encW s.data.toList q = some ys := by
        rcases hq with rfl | rfl
        · exact ⟨_, encQ_in h300⟩
        · exact ⟨_, encB_in h300⟩
      obtain ⟨hback, _, _⟩ := decW_encW hys
      have hsm := encW_small s.data.toList q
      rw [hys] at hsm
      obtain ⟨hyl, hyx⟩ := hsm
      change ys.length ≤ 500 at hyl
      change ∀ x ∈ ys, x.length ≤ 40 at hyx
      have := encodeBytes_any s q u (mx_below hmx hu) hsz
      rw [hys] at this
      refine this.mono ?_
      rintro e w' ⟨v, rfl, ho, hb⟩
      change OwnL u.heap.size v ys w' at ho
      obtain ⟨a', c', rfl, hr, _⟩ := ho.read
      refine ⟨a', _, c', rfl, hb, ?_⟩
      have := decodeBytes_any a' _ c' ys q w' hr (ownL_cap ho) (by omega) (fun x hx => Nat.le_trans (hyx x hx) (by omega))
      rw [hback] at this
      refine this.mono ?_
      rintro e w'' ⟨rfl, hb⟩
      exact ⟨by show _ = _; rw [Option.getD_some, str_of]; rfl, hb⟩
    rw [size_list] at h300
    have hz3i : (s.size : Int) ≤ 300 := by omega
    have hee : (s.toList == s.toList) = true := by simp
    clear hbest h300
    go_wp2_with fail
    refine HB.out.mono ?_
    rintro e w2 ⟨rfl, hb2⟩
    go_wp2_with fail
    refine (HBS.out _).mono ?_
    rintro e w3 ⟨rfl, hb3⟩
    have hB3 := nx (nx hb1 hb2) hb3
    go_wp2_with fail
    go_loopw [8] (fun i wr => ∃ k : Nat, 1 ≤ k ∧ k ≤ 3 ∧ i = .int .i64 k ∧ Below w3.heap.size w3 wr) (fun i _ => 3 - (intOf i).toNat)
    case atStart => exact ⟨1, by omega, by omega, rfl, Below.refl _ _⟩
    case round =>
      obtain ⟨k, hk1, hk3, rfl, hbr⟩ := hrel
      by_cases hlt : k ≤ 2
      · have hq : (k : Int) = 1 ∨ (k : Int) = 2 := by omega
        have hlti : (k : Int) ≤ 2 := by omega
        have HQ := Lib.hid hq
        have HBR := Lib.hid hbr
        clear hq hbr
        go_wp2_with fail
        refine (HE.out _ HQ.out _ (nx hB3 HBR.out)).mono ?_
        rintro e w4 ⟨a4, k4, c4, rfl, hb4, hdec⟩
        have HDEC := Lib.hid hdec
        clear hdec
        go_wp2_with fail
        refine HDEC.out.mono ?_
        rintro e w5 ⟨rfl, hb5⟩
        go_wp2
        go_roundw
        case rel => exact ⟨k + 1, by omega, by omega, by go_num, nx (nx HBR.out hb4) hb5⟩
        case measure => simp [intOf]; omega
      · have hlti : ¬ (k : Int) ≤ 2 := by omega
        go_wp2
        go_ret
        exact ⟨rfl, nx hB3 hbr⟩
end Go.Proofs.YtdaoeoociamdnabDoor
