/-
  The laws of chapter 5 on quoted lines: each law's walk. For every input of the law: it returns true, and the input reads as it did. Conditions: none but the statement's own.
-/
import Derived.Test.YtdaoeoociamdnaaDoorLaw0c
import Derived.Test.YtdaoeoociamdnaaDoorCodV
import Derived.Test.YtdaoeoociamdnaaDoorDrawC
import Derived.Test.YtdaoeoociamdnaaDoorDraw2
import Derived.Test.YtdaoeoociamdnaaDoorCodP
import Derived.Deep.QuietTactic
import Derived.BigQuiet
namespace Go.Proofs.YtdaoeoociamdnaaDoor
open Go.ChangeShapes Go.WideShapes Go.ChangeAt Go.RowKit
open Go.ChangeMaps (open_string shut_string)

set_option maxRecDepth 100000 in
set_option maxHeartbeats 4000000 in
theorem fnQuotedPlain_walk (a : Option Addr) (n c : Nat) (w : World) (hmx : ∃ m, w.cell? ⟨0, 0, none⟩ = some (.int .i64 m)) (hc : Code w a n) (hnc : n ≤ c) (hm : c ≤ maxLen) :
    Calls Tryd.prog 7 #[.slice a n c] w fun e w' => e = .returned (.bool true) ∧ Below w.heap.size w w' := by
  have hm' := hm
  unfold maxLen at hm'
  by_cases hn : 1048576 < n
  · have hd : decide ((1048576 : Int) < n) = true := by simp; omega
    go_enter Tryd.func7, Tryd.ntmps7
    go_wp2
    go_ret
    exact ⟨rfl, Below.refl _ _⟩
  have hd : decide ((1048576 : Int) < n) = false := by simp; omega
  go_enter Tryd.func7, Tryd.ntmps7
  go_wp2_with fail
  refine (drawEncodeQuoted_any a n c w hc hnc hm).mono ?_
  rintro e w1 ⟨s, rfl, hs, hb1⟩
  obtain ⟨hxl, hxs⟩ := encQ_small s.data.toList
  have HXS := Lib.hid hxs
  have HM : Hid (((encQ s.data.toList).getD []).length ≤ maxLen) := by show _ ≤ _; unfold maxLen; omega
  clear hxs
  go_wp2_with fail
  refine (encodeQuoted_any s _ (mx_below hmx hb1) (by omega)).mono ?_
  rintro e w2 ⟨v2, rfl, ho2, hb2⟩
  obtain ⟨a2, c2, rfl, hr2, _⟩ := ho2.read
  have HR2 := Lib.hid hr2
  have hB2 := nx hb1 hb2
  clear hr2 ho2 hb1 hb2
  go_wp2_with fail
  refine (encodeQuotedS_any s _ (by omega)).mono ?_
  rintro e w3 ⟨v3, rfl, ho3, hb3⟩
  obtain ⟨a3, c3, rfl, hr3, _⟩ := ho3.read
  have HR23 := Lib.hid (HR2.out.below hb3)
  have HR3 := Lib.hid hr3
  have hB3 := nx hB2 hb3
  clear hr3 ho3 hb3 HR2 hB2
  generalize hX : (encQ s.data.toList).getD [] = xs at *
  have HX := Lib.hid hX
  clear hX
  go_wp2_with fail
  refine (mwTexts_any _ _ _ _ _ _ xs xs _ HR23.out HR3.out HM.out HM.out).mono ?_
  rintro e w4 ⟨rfl, hb4⟩
  rw [decide_eq_true (rfl : xs = xs)]
  have HR24 := Lib.hid (HR23.out.below hb4)
  have HR34 := Lib.hid (HR3.out.below hb4)
  have hB4 := nx hB3 hb4
  clear hb4 hB3 HR23 HR3
  cases ho : encQ s.data.toList with
  | none =>
    clear ho
    go_wp2_with fail
    refine (mwTexts_any _ _ _ _ _ _ xs xs _ HR24.out HR34.out HM.out HM.out).mono ?_
    rintro e w5 ⟨rfl, hb5⟩
    rw [decide_eq_true (rfl : xs = xs)]
    go_wp2
    go_ret
    exact ⟨rfl, nx hB4 hb5⟩
  | some ys =>
    have h300 : s.size ≤ 300 := by
      apply Classical.byContradiction; intro h
      rw [encQ_out (by rw [size_list]; omega)] at ho; cases ho
    have HYX : Hid (xs = qgo [] s.data.toList) := by show _ = _; rw [← HX.out, encQ_in (by rw [size_list]; exact h300)]; rfl
    clear ho HX
    by_cases h39 : 39 < s.size
    · go_wp2_with fail
      refine (mwTexts_any _ _ _ _ _ _ xs xs _ HR24.out HR34.out HM.out HM.out).mono ?_
      rintro e w5 ⟨rfl, hb5⟩
      rw [decide_eq_true (rfl : xs = xs)]
      go_wp2
      go_ret
      exact ⟨rfl, nx hB4 hb5⟩
    · go_wp2_with fail
      go_loop [8] (fun i => ∃ k : Nat, k ≤ s.size ∧ i = .int .i64 k ∧ ∀ j, (h : j < s.size) → j < k → selfB s[j] = true) (fun i => s.size - (intOf i).toNat)
      case atStart => exact ⟨0, by omega, rfl, fun j _ h => by omega⟩
      case round =>
        obtain ⟨k, hk, rfl, hall⟩ := hrel
        have HA := Lib.hid hall
        clear hall
        by_cases hlt : k < s.size
        · by_cases h33 : s[k].toNat < 33
          · go_wp2
            go_ret
            exact ⟨rfl, hB4⟩
          · by_cases h126 : 126 < s[k].toNat
            · go_wp2
              go_ret
              exact ⟨rfl, hB4⟩
            · by_cases h61 : s[k] = 61
              · have e61 := beq_t h61 (n := 61) rfl
                clear h61
                go_wp2
                go_ret
                exact ⟨rfl, hB4⟩
              · have e61 := beq_f h61 (n := 61) rfl
                have HK : Hid (selfB s[k] = true) := by show _ = _; unfold selfB; rw [decide_eq_true (by omega), decide_eq_true (by omega), decide_eq_true h61]; rfl
                clear h61
                go_wp2
                go_round
                case rel => exact ⟨k + 1, by omega, by go_num, fun j hj hjk => by
                  by_cases e : j = k
                  · subst e; exact HK.out
                  · exact HA.out j hj (by omega)⟩
                case measure => simp [intOf]; omega
        · have HQ1 : Hid (xs = [s.data.toList]) := by
            show _ = _
            rw [HYX.out, qgo_self _ _ (by rw [size_list]; simp; omega) (fun x hx => by
              obtain ⟨j, hj, rfl⟩ := List.getElem_of_mem hx
              rw [size_list] at hj
              exact HA.out j hj (by omega))]; rfl
          have hl1 : xs.length = 1 := by rw [HQ1.out]; rfl
          obtain ⟨b, off, rfl, hbl, hcell⟩ := HR24.out.2.resolve_left (by omega)
          have c0 : w4.cell? ⟨b, off, none⟩ = some (.string s) := by
            have := hcell 0 (by omega)
            rw [Nat.add_zero] at this
            rw [this]
            have : xs[0]'(by omega) = s.data.toList := by simp only [HQ1.out]; rfl
            rw [this, str_of]
          have hee : (s.toList == s.toList) = true := by simp
          have e1 : (((xs.length : Nat) : Int) == 1) = true := by rw [hl1]; rfl
          have h0l : (0 : Int) < ((xs.length : Nat) : Int) := by omega
          clear hcell hl1
          go_wp2
          go_ret
          exact ⟨rfl, hB4⟩
set_option maxRecDepth 100000 in
set_option maxHeartbeats 4000000 in
theorem fnQuotedNewlines_walk (a : Option Addr) (n c : Nat) (w : World) (hmx : ∃ m, w.cell? ⟨0, 0, none⟩ = some (.int .i64 m)) (hc : Code w a n) (hnc : n ≤ c) (hm : c ≤ maxLen) :
    Calls Tryd.prog 8 #[.slice a n c] w fun e w' => e = .returned (.bool true) ∧ Below w.heap.size w w' := by
  have hm' := hm
  unfold maxLen at hm'
  by_cases hn : 1048576 < n
  · have hd : decide ((1048576 : Int) < n) = true := by simp; omega
    go_enter Tryd.func8, Tryd.ntmps8
    go_wp2
    go_ret
    exact ⟨rfl, Below.refl _ _⟩
  have hd : decide ((1048576 : Int) < n) = false := by simp; omega
  go_enter Tryd.func8, Tryd.ntmps8
  go_wp2_with fail
  refine (drawEncodeQuoted_any a n c w hc hnc hm).mono ?_
  rintro e w1 ⟨s, rfl, hs, hb1⟩
  obtain ⟨hxl, hxs⟩ := encQ_small s.data.toList
  have HXS := Lib.hid hxs
  have HM : Hid (((encQ s.data.toList).getD []).length ≤ maxLen) := by show _ ≤ _; unfold maxLen; omega
  clear hxs
  go_wp2_with fail
  refine (encodeQuoted_any s _ (mx_below hmx hb1) (by omega)).mono ?_
  rintro e w2 ⟨v2, rfl, ho2, hb2⟩
  obtain ⟨a2, c2, rfl, hr2, _⟩ := ho2.read
  have HR2 := Lib.hid hr2
  have hB2 := nx hb1 hb2
  clear hr2 ho2 hb1 hb2
  go_wp2_with fail
  refine (encodeQuotedS_any s _ (by omega)).mono ?_
  rintro e w3 ⟨v3, rfl, ho3, hb3⟩
  obtain ⟨a3, c3, rfl, hr3, _⟩ := ho3.read
  have HR23 := Lib.hid (HR2.out.below hb3)
  have HR3 := Lib.hid hr3
  have hB3 := nx hB2 hb3
  clear hr3 ho3 hb3 HR2 hB2
  generalize hX : (encQ s.data.toList).getD [] = xs at *
  have HX := Lib.hid hX
  clear hX
  go_wp2_with fail
  refine (mwTexts_any _ _ _ _ _ _ xs xs _ HR23.out HR3.out HM.out HM.out).mono ?_
  rintro e w4 ⟨rfl, hb4⟩
  rw [decide_eq_true (rfl : xs = xs)]
  have HR24 := Lib.hid (HR23.out.below hb4)
  have HR34 := Lib.hid (HR3.out.below hb4)
  have hB4 := nx hB3 hb4
  clear hb4 hB3 HR23 HR3
  cases ho : encQ s.data.toList with
  | none =>
    clear ho
    go_wp2_with fail
    refine (mwTexts_any _ _ _ _ _ _ xs xs _ HR24.out HR34.out HM.out HM.out).mono ?_
    rintro e w5 ⟨rfl, hb5⟩
    rw [decide_eq_true (rfl : xs = xs)]
    go_wp2
    go_ret
    exact ⟨rfl, nx hB4 hb5⟩
  | some ys =>
    have h300 : s.size ≤ 300 := by
      apply Classical.byContradiction; intro h
      rw [encQ_out (by rw [size_list]; omega)] at ho; cases ho
    have HYX : Hid (xs = qgo [] s.data.toList) := by show _ = _; rw [← HX.out, encQ_in (by rw [size_list]; exact h300)]; rfl
    clear ho HX
    have HBR := Lib.hid (qgo_breaks s.data.toList [] (by simp) (by simp))
    rw [← HYX.out] at HBR
    have HNB : Hid (nls s.data.toList ≤ s.size) := by have : nls s.data.toList ≤ s.data.toList.length := List.count_le_length; rw [size_list] at this; exact this
    go_wp2_with fail
    go_loop [8, 9] (fun v i => ∃ k : Nat, k ≤ s.size ∧ i = .int .i64 k ∧ v = .int .i64 ((nls (s.data.toList.take k) + 1 : Nat) : Int) ∧ nls (s.data.toList.take k) ≤ k) (fun _ i => s.size - (intOf i).toNat)
    case atStart => exact ⟨0, by omega, rfl, rfl, by simp [nls]⟩
    case round =>
      obtain ⟨k, hk, rfl, rfl, hnk⟩ := hrel
      by_cases hlt : k < s.size
      · have HT := Lib.hid (take_snoc s k hlt)
        by_cases h10 : s[k] = 10
        · have e10 := beq_t h10 (n := 10) rfl
          have HNX : Hid (nls (s.data.toList.take (k + 1)) = nls (s.data.toList.take k) + 1) := by show _ = _; rw [HT.out, h10]; simp [nls]
          clear h10
          generalize nls (s.data.toList.take k) = t at *
          go_wp2
          go_round
          case rel => exact ⟨k + 1, by omega, by go_num, by rw [HNX.out]; go_num, by have := HNX.out; omega⟩
          case measure => simp [intOf]; omega
        · have e10 := beq_f h10 (n := 10) rfl
          have HNX : Hid (nls (s.data.toList.take (k + 1)) = nls (s.data.toList.take k)) := by show _ = _; rw [HT.out]; unfold nls; rw [List.count_append]; simp [h10]
          clear h10
          generalize nls (s.data.toList.take k) = t at *
          go_wp2
          go_round
          case rel => exact ⟨k + 1, by omega, by go_num, by rw [HNX.out], by have := HNX.out; omega⟩
          case measure => simp [intOf]; omega
      · have hkk : k = s.size := by omega
        have HNT : Hid (nls (s.data.toList.take k) = nls s.data.toList) := by show _ = _; rw [hkk, take_all]
        rw [HNT.out]
        have hnb := HNB.out
        have HBR1 := Lib.hid HBR.out.1
        have HBR2 := Lib.hid HBR.out.2
        clear hkk hnk
        generalize nls s.data.toList = N at *
        go_wp2_with fail
        go_loopw [8, 10] (fun v i wr => ∃ (j : Nat), j ≤ xs.length ∧ i = .int .i64 j ∧ v = .int .i64 ((N + 1 + softs (xs.take j) : Nat) : Int) ∧ softs (xs.take j) ≤ j ∧ Below w4.heap.size w4 wr) (fun _ i _ => xs.length - (intOf i).toNat)
        case atStart => exact ⟨0, by omega, rfl, rfl, by simp [softs], Below.refl _ _⟩
        case round =>
          obtain ⟨j, hj, rfl, rfl, hsj, hbr⟩ := hrel
          have HBR4 := Lib.hid hbr
          by_cases hjl : j < xs.length
          · obtain ⟨b, off, rfl, hbl, hcell⟩ := HR24.out.2.resolve_left (by omega)
            have c0 : wr.cell? ⟨b, off + j, none⟩ = some (.string (str xs[j])) := by rw [below_at hbr hbl]; exact hcell j hjl
            have HST : Hid (softs (xs.take (j + 1)) = softs (xs.take j) + if xs[j].getLast? = some 61 then 1 else 0) := by
              show _ = _; unfold softs; rw [List.take_succ_eq_append_getElem hjl, List.countP_append]
              by_cases h : xs[j].getLast? = some 61 <;> simp [h]
            have HN32 := Lib.hid (HBR2.out _ (List.getElem_mem hjl))
            have hxz : (str xs[j]).size ≤ 40 := by rw [str_size]; exact HXS.out _ (List.getElem_mem hjl)
            have HLS : Hid (∀ L, (h : L < (str xs[j]).size) → L + 1 = (str xs[j]).size → xs[j].getLast? = some (str xs[j])[L]) := fun L h e => by
              rw [str_at, List.getLast?_eq_getElem?]
              rw [str_size] at e
              rw [show xs[j].length - 1 = L by omega, List.getElem?_eq_getElem (by rw [str_size] at h; exact h)]
            have HEM : Hid ((str xs[j]).size = 0 → xs[j] = []) := fun h => by rw [str_size] at h; exact List.length_eq_zero_iff.1 h
            have hj0 : (0 : Int) ≤ (j : Int) := by omega
            have hj1 : (j : Int) < (xs.length : Int) := by omega
            clear hcell
            generalize hxj : xs[j] = y at *
            clear hxj
            generalize str y = X at *
            generalize softs (xs.take j) = t at *
            by_cases hz : X.size = 0
            · have hX : X = ⟨#[]⟩ := bytes_ext (List.length_eq_zero_iff.1 (by rw [size_list]; exact hz))
              have HNX : Hid (softs (xs.take (j + 1)) = t) := by show _ = _; rw [HST.out, HEM.out hz]; simp
              subst hX
              clear hz
              go_wp2
              go_quiet (fail)
              go_wp2
              go_quiet (fail)
              go_wp2
              go_roundw
              case rel => exact ⟨j + 1, by omega, by go_num, by rw [HNX.out], by have := HNX.out; omega, by first | exact below_drewN (below_drewN hbr _) _ | exact below_drewN hbr _⟩
              case measure => simp [intOf]; omega
            · obtain ⟨L, hL⟩ : ∃ L, L + 1 = X.size := ⟨X.size - 1, by omega⟩
              have hLx : L < X.size := by omega
              have HGL := Lib.hid (HLS.out L hLx hL)
              have hemp : X.toList.isEmpty = false := by
                rw [ByteArray.toList_eq, List.isEmpty_eq_false_iff]; intro e; have h := size_list X; rw [e, List.length_nil] at h; omega
              have hw1 : IntKind.i64.wrap ((X.size : Int) - 1) = (L : Int) := by rw [IntWalk.i64_in _ (by omega)]; omega
              have hw2 : (X.size : Int) - 1 = (L : Int) := by omega
              have hw3 : (0 : Int) ≤ (L : Int) := by omega
              have hw4 : (L : Int) < (X.size : Int) := by omega
              by_cases h61 : X[L] = 61
              · have e61 := beq_t h61 (n := 61) rfl
                have e32 := beq_f (c := X[L]) (d := 32) (by rw [h61]; decide) (n := 32) rfl
                have HNX : Hid (softs (xs.take (j + 1)) = t + 1) := by show _ = _; rw [HST.out, HGL.out, h61]; simp
                clear h61 hL hz
                go_wp2
                go_quiet (fail)
                go_wp2
                go_quiet (fail)
                go_wp2
                go_roundw
                case rel => exact ⟨j + 1, by omega, by go_num, by rw [HNX.out]; go_num, by have := HNX.out; omega, by first | exact below_drewN (below_drewN hbr _) _ | exact below_drewN hbr _⟩
                case measure => simp [intOf]; omega
              · have e61 := beq_f h61 (n := 61) rfl
                have e32 := beq_f (c := X[L]) (d := 32) (by intro e; apply HN32.out; rw [HGL.out, e]) (n := 32) rfl
                have HNX : Hid (softs (xs.take (j + 1)) = t) := by show _ = _; rw [HST.out, HGL.out]; simp [h61]
                clear h61 hL hz
                go_wp2
                go_quiet (fail)
                go_wp2
                go_quiet (fail)
                go_wp2
                go_roundw
                case rel => exact ⟨j + 1, by omega, by go_num, by rw [HNX.out], by have := HNX.out; omega, by first | exact below_drewN (below_drewN hbr _) _ | exact below_drewN hbr _⟩
                case measure => simp [intOf]; omega
          · have HJ : Hid (N + 1 + softs (xs.take j) = xs.length) := by show _ = _; rw [List.take_of_length_le (by omega), HBR1.out]; omega
            rw [HJ.out]
            go_wp2
            go_ret
            exact ⟨rfl, nx hB4 hbr⟩
end Go.Proofs.YtdaoeoociamdnaaDoor
