/-
  Dates read: what the program's functions on the parts of a date return. No statement is proved here.
-/
import Derived.Test.YtboopbjdehdhgaaGreatDoorFmt
import Derived.Test.YtboopbjdehdhgaaGreatDoorAtoms
import Derived.Test.YtboopbjdehdhgaaGreatDoorAddr
import Derived.Test.YtboopbjdehdhgaaGreatDoorLaw0f
import Derived.Deep.MidRow
namespace Go.Proofs.YtboopbjdehdhgaaGreatDoor
open Go.RowKit Go.Sort

/-- A number read, or 0 and false. -/
def numV (o : Option Nat) : Value := .tuple #[.int .i64 ((o.getD 0 : Nat) : Int), .bool o.isSome]
theorem numRet_none {o : Option Nat} {w w' : World} (h : o = none) (hw : w' = w) : Ending.returned (.tuple #[.int .i64 0, .bool false]) = .returned (numV o) ∧ w' = w := by
  subst h; exact ⟨rfl, hw⟩
theorem numRet_some {o : Option Nat} {n : Nat} {i : Int} {w w' : World} (h : o = some n) (hi : i = (n : Int)) (hw : w' = w) : Ending.returned (.tuple #[.int .i64 i, .bool true]) = .returned (numV o) ∧ w' = w := by
  subst h hi; exact ⟨rfl, hw⟩
theorem all_take {l : List UInt8} {k : Nat} (h : k < l.length) (h1 : digB l[k] = false) : l.all digB = false := by
  rw [List.all_eq_false]; exact ⟨_, List.getElem_mem h, by simp [h1]⟩
set_option maxRecDepth 100000 in
set_option maxHeartbeats 1000000 in
theorem readDigits_any (s : ByteArray) (a b : Nat) (w : World) (hb : b ≤ 4) :
    Calls Tryz.prog 52 #[.string s, .int .i64 a, .int .i64 b] w fun e w' => e = .returned (numV (num? s.data.toList a b)) ∧ w' = w := by
  by_cases hlen : a ≤ s.size ∧ s.size ≤ b
  · have H1 : Hid (∀ u : World, Calls Tryz.prog 73 #[.int .i64 s.size, .int .i64 a, .int .i64 b] u fun e w' => e = .returned (.bool true) ∧ w' = u) := fun u => by
      have := isBetween_any s.size a b u
      rw [decide_eq_true (by omega : (a : Int) ≤ s.size), decide_eq_true (by omega : (s.size : Int) ≤ b)] at this
      exact this
    have hs4 : s.size ≤ 4 := by omega
    have HA := Lib.hid hlen.1
    have HB := Lib.hid hlen.2
    clear hlen hb
    go_enter Tryz.func52, Tryz.ntmps52
    go_wp2_with fail
    refine (H1.out _).mono ?_
    rintro e w1 ⟨rfl, rfl⟩
    go_wp2_with fail
    go_loop [8, 9] (fun v i => ∃ k N : Nat, k ≤ s.size ∧ i = .int .i64 k ∧ v = .int .i64 N ∧ N < 10000 ∧ (k ≤ 3 → N < 1000) ∧ numL (s.data.toList.take k) = N ∧ (s.data.toList.take k).all digB = true) (fun _ i => s.size - (intOf i).toNat)
    case atStart => exact ⟨0, 0, Nat.zero_le _, rfl, rfl, by omega, fun _ => by omega, rfl, rfl⟩
    case round =>
      obtain ⟨k, N, hk, rfl, rfl, hN, hN3, hnum, hall⟩ := hrel
      have HNUM := Lib.hid hnum
      have HALL := Lib.hid hall
      clear hnum hall
      by_cases hlt : k < s.size
      · have hN1 : N < 1000 := hN3 (by omega)
        clear hN3
        cases hd : digB s[k]
        · have HR : Hid (num? s.data.toList a b = none) := num?_none_dig (all_take (l := s.data.toList) (k := k) hlt (by rw [getElem_list]; exact hd))
          go_wp2_with fail
          refine (isDigit_any s[k] _).mono ?_
          rintro e w1 ⟨rfl, rfl⟩
          rw [hd]
          go_wp2
          go_ret2
          exact numRet_none HR.out rfl
        · have hdd := digB_iff.1 hd
          obtain ⟨t, HT⟩ : ∃ t : Nat, Hid (s[k].toNat = 48 + t ∧ t ≤ 9) := ⟨s[k].toNat - 48, by show _ ∧ _; omega⟩
          have HT2 : Hid ((s[k].toNat : Int) = 48 + (t : Int)) := by show _ = _; have := HT.out.1; omega
          have ht9 : t ≤ 9 := HT.out.2
          have htk : s.data.toList.take (k + 1) = s.data.toList.take k ++ [s[k]] := by
            rw [List.take_succ_eq_append_getElem (by rw [size_list]; exact hlt), getElem_list]
          have HN : Hid (numL (s.data.toList.take (k + 1)) = 10 * N + t) := by
            show _ = _
            rw [htk, numL_snoc, HNUM.out]; have := HT.out.1; omega
          have HAL : Hid ((s.data.toList.take (k + 1)).all digB = true) := by
            show _ = _
            rw [htk, List.all_append, HALL.out]; simp [hd]
          have HL3 : Hid (k + 1 ≤ 3 → 10 * N + t < 1000) := fun h3 => by
            have h1 := numL_lt (s.data.toList.take (k + 1)) 3 (by rw [List.length_take]; omega) HAL.out
            rw [HN.out] at h1; exact h1
          clear htk hdd
          go_wp2_with fail
          refine (isDigit_any s[k] _).mono ?_
          rintro e w1 ⟨rfl, rfl⟩
          rw [hd]
          have ht := HT2.out
          clear hd
          go_wp2
          go_round
          case rel => exact ⟨k + 1, 10 * N + t, by omega, by go_num, by show Value.int .i64 _ = _; congr 1; omega, by omega, HL3.out, HN.out, HAL.out⟩
          case measure => simp [intOf]; omega
      · have hks : k = s.size := by omega
        have HR : Hid (num? s.data.toList a b = some N) := by
          show _ = _
          have h1 := HALL.out
          have h2 := HNUM.out
          rw [List.take_of_length_le (by rw [size_list]; omega)] at h1 h2
          rw [num?_ok (by rw [size_list]; exact HA.out) (by rw [size_list]; exact HB.out) h1, h2]
        clear hks hN3
        go_wp2
        go_ret2
        exact numRet_some HR.out rfl rfl
  · have H1 : Hid (∀ u : World, Calls Tryz.prog 73 #[.int .i64 s.size, .int .i64 a, .int .i64 b] u fun e w' => e = .returned (.bool false) ∧ w' = u) := fun u => by
      have := isBetween_any s.size a b u
      have hq : (decide ((a : Int) ≤ s.size) && decide ((s.size : Int) ≤ b)) = false := by
        rw [Bool.and_eq_false_iff, decide_eq_false_iff_not, decide_eq_false_iff_not]; omega
      rw [hq] at this
      exact this
    have HR : Hid (num? s.data.toList a b = none) := num?_none_len (by rw [size_list]; exact hlen)
    clear hlen
    go_enter Tryz.func52, Tryz.ntmps52
    go_wp2_with fail
    refine (H1.out _).mono ?_
    rintro e w1 ⟨rfl, rfl⟩
    go_wp2
    go_ret2
    exact numRet_none HR.out rfl
def zoneV (o : Option Int) : Value := .tuple #[.int .i64 (o.getD 0), .bool o.isSome]
theorem zoneRet_none {o : Option Int} {w w' : World} (h : o = none) (hw : w' = w) : Ending.returned (.tuple #[.int .i64 0, .bool false]) = .returned (zoneV o) ∧ w' = w := by
  subst h; exact ⟨rfl, hw⟩
theorem zoneRet_some {o : Option Int} {i j : Int} {w w' : World} (h : o = some j) (hi : i = j) (hw : w' = w) : Ending.returned (.tuple #[.int .i64 i, .bool true]) = .returned (zoneV o) ∧ w' = w := by
  subst h hi; exact ⟨rfl, hw⟩
theorem zone_word {l : List UInt8} (h : l = [71, 77, 84] ∨ l = [85, 84]) : zone? l = some 0 := by unfold zone?; rw [if_pos h]
theorem zone_short {l : List UInt8} (h : ¬ (l = [71, 77, 84] ∨ l = [85, 84])) (h2 : ¬ (l.length = 5 ∧ (l.head? = some 43 ∨ l.head? = some 45))) : zone? l = none := by unfold zone?; rw [if_neg h, if_neg h2]
theorem zone_long {l : List UInt8} (h : ¬ (l = [71, 77, 84] ∨ l = [85, 84])) (h2 : l.length = 5 ∧ (l.head? = some 43 ∨ l.head? = some 45)) :
    (num? (l.drop 1) 4 4 = none → zone? l = none) ∧ ∀ n, num? (l.drop 1) 4 4 = some n → (¬ n % 100 ≤ 59 → zone? l = none) ∧ (n % 100 ≤ 59 → zone? l = some (if l.head? = some 45 then -((60 * (n / 100) + n % 100 : Nat) : Int) else ((60 * (n / 100) + n % 100 : Nat) : Int))) := by
  unfold zone?
  rw [if_neg h, if_pos h2]
  refine ⟨fun e => by rw [e], fun n e => ?_⟩
  rw [e]
  exact ⟨fun h => by simp [h], fun h => by simp [h]⟩
theorem head_at (s : ByteArray) (h : 0 < s.size) : s.data.toList.head? = some s[0] := by
  rw [List.head?_eq_getElem?, List.getElem?_eq_getElem (by rw [size_list]; exact h), getElem_list]
theorem lst_t {s : ByteArray} {l : List UInt8} (h : s.data.toList = l) : (s.toList == l) = true := by rw [ByteArray.toList_eq, h]; simp
theorem lst_f {s : ByteArray} {l : List UInt8} (h : s.data.toList ≠ l) : (s.toList == l) = false := by rw [ByteArray.toList_eq, beq_eq_false_iff_ne]; exact h
set_option maxRecDepth 100000 in
set_option maxHeartbeats 2000000 in
theorem readZone_any (s : ByteArray) (w : World) (hs : s.size ≤ 1073741824) :
    Calls Tryz.prog 55 #[.string s] w fun e w' => e = .returned (zoneV (zone? s.data.toList)) ∧ w' = w := by
  by_cases h1 : s.data.toList = [71, 77, 84]
  · have HR : Hid (zone? s.data.toList = some 0) := zone_word (.inl h1)
    have e1 := lst_t h1
    clear h1
    go_enter Tryz.func55, Tryz.ntmps55
    go_wp2
    go_ret2
    exact zoneRet_some HR.out rfl rfl
  have e1 := lst_f h1
  by_cases h2 : s.data.toList = [85, 84]
  · have HR : Hid (zone? s.data.toList = some 0) := zone_word (.inr h2)
    have e2 := lst_t h2
    clear h1 h2
    go_enter Tryz.func55, Tryz.ntmps55
    go_wp2
    go_ret2
    exact zoneRet_some HR.out rfl rfl
  have e2 := lst_f h2
  have HNW : Hid (¬ (s.data.toList = [71, 77, 84] ∨ s.data.toList = [85, 84])) := by
    rintro (h | h)
    · exact h1 h
    · exact h2 h
  clear h1 h2
  by_cases h5 : s.size = 5
  · have H5 := Lib.hid h5
    have hs0 : 0 < s.size := by omega
    have f5 : ((s.size : Int) != 5) = false := by rw [h5]; rfl
    have HH := Lib.hid (head_at s hs0)
    have hs5 : 5 ≤ s.size := by omega
    have hs6 : s.size ≤ 5 := by omega
    clear h5
    by_cases hq : s[0] = 43 ∨ s[0] = 45
    · have HL := zone_long HNW.out ⟨by rw [size_list]; exact H5.out, by rw [HH.out]; rcases hq with h | h <;> simp [h]⟩
      have HD : Hid (∀ u, Calls Tryz.prog 52 #[.string (s.extract 1 s.size), .int .i64 4, .int .i64 4] u fun e w' => e = .returned (numV (num? (s.data.toList.drop 1) 4 4)) ∧ w' = u) := fun u => by
        have := readDigits_any (s.extract 1 s.size) 4 4 u (by omega)
        rw [ext_drop, str_list] at this
        rw [ext_drop]; exact this
      have b0 : ((s[0].toNat : Int) != 43) = false ∨ ((s[0].toNat : Int) != 43) = true ∧ ((s[0].toNat : Int) != 45) = false := by
        rcases hq with hq | hq
        · exact .inl (bneq_f hq rfl)
        · exact .inr ⟨by rw [hq]; rfl, bneq_f hq rfl⟩
      cases ho : num? (s.data.toList.drop 1) 4 4 with
      | none =>
        have HR := Lib.hid (HL.1 ho)
        rw [ho] at HD
        unfold numV at HD
        clear HL ho hq
        rcases b0 with b1 | ⟨b1, b2⟩
        all_goals
          go_enter Tryz.func55, Tryz.ntmps55
          go_wp2_with fail
          refine (HD.out _).mono ?_
          rintro e w1 ⟨rfl, rfl⟩
          go_wp2
          go_ret2
          exact zoneRet_none HR.out rfl
      | some n =>
        have hn4 := num?_lt ho
        have HL2 := HL.2 n ho
        rw [ho] at HD
        unfold numV at HD
        have HDN : Hid (∀ u, Calls Tryz.prog 52 #[.string (s.extract 1 s.size), .int .i64 4, .int .i64 4] u fun e w' => e = .returned (.tuple #[.int .i64 (n : Int), .bool true]) ∧ w' = u) := HD.out
        have hn5 : n < 10000 := hn4
        obtain ⟨h, Hh⟩ : ∃ h : Nat, Hid (n / 100 = h) := ⟨_, rfl⟩
        obtain ⟨r, Hr⟩ : ∃ r : Nat, Hid (n % 100 = r) := ⟨_, rfl⟩
        rw [Hh.out, Hr.out] at HL2
        have k1 : (n : Int) / 100 = (h : Int) := by have := Hh.out; omega
        have k2 : (n : Int) % 100 = (r : Int) := by have := Hr.out; omega
        have kh : h ≤ 100 := by have := Hh.out; omega
        have kr : r ≤ 99 := by have := Hr.out; omega
        clear HL ho hn4 HD
        by_cases hr : r ≤ 59
        · have HR := Lib.hid (HL2.2 hr)
          have hr' : ¬ (59 : Int) < (r : Int) := by omega
          rw [HH.out] at HR
          clear HL2
          rcases b0 with b1 | ⟨b1, b2⟩
          · have hne : s[0] ≠ 45 := by
              intro e; rw [e] at b1; exact absurd b1 (by decide)
            have b3 := beq_f hne (n := 45) rfl
            rw [if_neg (by simpa using hne)] at HR
            clear hq hne
            go_enter Tryz.func55, Tryz.ntmps55
            go_wp2_with fail
            refine (HDN.out _).mono ?_
            rintro e w1 ⟨rfl, rfl⟩
            go_wp2
            go_ret2
            exact zoneRet_some HR.out (by omega) rfl
          · have heq : s[0] = 45 := by
              rcases hq with h | h
              · rw [h] at b1; exact absurd b1 (by decide)
              · exact h
            have b3 := beq_t heq (n := 45) rfl
            rw [if_pos (by rw [heq])] at HR
            clear hq heq
            go_enter Tryz.func55, Tryz.ntmps55
            go_wp2_with fail
            refine (HDN.out _).mono ?_
            rintro e w1 ⟨rfl, rfl⟩
            go_wp2
            go_ret2
            exact zoneRet_some HR.out (by omega) rfl
        · have HR := Lib.hid (HL2.1 hr)
          have hr' : (59 : Int) < (r : Int) := by omega
          clear HL2 hq
          rcases b0 with b1 | ⟨b1, b2⟩
          all_goals
            go_enter Tryz.func55, Tryz.ntmps55
            go_wp2_with fail
            refine (HDN.out _).mono ?_
            rintro e w1 ⟨rfl, rfl⟩
            go_wp2
            go_ret2
            exact zoneRet_none HR.out rfl
    · have HR : Hid (zone? s.data.toList = none) := zone_short HNW.out (by rw [HH.out]; rintro ⟨_, h | h⟩ <;> simp at h <;> exact hq (by simp [h]))
      have b1 : ((s[0].toNat : Int) != 43) = true := bneq_t (fun e => hq (.inl e)) rfl
      have b2 : ((s[0].toNat : Int) != 45) = true := bneq_t (fun e => hq (.inr e)) rfl
      clear hq
      go_enter Tryz.func55, Tryz.ntmps55
      go_wp2
      go_ret2
      exact zoneRet_none HR.out rfl
  · have HR : Hid (zone? s.data.toList = none) := zone_short HNW.out (by rw [size_list]; exact fun h => h5 h.1)
    have f5 : ((s.size : Int) != 5) = true := by rw [bne_iff_ne]; omega
    clear h5
    go_enter Tryz.func55, Tryz.ntmps55
    go_wp2
    go_ret2
    exact zoneRet_none HR.out rfl
def monO (l : List UInt8) : Option Nat := if monR l = 0 then none else some (monR l)
theorem mon12 : (Tryz.prog.info? 33).map (·.size) = some mVals.length := by kernel_rfl
theorem mIdx (k : Nat) (hk : k < 12) (w : World) : (Instr.index 33 (.agg mVals.toArray) (.int .i64 k)).run Tryz.prog w = .ok (.string (str (moL.getD k []))) w := by
  rcases (by omega : k = 0 ∨ k = 1 ∨ k = 2 ∨ k = 3 ∨ k = 4 ∨ k = 5 ∨ k = 6 ∨ k = 7 ∨ k = 8 ∨ k = 9 ∨ k = 10 ∨ k = 11) with rfl | rfl | rfl | rfl | rfl | rfl | rfl | rfl | rfl | rfl | rfl | rfl <;> kernel_rfl
theorem mRange {w : World} (h : MTab w) : w.rangeAt 0 0 mVals := fun j v hj => by
  have hl : j < 12 := by rcases Nat.lt_or_ge j 12 with h | h; exact h; rw [List.getElem?_eq_none (by exact h)] at hj; cases hj
  rw [Nat.zero_add, h j hl]
  have : mVals[j]? = some (.string (str (moL.getD j []))) := by
    unfold mVals
    rw [List.getElem?_map, List.getElem?_eq_getElem (show j < moL.length from hl), moL_get]; rfl
  rw [this] at hj; exact hj
set_option maxRecDepth 100000 in
set_option maxHeartbeats 1000000 in
theorem readMonth_any (s : ByteArray) (w : World) (mt : MTab w) (hs : s.size ≤ 1073741824) :
    Calls Tryz.prog 53 #[.string s] w fun e w' => e = .returned (numV (monO s.data.toList)) ∧ Below w.heap.size w w' := by
  have HRG := Lib.hid (mRange mt)
  have HIX := Lib.hid mIdx
  clear mt
  go_enter Tryz.func53, Tryz.ntmps53
  go_wp2_with (refine wpList_load_mid rfl _ _ rfl 0 0 rfl mVals _ HRG.out Tryz.underlying33 rfl mon12 ?_)
  generalize mVals.toArray = MV at *
  go_loopw [7] (fun i wr => ∃ k : Nat, k ≤ 12 ∧ i = .int .i64 k ∧ (∀ j, j < k → sameN s.data.toList (moL.getD j []) = false) ∧ Below w.heap.size w wr) (fun i _ => 12 - (intOf i).toNat)
  case atStart => exact ⟨0, by omega, rfl, fun j hj => by omega, Below.refl _ _⟩
  case round =>
    obtain ⟨k, hk, rfl, hno, hb⟩ := hrel
    have HNO := Lib.hid hno
    have HB := Lib.hid hb
    clear hno hb
    by_cases hlt : k < 12
    · have hix := HIX.out k hlt
      have HST := Lib.hid (fun u => sameText_any s (str (moL.getD k [])) u hs (by rw [str_size, moL_len k hlt]; omega))
      have HSN : Hid (decide (lowS s = lowS (str (moL.getD k []))) = sameN s.data.toList (moL.getD k [])) := by
        show _ = _
        unfold sameN
        rw [Bool.eq_iff_iff, decide_eq_true_iff, decide_eq_true_iff]
        unfold lowS
        rw [str_list]
        exact ⟨fun h => by have := congrArg (fun x : ByteArray => x.data.toList) h; simpa [str_list] using this, fun h => by rw [h]⟩
      rw [HSN.out] at HST
      cases hq : sameN s.data.toList (moL.getD k [])
      · have HN : Hid (∀ j, j < k + 1 → sameN s.data.toList (moL.getD j []) = false) := fun j hj => by
          by_cases h : j < k
          · exact HNO.out j h
          · obtain rfl : j = k := by omega
            exact hq
        rw [hq] at HST
        clear hq HSN
        generalize str (moL.getD k []) = s2 at *
        go_wp2_with fail
        refine (HST.out _).mono ?_
        rintro e w1 ⟨rfl, hb1⟩
        go_wp2
        go_roundw
        case rel => exact ⟨k + 1, by omega, by go_num, HN.out, nx HB.out hb1⟩
        case measure => simp [intOf]; omega
      · have HR : Hid (monO s.data.toList = some (k + 1)) := by
          show _ = _
          unfold monO
          rw [mon_at hlt hq, if_neg (by omega)]
        rw [hq] at HST
        clear hq HSN
        generalize str (moL.getD k []) = s2 at *
        go_wp2_with fail
        refine (HST.out _).mono ?_
        rintro e w1 ⟨rfl, hb1⟩
        go_wp2
        go_ret2
        exact ⟨(numRet_some (w := w) HR.out (by omega) rfl).1, nx HB.out hb1⟩
    · have HR : Hid (monO s.data.toList = none) := by
        show _ = _
        unfold monO
        rw [if_pos (mon_none fun i hi => HNO.out i (by omega))]
      go_wp2
      go_ret2
      exact ⟨(numRet_none (w := w) HR.out rfl).1, HB.out⟩
end Go.Proofs.YtboopbjdehdhgaaGreatDoor
