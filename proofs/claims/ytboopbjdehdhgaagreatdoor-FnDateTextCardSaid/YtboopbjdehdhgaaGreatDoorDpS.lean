/-
  Dates read by the model: digits and zones. No statement is proved here.
-/
import Derived.Test.YtboopbjdehdhgaaGreatDoorDateT
import Derived.Test.YtboopbjdehdhgaaGreatDoorAtoms
import Derived.Test.YtboopbjdehdhgaaGreatDoorAddr
namespace Go.Proofs.YtboopbjdehdhgaaGreatDoor
open Go.RowKit

/-- A number is read: what it says where it is one; else some number below a bound. -/
def DigRet (o : Option Nat) (w : World) (e : Ending) (w' : World) : Prop := ∃ v : Nat, v < 100000 ∧ e = .returned (.tuple #[.int .i64 (v : Int), .bool o.isSome]) ∧ (∀ m, o = some m → m = v) ∧ w' = w
theorem digRet_none {o : Option Nat} {v : Nat} {i : Int} {w : World} (h : o = none) (hi : i = (v : Int)) (hv : v < 100000) : DigRet o w (.returned (.tuple #[.int .i64 i, .bool false])) w := by
  subst h hi; exact ⟨v, hv, rfl, (fun _ e => by cases e), rfl⟩
theorem digRet_some {o : Option Nat} {v : Nat} {i : Int} {w : World} (h : o = some v) (hi : i = (v : Int)) (hv : v < 100000) : DigRet o w (.returned (.tuple #[.int .i64 i, .bool true])) w := by
  subst h hi; exact ⟨v, hv, rfl, (fun _ e => by injection e with e; exact e.symm), rfl⟩
theorem all_take_s {l : List UInt8} {k : Nat} (h : k < l.length) (h1 : digB l[k] = false) : l.all digB = false := by
  rw [List.all_eq_false]; exact ⟨_, List.getElem_mem h, by simp [h1]⟩
theorem dig_no {c : UInt8} (h : c.toNat < 48 ∨ 57 < c.toNat) : digB c = false := by
  cases h2 : digB c
  · rfl
  · have := digB_iff.1 h2; omega
set_option maxRecDepth 100000 in
set_option maxHeartbeats 1000000 in
theorem l4Digits_any (s : ByteArray) (a b : Nat) (w : World) (hab : a ≤ b) (hb : b ≤ 4) (hs : s.size ≤ 1073741824) :
    Calls Tryz.prog 39 #[.string s, .int .i64 a, .int .i64 b] w (DigRet (num? s.data.toList a b) w) := by
  go_enter Tryz.func39, Tryz.ntmps39
  go_wp2_with fail
  go_loop [8, 9] (fun v i => ∃ k N : Nat, k ≤ s.size ∧ k ≤ b + 1 ∧ i = .int .i64 k ∧ v = .int .i64 N ∧ N < 100000 ∧ (k ≤ 4 → N < 10000) ∧ numL (s.data.toList.take k) = N ∧ (s.data.toList.take k).all digB = true) (fun _ i => s.size - (intOf i).toNat)
  case atStart => exact ⟨0, 0, Nat.zero_le _, by omega, rfl, rfl, by omega, fun _ => by omega, rfl, rfl⟩
  case round =>
    obtain ⟨k, N, hk, hkb, rfl, rfl, hN, hN4, hnum, hall⟩ := hrel
    have HNUM := Lib.hid hnum
    have HALL := Lib.hid hall
    clear hnum hall
    by_cases hlt : k < s.size
    · by_cases hkb2 : k ≤ b
      · have hkbi : (k : Int) ≤ (b : Int) := by omega
        have hN1 : N < 10000 := hN4 (by omega)
        clear hN4
        by_cases hlo : s[k].toNat < 48
        · have HR : Hid (num? s.data.toList a b = none) := num?_none_dig (all_take_s (l := s.data.toList) (k := k) (by rw [size_list]; exact hlt) (by rw [getElem_list]; exact dig_no (by omega); exact hlt))
          go_wp2
          go_ret2
          exact digRet_none (v := 0) HR.out rfl (by omega)
        · by_cases hhi : 57 < s[k].toNat
          · have HR : Hid (num? s.data.toList a b = none) := num?_none_dig (all_take_s (l := s.data.toList) (k := k) (by rw [size_list]; exact hlt) (by rw [getElem_list]; exact dig_no (by omega); exact hlt))
            go_wp2
            go_ret2
            exact digRet_none (v := 0) HR.out rfl (by omega)
          · have hd : digB s[k] = true := digB_iff.2 (by omega)
            obtain ⟨t, HT⟩ : ∃ t : Nat, Hid (s[k].toNat = 48 + t ∧ t ≤ 9) := ⟨s[k].toNat - 48, by show _ ∧ _; omega⟩
            have HT2 : Hid ((s[k].toNat : Int) = 48 + (t : Int)) := by show _ = _; have := HT.out.1; omega
            have ht9 : t ≤ 9 := HT.out.2
            have htk : s.data.toList.take (k + 1) = s.data.toList.take k ++ [s[k]] := by
              rw [List.take_succ_eq_append_getElem (by rw [size_list]; exact hlt), getElem_list]
            have HN : Hid (numL (s.data.toList.take (k + 1)) = 10 * N + t) := by
              show _ = _
              rw [htk, numL_snoc, HNUM.out]; have := HT.out.1; omega
            have HAL : Hid ((s.data.toList.take (k + 1)).all digB = true) := by
              show _ = _
              rw [htk, List.all_append, HALL.out]; simp [hd]
            have HL4 : Hid (k + 1 ≤ 4 → 10 * N + t < 10000) := fun h3 => by
              have h1 := numL_lt (s.data.toList.take (k + 1)) 4 (by rw [List.length_take]; omega) HAL.out
              rw [HN.out] at h1; exact h1
            have ht := HT2.out
            clear htk hd
            go_wp2
            go_round
            case rel => exact ⟨k + 1, 10 * N + t, by omega, by omega, by go_num, by show Value.int .i64 _ = _; congr 1; omega, by omega, HL4.out, HN.out, HAL.out⟩
            case measure => simp [intOf]; omega
      · have hkbi : ¬ (k : Int) ≤ (b : Int) := by omega
        have hsb : ¬ (s.size : Int) ≤ (b : Int) := by omega
        have HR : Hid (num? s.data.toList a b = none) := num?_none_len (by rw [size_list]; omega)
        have hsai : (a : Int) ≤ (s.size : Int) := by omega
        clear hN4
        go_wp2
        go_ret2
        exact digRet_none HR.out rfl hN
    · have hks : k = s.size := by omega
      have hnum2 := HNUM.out
      have hall2 := HALL.out
      rw [List.take_of_length_le (by rw [size_list]; omega)] at hnum2 hall2
      have HNUM2 := Lib.hid hnum2
      have HALL2 := Lib.hid hall2
      clear hnum2 hall2 hN4
      by_cases hsa : a ≤ s.size
      · have hsai : (a : Int) ≤ (s.size : Int) := by omega
        by_cases hsb : s.size ≤ b
        · have hsbi : (s.size : Int) ≤ (b : Int) := by omega
          have HR : Hid (num? s.data.toList a b = some N) := by
            show _ = _
            rw [num?_ok (by rw [size_list]; exact hsa) (by rw [size_list]; exact hsb) HALL2.out, HNUM2.out]
          clear hks
          go_wp2
          go_ret2
          exact digRet_some HR.out rfl hN
        · have hsbi : ¬ (s.size : Int) ≤ (b : Int) := by omega
          have HR : Hid (num? s.data.toList a b = none) := num?_none_len (by rw [size_list]; omega)
          clear hks
          go_wp2
          go_ret2
          exact digRet_none HR.out rfl hN
      · have hsai : ¬ (a : Int) ≤ (s.size : Int) := by omega
        have HR : Hid (num? s.data.toList a b = none) := num?_none_len (by rw [size_list]; omega)
        clear hks
        go_wp2
        go_ret2
        exact digRet_none HR.out rfl hN
def OffRet (o : Option Int) (w : World) (e : Ending) (w' : World) : Prop := ∃ v : Int, -100000000 ≤ v ∧ v ≤ 100000000 ∧ e = .returned (.tuple #[.int .i64 v, .bool o.isSome]) ∧ (∀ m, o = some m → m = v) ∧ w' = w
theorem offRet_none {o : Option Int} {i : Int} {w : World} (h : o = none) (h1 : -100000000 ≤ i) (h2 : i ≤ 100000000) : OffRet o w (.returned (.tuple #[.int .i64 i, .bool false])) w := by
  subst h; exact ⟨i, h1, h2, rfl, (fun _ e => by cases e), rfl⟩
theorem offRet_some {o : Option Int} {i j : Int} {w : World} (h : o = some j) (hi : i = j) (h1 : -100000000 ≤ i) (h2 : i ≤ 100000000) : OffRet o w (.returned (.tuple #[.int .i64 i, .bool true])) w := by
  subst h hi; exact ⟨i, h1, h2, rfl, (fun _ e => by injection e with e; exact e.symm), rfl⟩
theorem b4f {p q r s : Bool} (h : (p && q) = false) : (p && (q && (r && s))) = false := by cases p <;> cases q <;> simp_all
theorem b4g {p q r s : Bool} (h : (r && s) = false) : (p && (q && (r && s))) = false := by rw [h]; cases p <;> cases q <;> rfl
theorem b4t {p q r s : Bool} (h : (p && q) = true) (h2 : (r && s) = true) : (p && (q && (r && s))) = true := by rw [h2]; cases p <;> cases q <;> simp_all
theorem num4 (a b c d : UInt8) : num? [a, b, c, d] 4 4 = match num? [a, b] 2 2, num? [c, d] 2 2 with | some x, some y => some (100 * x + y) | _, _ => none := by
  cases hab : digB a && digB b
  · rw [num?_none_dig (l := [a, b]) (by simp only [List.all_cons, List.all_nil, Bool.and_true]; exact hab), num?_none_dig (l := [a, b, c, d]) (by simp only [List.all_cons, List.all_nil, Bool.and_true]; exact b4f hab)]
  · cases hcd : digB c && digB d
    · rw [num?_none_dig (l := [c, d]) (by simp only [List.all_cons, List.all_nil, Bool.and_true]; exact hcd), num?_none_dig (l := [a, b, c, d]) (by simp only [List.all_cons, List.all_nil, Bool.and_true]; exact b4g hcd)]
      cases num? [a, b] 2 2 <;> rfl
    · have h4 : [a, b, c, d].all digB = true := by simp only [List.all_cons, List.all_nil, Bool.and_true]; exact b4t hab hcd
      rw [num?_ok (l := [a, b]) (show 2 ≤ _ from Nat.le_refl _) (show _ ≤ 2 from Nat.le_refl _) (by simp only [List.all_cons, List.all_nil, Bool.and_true]; exact hab), num?_ok (l := [c, d]) (show 2 ≤ _ from Nat.le_refl _) (show _ ≤ 2 from Nat.le_refl _) (by simp only [List.all_cons, List.all_nil, Bool.and_true]; exact hcd), num?_ok (l := [a, b, c, d]) (show 4 ≤ _ from Nat.le_refl _) (show _ ≤ 4 from Nat.le_refl _) h4]
      show some _ = some _
      congr 1
      show 10 * (10 * (10 * (10 * 0 + (a.toNat - 48)) + (b.toNat - 48)) + (c.toNat - 48)) + (d.toNat - 48) = 100 * (10 * (10 * 0 + (a.toNat - 48)) + (b.toNat - 48)) + (10 * (10 * 0 + (c.toNat - 48)) + (d.toNat - 48))
      omega
theorem zone_word_s {l : List UInt8} (h : l = [71, 77, 84] ∨ l = [85, 84]) : zone? l = some 0 := by unfold zone?; rw [if_pos h]
theorem zone_short_s {l : List UInt8} (h : ¬ (l = [71, 77, 84] ∨ l = [85, 84])) (h2 : ¬ (l.length = 5 ∧ (l.head? = some 43 ∨ l.head? = some 45))) : zone? l = none := by unfold zone?; rw [if_neg h, if_neg h2]
theorem zone5 {l : List UInt8} (h : ¬ (l = [71, 77, 84] ∨ l = [85, 84])) (h2 : l.length = 5 ∧ (l.head? = some 43 ∨ l.head? = some 45)) :
    (num? ((l.drop 1).take 2) 2 2 = none → zone? l = none) ∧ (num? (l.drop 3) 2 2 = none → zone? l = none) ∧ ∀ x y, num? ((l.drop 1).take 2) 2 2 = some x → num? (l.drop 3) 2 2 = some y → (¬ y ≤ 59 → zone? l = none) ∧ (y ≤ 59 → zone? l = some (if l.head? = some 45 then -((60 * x + y : Nat) : Int) else ((60 * x + y : Nat) : Int))) := by
  have h3 := h2.1
  obtain ⟨z, a, b, c, d, rfl⟩ : ∃ z a b c d, l = [z, a, b, c, d] := by
    match l, h3 with
    | [z, a, b, c, d], _ => exact ⟨z, a, b, c, d, rfl⟩
  have h4 := num4 a b c d
  show (num? [a, b] 2 2 = none → _) ∧ (num? [c, d] 2 2 = none → _) ∧ ∀ x y, num? [a, b] 2 2 = some x → num? [c, d] 2 2 = some y → _
  have hz : zone? [z, a, b, c, d] = match num? [a, b, c, d] 4 4 with | some n => (if n % 100 ≤ 59 then some (if ([z, a, b, c, d] : List UInt8).head? = some 45 then -((60 * (n / 100) + n % 100 : Nat) : Int) else ((60 * (n / 100) + n % 100 : Nat) : Int)) else none) | none => none := by
    unfold zone?
    rw [if_neg h, if_pos h2]
    rfl
  refine ⟨fun e => by rw [hz, h4, e], fun e => by rw [hz, h4, e]; cases num? [a, b] 2 2 <;> rfl, fun x y e1 e2 => ?_⟩
  rw [e1, e2] at h4
  have hy : y < 10 ^ 2 := num?_lt e2
  rw [hz, h4]
  have k1 : (100 * x + y) / 100 = x := by omega
  have k2 : (100 * x + y) % 100 = y := by omega
  refine ⟨fun hn => ?_, fun hn => ?_⟩
  · show (if (100 * x + y) % 100 ≤ 59 then _ else none) = none
    rw [if_neg (by omega)]
  · show (if (100 * x + y) % 100 ≤ 59 then _ else none) = _
    rw [if_pos (by omega), k1, k2]
theorem lst_t_s {s : ByteArray} {l : List UInt8} (h : s.data.toList = l) : (s.toList == l) = true := by rw [ByteArray.toList_eq, h]; simp
theorem lst_f_s {s : ByteArray} {l : List UInt8} (h : s.data.toList ≠ l) : (s.toList == l) = false := by rw [ByteArray.toList_eq, beq_eq_false_iff_ne]; exact h
theorem head_at_s (s : ByteArray) (h : 0 < s.size) : s.data.toList.head? = some s[0] := by
  rw [List.head?_eq_getElem?, List.getElem?_eq_getElem (by rw [size_list]; exact h), getElem_list]
set_option maxRecDepth 100000 in
set_option maxHeartbeats 2000000 in
theorem l4Offset_any (s : ByteArray) (w : World) (hs : s.size ≤ 1073741824) :
    Calls Tryz.prog 42 #[.string s] w (OffRet (zone? s.data.toList) w) := by
  by_cases h1 : s.data.toList = [71, 77, 84]
  · have HR : Hid (zone? s.data.toList = some 0) := zone_word_s (.inl h1)
    have e1 := lst_t_s h1
    clear h1
    go_enter Tryz.func42, Tryz.ntmps42
    go_wp2
    go_ret2
    exact offRet_some HR.out rfl (by omega) (by omega)
  have e1 := lst_f_s h1
  by_cases h2 : s.data.toList = [85, 84]
  · have HR : Hid (zone? s.data.toList = some 0) := zone_word_s (.inr h2)
    have e2 := lst_t_s h2
    clear h1 h2
    go_enter Tryz.func42, Tryz.ntmps42
    go_wp2
    go_ret2
    exact offRet_some HR.out rfl (by omega) (by omega)
  have e2 := lst_f_s h2
  have HNW : Hid (¬ (s.data.toList = [71, 77, 84] ∨ s.data.toList = [85, 84])) := by
    rintro (h | h)
    · exact h1 h
    · exact h2 h
  clear h1 h2
  by_cases h5 : s.size = 5
  · have H5 := Lib.hid h5
    have hs0 : 0 < s.size := by omega
    have f5 : ((s.size : Int) != 5) = false := by rw [h5]; rfl
    have HH := Lib.hid (head_at_s s hs0)
    have hs5 : 5 ≤ s.size := by omega
    have hs6 : s.size ≤ 5 := by omega
    clear h5
    by_cases hq : s[0] = 43 ∨ s[0] = 45
    · have HZ := Lib.hid (zone5 HNW.out ⟨by rw [size_list]; exact H5.out, by rw [HH.out]; rcases hq with h | h <;> simp [h]⟩)
      have HA : Hid ((s.extract 1 3).data.toList = (s.data.toList.drop 1).take 2) := by show _ = _; rw [Lib.extract_data]
      have HB : Hid ((s.extract 3 s.size).data.toList = s.data.toList.drop 3) := by show _ = _; rw [Lib.extract_data]; exact List.take_of_length_le (by rw [List.length_drop, size_list]; exact Nat.le_refl _)
      have HZA : (s.extract 1 3).size ≤ 1073741824 := by rw [← size_list, HA.out, List.length_take]; omega
      have HZB : (s.extract 3 s.size).size ≤ 1073741824 := by rw [← size_list, HB.out, List.length_drop, size_list]; omega
      have HD1 : Hid (∀ u, Calls Tryz.prog 39 #[.string (s.extract 1 3), .int .i64 2, .int .i64 2] u (DigRet (num? ((s.data.toList.drop 1).take 2) 2 2) u)) := fun u => by
        have := l4Digits_any (s.extract 1 3) 2 2 u (by omega) (by omega) HZA
        rw [HA.out] at this; exact this
      have HD2 : Hid (∀ u, Calls Tryz.prog 39 #[.string (s.extract 3 s.size), .int .i64 2, .int .i64 2] u (DigRet (num? (s.data.toList.drop 3) 2 2) u)) := fun u => by
        have := l4Digits_any (s.extract 3 s.size) 2 2 u (by omega) (by omega) HZB
        rw [HB.out] at this; exact this
      generalize num? ((s.data.toList.drop 1).take 2) 2 2 = oa at *
      generalize num? (s.data.toList.drop 3) 2 2 = ob at *
      have HC : Hid (∀ h m : Nat, (∀ x, oa = some x → x = h) → (∀ x, ob = some x → x = m) → (oa = none ∨ ob = none ∨ ¬ m ≤ 59 → zone? s.data.toList = none) ∧ (oa.isSome = true → ob.isSome = true → m ≤ 59 → zone? s.data.toList = some (if s[0] = 45 then -((60 * h + m : Nat) : Int) else ((60 * h + m : Nat) : Int)))) := fun h m Hh Hm => by
        obtain ⟨z1, z2, z3⟩ := HZ.out
        cases oa with
        | none => exact ⟨fun _ => z1 rfl, fun e => by cases e⟩
        | some x =>
          cases ob with
          | none => exact ⟨fun _ => z2 rfl, fun _ e => by cases e⟩
          | some y =>
            obtain ⟨y1, y2⟩ := z3 x y rfl rfl
            have := Hh x rfl
            have := Hm y rfl
            subst x y
            refine ⟨fun e => ?_, fun _ _ e => ?_⟩
            · rcases e with e | e | e
              · cases e
              · cases e
              · exact y1 e
            · rw [y2 e, HH.out]; simp
      clear HZ HA HB HZA HZB
      rcases hq with hq | hq
      · have b1 : ((s[0].toNat : Int) != 43) = false := by rw [hq]; rfl
        have b3 : ((s[0].toNat : Int) == 45) = false := by rw [hq]; rfl
        have HN : Hid (∀ x y : Int, (if s[0] = 45 then x else y) = y) := fun x y => by rw [hq]; rfl
        clear hq
        go_enter Tryz.func42, Tryz.ntmps42
        go_wp2_with fail
        refine (HD1.out _).mono ?_
        rintro e w1 ⟨h, hh, rfl, Hh, rfl⟩
        have HHH := Lib.hid Hh
        clear Hh
        go_wp2_with fail
        refine (HD2.out _).mono ?_
        rintro e w1 ⟨m, hm, rfl, Hm, rfl⟩
        have HCC := Lib.hid (HC.out h m HHH.out Hm)
        clear Hm
        cases oa with
        | none =>
          have HR := Lib.hid (HCC.out.1 (.inl rfl))
          go_wp2
          go_ret2
          exact offRet_none HR.out (by omega) (by omega)
        | some x =>
          cases ob with
          | none =>
            have HR := Lib.hid (HCC.out.1 (.inr (.inl rfl)))
            go_wp2
            go_ret2
            exact offRet_none HR.out (by omega) (by omega)
          | some y =>
            by_cases h59 : m ≤ 59
            · have HR := Lib.hid (HCC.out.2 rfl rfl h59)
              have h59i : (m : Int) ≤ 59 := by omega
              rw [HN.out] at HR
              go_wp2
              go_ret2
              exact offRet_some HR.out (by omega) (by omega) (by omega)
            · have HR := Lib.hid (HCC.out.1 (.inr (.inr h59)))
              have h59i : decide ((m : Int) ≤ 59) = false := by rw [decide_eq_false_iff_not]; omega
              go_wp2
              go_ret2
              refine offRet_none HR.out ?_ ?_ <;> omega
      · have b1 : ((s[0].toNat : Int) != 43) = true := by rw [hq]; rfl
        have b2 : ((s[0].toNat : Int) != 45) = false := by rw [hq]; rfl
        have b3 : ((s[0].toNat : Int) == 45) = true := by rw [hq]; rfl
        have HN : Hid (∀ x y : Int, (if s[0] = 45 then x else y) = x) := fun x y => by rw [hq]; rfl
        clear hq
        go_enter Tryz.func42, Tryz.ntmps42
        go_wp2_with fail
        refine (HD1.out _).mono ?_
        rintro e w1 ⟨h, hh, rfl, Hh, rfl⟩
        have HHH := Lib.hid Hh
        clear Hh
        go_wp2_with fail
        refine (HD2.out _).mono ?_
        rintro e w1 ⟨m, hm, rfl, Hm, rfl⟩
        have HCC := Lib.hid (HC.out h m HHH.out Hm)
        clear Hm
        cases oa with
        | none =>
          have HR := Lib.hid (HCC.out.1 (.inl rfl))
          go_wp2
          go_ret2
          exact offRet_none HR.out (by omega) (by omega)
        | some x =>
          cases ob with
          | none =>
            have HR := Lib.hid (HCC.out.1 (.inr (.inl rfl)))
            go_wp2
            go_ret2
            exact offRet_none HR.out (by omega) (by omega)
          | some y =>
            by_cases h59 : m ≤ 59
            · have HR := Lib.hid (HCC.out.2 rfl rfl h59)
              have h59i : (m : Int) ≤ 59 := by omega
              rw [HN.out] at HR
              go_wp2
              go_ret2
              exact offRet_some HR.out (by omega) (by omega) (by omega)
            · have HR := Lib.hid (HCC.out.1 (.inr (.inr h59)))
              have h59i : decide ((m : Int) ≤ 59) = false := by rw [decide_eq_false_iff_not]; omega
              go_wp2
              go_ret2
              refine offRet_none HR.out ?_ ?_ <;> omega
    · have HR : Hid (zone? s.data.toList = none) := zone_short_s HNW.out (by rw [HH.out]; rintro ⟨_, h | h⟩ <;> simp at h <;> exact hq (by simp [h]))
      have b1 : ((s[0].toNat : Int) != 43) = true := bneq_t (fun e => hq (.inl e)) rfl
      have b2 : ((s[0].toNat : Int) != 45) = true := bneq_t (fun e => hq (.inr e)) rfl
      clear hq
      go_enter Tryz.func42, Tryz.ntmps42
      go_wp2
      go_ret2
      exact offRet_none HR.out (by omega) (by omega)
  · have HR : Hid (zone? s.data.toList = none) := zone_short_s HNW.out (by rw [size_list]; exact fun h => h5 h.1)
    have f5 : ((s.size : Int) != 5) = true := by rw [bne_iff_ne]; omega
    clear h5
    go_enter Tryz.func42, Tryz.ntmps42
    go_wp2
    go_ret2
    exact offRet_none HR.out (by omega) (by omega)
end Go.Proofs.YtboopbjdehdhgaaGreatDoor
