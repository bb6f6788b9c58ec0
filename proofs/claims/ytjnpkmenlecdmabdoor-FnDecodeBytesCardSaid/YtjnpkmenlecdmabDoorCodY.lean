/-
  Codes of bytes: all ways read by the model. No statement is proved here.
-/
import Derived.Test.YtjnpkmenlecdmabDoorCodP
import Derived.Outline
namespace Go.Proofs.YtjnpkmenlecdmabDoor
open Go.RowKit

theorem joinNl_snoc : ∀ (xs : List (List UInt8)) (x : List UInt8), joinNl (xs ++ [x]) = if xs = [] then x else joinNl xs ++ 10 :: x
  | [], x => by simp [joinNl]
  | [y], x => by simp [joinNl]
  | y :: z :: xs, x => by
    show y ++ 10 :: joinNl ((z :: xs) ++ [x]) = _
    rw [joinNl_snoc (z :: xs) x, if_neg (by simp), if_neg (by simp)]
    show y ++ 10 :: (joinNl (z :: xs) ++ 10 :: x) = (y ++ 10 :: joinNl (z :: xs)) ++ 10 :: x
    simp
theorem joinNl_take (xs : List (List UInt8)) (k : Nat) (h : k < xs.length) : joinNl (xs.take (k + 1)) = if k = 0 then xs[k] else joinNl (xs.take k) ++ 10 :: xs[k] := by
  rw [List.take_succ_eq_append_getElem h, joinNl_snoc]
  by_cases hk : k = 0
  · rw [if_pos hk, if_pos (by rw [hk]; rfl)]
  · rw [if_neg hk, if_neg (by intro e; have := congrArg List.length e; rw [List.length_take, List.length_nil] at this; omega)]
theorem joinNl_mono (xs : List (List UInt8)) : ∀ (k : Nat), k ≤ xs.length → (joinNl (xs.take k)).length ≤ (joinNl xs).length := by
  intro k hk
  have key : ∀ m, k + m ≤ xs.length → (joinNl (xs.take k)).length ≤ (joinNl (xs.take (k + m))).length := by
    intro m
    induction m with
    | zero => intro _; exact Nat.le_refl _
    | succ m ih =>
      intro h
      have h1 := ih (by omega)
      rw [← Nat.add_assoc, joinNl_take xs (k + m) (by omega)]
      by_cases h0 : k + m = 0
      · obtain ⟨rfl, rfl⟩ : k = 0 ∧ m = 0 := by omega
        simp [joinNl]
      · rw [if_neg h0, List.length_append, List.length_cons]; omega
  have := key (xs.length - k) (by omega)
  rw [show k + (xs.length - k) = xs.length by omega, List.take_length] at this
  exact this
set_option maxRecDepth 100000 in
set_option maxHeartbeats 2000000 in
theorem decodeBytesS_any (a : Option Addr) (n c : Nat) (xs : List (List UInt8)) (q : Int) (w : World) (hr : RdL w a n xs) (hn : n ≤ 1073741824) (hx : ∀ x ∈ xs, x.length ≤ 1073741000) :
    Calls Tryd.prog 37 #[.slice a n c, .int .i64 q] w (DecRet (decW xs q) w) := by
  by_cases h1 : q = 1
  · subst h1
    have HW : Hid (decW xs 1 = decQ xs) := rfl
    rw [HW.out]
    go_enter Tryd.func37, Tryd.ntmps37
    go_wp2_with fail
    refine (decodeQuotedS_any a n c xs _ hr hn hx).mono ?_
    rintro e w1 ⟨rfl, hb⟩
    go_wp2
    go_ret2
    exact ⟨rfl, hb⟩
  by_cases h2 : q = 2
  · subst h2
    have HW : Hid (decW xs 2 = decB xs) := rfl
    rw [HW.out]
    go_enter Tryd.func37, Tryd.ntmps37
    go_wp2_with fail
    refine (decodeBaseS_any a n c xs _ hr hn hx).mono ?_
    rintro e w1 ⟨rfl, hb⟩
    go_wp2
    go_ret2
    exact ⟨rfl, hb⟩
  have HDD : Hid (decW xs q = if q = 0 then decP xs else none) := by
    show _ = _; unfold decW
    by_cases h0 : q = 0
    · rw [if_pos h0, if_pos h0]
    · rw [if_neg h0, if_neg h0, if_neg h1, if_neg h2]
  have HBADL : Hid (xs.all plOk = false → decW xs q = none) := fun h => by
    rw [HDD.out]
    split
    · unfold decP; rw [if_neg (fun c => by rw [h] at c; cases c.2)]
    · rfl
  have HLONG : Hid (300 < (joinNl xs).length → decW xs q = none) := fun h => by
    rw [HDD.out]
    split
    · unfold decP
      split
      · exact lim_out h
      · rfl
    · rfl
  have e1 : (q == 1) = false := by rw [beq_eq_false_iff_ne]; exact h1
  have e2 : (q == 2) = false := by rw [beq_eq_false_iff_ne]; exact h2
  have HX := Lib.hid hx
  have HLEN := Lib.hid hr.1
  have HR := Lib.hid hr.2
  clear hx hr h1 h2
  go_enter Tryd.func37, Tryd.ntmps37
  go_wp2_with fail
  go_loop [6, 7] (fun o i => ∃ (k : Nat) (t : List UInt8), k ≤ n ∧ i = .int .i64 k ∧ o = .string (str t) ∧ t = joinNl (xs.take k) ∧ t.length ≤ 300 ∧ ∀ j, (h : j < xs.length) → j < k → plOk xs[j] = true) (fun _ i => n - (intOf i).toNat)
  case atStart => exact ⟨0, [], by omega, rfl, rfl, rfl, by simp, fun j _ h => by omega⟩
  case round =>
    obtain ⟨k, t, hk, rfl, rfl, ht, htl, hall⟩ := hrel
    have HT := Lib.hid ht
    have HA := Lib.hid hall
    have htz := str_size t
    clear ht hall
    by_cases hlt : k < n
    · have hkx : k < xs.length := by rw [HLEN.out]; exact hlt
      obtain ⟨b, off, rfl, hbl, hcell⟩ := HR.out.resolve_left (by omega)
      have c0 : w.cell? ⟨b, off + k, none⟩ = some (.string (str xs[k])) := hcell k hkx
      have hzx : xs[k].length ≤ 1073741000 := HX.out _ (List.getElem_mem hkx)
      have hkz := str_size xs[k]
      have HTV : Hid (∀ u, Calls Tryd.prog 38 #[.string (str xs[k])] u fun e w' => e = .returned (.bool (isText xs[k])) ∧ u = w') := fun u => by
        have := textValidS_any (str xs[k]) u (by rw [str_size]; unfold maxLen; omega)
        rw [str_list] at this; exact this
      have HBAD : Hid (plOk xs[k] = false → decW xs q = none) := fun h => HBADL.out (by rw [List.all_eq_false]; exact ⟨_, List.getElem_mem hkx, by simp [h]⟩)
      have HJN := Lib.hid (joinNl_take xs k hkx)
      have HMO := Lib.hid (joinNl_mono xs (k + 1) (by omega))
      obtain ⟨t2, ht2⟩ : ∃ t2, t2 = joinNl (xs.take (k + 1)) := ⟨_, rfl⟩
      have HT2 := Lib.hid ht2
      clear hcell ht2
      by_cases hk0 : k = 0
      · have hnil : t = [] := by rw [HT.out, hk0]; rfl
        have HS2 : Hid (str t ++ str xs[k] = str t2) := by show _ = _; rw [HT2.out, HJN.out, if_pos hk0, str_app, hnil]; rfl
        clear hnil
        have hap : (str t ++ str xs[k]).size = t.length + xs[k].length := by rw [ByteArray.size_append, htz, hkz]
        have HSZ : Hid (t2.length = t.length + xs[k].length) := by have := congrArg ByteArray.size HS2.out; rw [hap, str_size] at this; exact this.symm
        have hki : ¬ ((0 : Int) < (k : Int)) := by omega
        clear hk0
        cases htx : isText xs[k]
        · have HE := Lib.hid (HBAD.out (by unfold plOk; rw [htx]; rfl))
          rw [htx] at HTV
          have hzx' := hzx
          clear htx
          generalize xs[k].length = zl at *
          generalize str xs[k] = x at *
          go_wp2_with fail
          refine (HTV.out _).mono ?_
          rintro e w2 ⟨rfl, rfl⟩
          go_wp2
          go_ret2
          exact decRet_none HE.out rfl (Below.refl _ _)
        · by_cases h40 : 40 < xs[k].length
          · have HE := Lib.hid (HBAD.out (by unfold plOk; rw [decide_eq_false (by omega)]; simp))
            rw [htx] at HTV
            clear htx
            generalize xs[k].length = zl at *
            generalize str xs[k] = x at *
            go_wp2_with fail
            refine (HTV.out _).mono ?_
            rintro e w2 ⟨rfl, rfl⟩
            go_wp2
            go_ret2
            exact decRet_none HE.out rfl (Below.refl _ _)
          · have HK : Hid (plOk xs[k] = true) := plOk_iff.2 ⟨htx, by omega⟩
            rw [htx] at HTV
            clear htx
            by_cases h300 : 300 < t2.length
            · have HE := Lib.hid (HLONG.out (by have := HMO.out; rw [← HT2.out] at this; omega))
              have h3 := HSZ.out
              have h3' : 300 < t.length + xs[k].length := by omega
              clear h3 h300
              generalize xs[k].length = zl at *
              generalize str xs[k] = x at *
              go_wp2_with fail
              refine (HTV.out _).mono ?_
              rintro e w2 ⟨rfl, rfl⟩
              go_wp2
              go_ret2
              exact decRet_none HE.out rfl (Below.refl _ _)
            · have h3 := HSZ.out
              have h3' : ¬ 300 < t.length + xs[k].length := by omega
              clear h3
              have HKA : Hid (∀ j, (h : j < xs.length) → j < k + 1 → plOk xs[j] = true) := fun j hj hjk => by
                by_cases e : j = k
                · subst e; exact HK.out
                · exact HA.out j hj (by omega)
              generalize xs[k].length = zl at *
              generalize str xs[k] = x at *
              go_wp2_with fail
              refine (HTV.out _).mono ?_
              rintro e w2 ⟨rfl, rfl⟩
              go_wp2
              go_round
              case rel => exact ⟨k + 1, t2, by omega, by go_num, by rw [HS2.out], HT2.out, by omega, HKA.out⟩
              case measure => simp [intOf]; omega
      · have HS2 : Hid (str t ++ (ByteArray.mk #[10]) ++ str xs[k] = str t2) := by show _ = _; rw [HT2.out, HJN.out, if_neg hk0, show (ByteArray.mk #[10]) = str [10] from rfl, str_app, str_app, HT.out]; simp
        have hap1 : (str t ++ (ByteArray.mk #[10])).size = t.length + 1 := by rw [ByteArray.size_append, htz]; rfl
        have hap : (str t ++ (ByteArray.mk #[10]) ++ str xs[k]).size = t.length + 1 + xs[k].length := by rw [ByteArray.size_append, hap1, hkz]
        have HSZ : Hid (t2.length = t.length + 1 + xs[k].length) := by have := congrArg ByteArray.size HS2.out; rw [hap, str_size] at this; exact this.symm
        have hki : ((0 : Int) < (k : Int)) := by omega
        clear hk0
        cases htx : isText xs[k]
        · have HE := Lib.hid (HBAD.out (by unfold plOk; rw [htx]; rfl))
          rw [htx] at HTV
          have hzx' := hzx
          clear htx
          generalize xs[k].length = zl at *
          generalize str xs[k] = x at *
          go_wp2_with fail
          refine (HTV.out _).mono ?_
          rintro e w2 ⟨rfl, rfl⟩
          go_wp2
          go_ret2
          exact decRet_none HE.out rfl (Below.refl _ _)
        · by_cases h40 : 40 < xs[k].length
          · have HE := Lib.hid (HBAD.out (by unfold plOk; rw [decide_eq_false (by omega)]; simp))
            rw [htx] at HTV
            clear htx
            generalize xs[k].length = zl at *
            generalize str xs[k] = x at *
            go_wp2_with fail
            refine (HTV.out _).mono ?_
            rintro e w2 ⟨rfl, rfl⟩
            go_wp2
            go_ret2
            exact decRet_none HE.out rfl (Below.refl _ _)
          · have HK : Hid (plOk xs[k] = true) := plOk_iff.2 ⟨htx, by omega⟩
            rw [htx] at HTV
            clear htx
            by_cases h300 : 300 < t2.length
            · have HE := Lib.hid (HLONG.out (by have := HMO.out; rw [← HT2.out] at this; omega))
              have h3 := HSZ.out
              have h3' : 300 < t.length + 1 + xs[k].length := by omega
              clear h3 h300
              generalize xs[k].length = zl at *
              generalize str xs[k] = x at *
              go_wp2_with fail
              refine (HTV.out _).mono ?_
              rintro e w2 ⟨rfl, rfl⟩
              go_wp2
              go_ret2
              exact decRet_none HE.out rfl (Below.refl _ _)
            · have h3 := HSZ.out
              have h3' : ¬ 300 < t.length + 1 + xs[k].length := by omega
              clear h3
              have HKA : Hid (∀ j, (h : j < xs.length) → j < k + 1 → plOk xs[j] = true) := fun j hj hjk => by
                by_cases e : j = k
                · subst e; exact HK.out
                · exact HA.out j hj (by omega)
              generalize xs[k].length = zl at *
              generalize str xs[k] = x at *
              go_wp2_with fail
              refine (HTV.out _).mono ?_
              rintro e w2 ⟨rfl, rfl⟩
              go_wp2
              go_round
              case rel => exact ⟨k + 1, t2, by omega, by go_num, by rw [HS2.out], HT2.out, by omega, HKA.out⟩
              case measure => simp [intOf]; omega
    · have HALL : Hid (xs.all plOk = true) := by
        show _ = _
        rw [List.all_eq_true]; intro x hx
        obtain ⟨j, hj, rfl⟩ := List.getElem_of_mem hx
        exact HA.out j hj (by rw [HLEN.out] at hj; omega)
      have HTJ : Hid (t = joinNl xs) := by show _ = _; rw [HT.out, List.take_of_length_le (by rw [HLEN.out]; omega)]
      by_cases h0 : q = 0
      · have e0 : (q == 0) = true := by rw [beq_iff_eq]; exact h0
        have e0' : (q != 0) = false := by rw [bne, e0]; rfl
        by_cases hn0 : n = 0
        · have en : ((n : Int) == 0) = true := by rw [beq_iff_eq]; omega
          have HN : Hid (decW xs q = none) := by
            show _ = _; rw [HDD.out, if_pos h0]; unfold decP
            rw [if_neg (fun c => c.1 (List.length_eq_zero_iff.1 (by rw [HLEN.out]; exact hn0)))]
          clear h0 hn0
          go_wp2
          go_ret2
          exact decRet_none HN.out rfl (Below.refl _ _)
        · have en : ((n : Int) == 0) = false := by rw [beq_eq_false_iff_ne]; omega
          have HN : Hid (decW xs q = some t) := by
            show _ = _; rw [HDD.out, if_pos h0]; unfold decP
            rw [if_pos ⟨by intro e; apply hn0; rw [← HLEN.out, e]; rfl, HALL.out⟩, ← HTJ.out, lim_in htl]
          clear h0 hn0
          go_wp2
          go_ret2
          exact decRet_some HN.out rfl (Below.refl _ _)
      · have e0' : (q != 0) = true := by rw [bne_iff_ne]; exact h0
        have HN : Hid (decW xs q = none) := by show _ = _; rw [HDD.out, if_neg h0]
        clear h0
        go_wp2
        go_ret2
        exact decRet_none HN.out rfl (Below.refl _ _)
end Go.Proofs.YtjnpkmenlecdmabDoor
