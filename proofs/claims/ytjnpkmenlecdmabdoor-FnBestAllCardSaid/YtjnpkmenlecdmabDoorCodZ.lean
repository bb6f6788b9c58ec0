/-
  Codes of bytes: all ways, and the best one: what the model's functions and the program's return. No statement is proved here.
-/
import Derived.Test.YtjnpkmenlecdmabDoorCodP
import Derived.Test.YtjnpkmenlecdmabDoorDrawC
import Derived.Outline
namespace Go.Proofs.YtjnpkmenlecdmabDoor
open Go.RowKit

theorem enc_own {o : Option (List (List UInt8))} {w : World} {e : Ending} {w' : World} (h : EncRet o w e w') : ∃ v, e = .returned (.tuple #[v, .bool o.isSome]) ∧ (∀ xs, o = some xs → OwnL w.heap.size v xs w') ∧ Below w.heap.size w w' := by
  obtain ⟨v, h1, h2, h3⟩ := h
  exact ⟨v, h1, fun xs e => by subst e; exact h2, h3⟩
/-- Lines and whether they serve. -/
def PlRet (o : Option (List (List UInt8))) (w : World) (e : Ending) (w' : World) : Prop := ∃ v, e = .returned (.tuple #[v, .bool o.isSome]) ∧ (∀ xs, o = some xs → OwnL w.heap.size v xs w') ∧ Below w.heap.size w w'
theorem plRet_none {o : Option (List (List UInt8))} {w w' : World} {v : Value} (h : o = none) (hb : Below w.heap.size w w') : PlRet o w (.returned (.tuple #[v, .bool false])) w' := by subst h; exact ⟨v, rfl, (fun _ e => by cases e), hb⟩
theorem plRet_some {o : Option (List (List UInt8))} {xs : List (List UInt8)} {w w' : World} {v : Value} (h : o = some xs) (ho : OwnL w.heap.size v xs w') (hb : Below w.heap.size w w') : PlRet o w (.returned (.tuple #[v, .bool true])) w' := by subst h; exact ⟨v, rfl, (fun _ e => by injection e with e; subst e; exact ho), hb⟩
set_option maxRecDepth 100000 in
set_option maxHeartbeats 1000000 in
theorem l5Plain_any (s : ByteArray) (w : World) (hs : s.size ≤ 1073741000) :
    Calls Tryd.prog 61 #[.string s] w (PlRet (encP s.data.toList) w) := by
  have HSM := Lib.hid (splitC_small 10 s.data.toList)
  have HD1 : Hid ((splitC 10 s.data.toList).all plOk = false → encP s.data.toList = none) := fun h => by unfold encP; rw [if_neg (fun c => by rw [h] at c; cases c.2)]
  have HD2 : Hid ((splitC 10 s.data.toList).all plOk = true → encP s.data.toList = if s.size ≤ 300 then some (splitC 10 s.data.toList) else none) := fun h => by
    unfold encP
    by_cases h3 : s.size ≤ 300
    · rw [if_pos h3, if_pos ⟨by rw [size_list]; exact h3, h⟩]
    · rw [if_neg h3, if_neg (fun c => h3 (by rw [← size_list]; exact c.1))]
  go_enter Tryd.func61, Tryd.ntmps61
  go_wp2_with fail
  refine (l2Parts_any s 10 _ hs).mono ?_
  rintro e w1 ⟨v1, rfl, ho1, hb1⟩
  obtain ⟨a1, c1, rfl, hr1, _⟩ := ho1.read
  generalize splitC 10 s.data.toList = ps at *
  have HPS : Hid (∀ p ∈ ps, p.length ≤ 1073741000) := fun p hp => by have := HSM.out.2 p hp; rw [size_list] at this; omega
  have hpl : ps.length ≤ 1073741824 := by have := HSM.out.1; rw [size_list] at this; omega
  have HR := Lib.hid hr1.2
  have HO := Lib.hid ho1
  clear hr1 ho1
  go_wp2_with fail
  go_loop [5] (fun i => ∃ k : Nat, k ≤ ps.length ∧ i = .int .i64 k ∧ ∀ j, (h : j < ps.length) → j < k → plOk ps[j] = true) (fun i => ps.length - (intOf i).toNat)
  case atStart => exact ⟨0, by omega, rfl, fun j _ h => by omega⟩
  case round =>
    obtain ⟨k, hk, rfl, hall⟩ := hrel
    have HA := Lib.hid hall
    clear hall
    by_cases hlt : k < ps.length
    · obtain ⟨b, off, rfl, hbl, hcell⟩ := HR.out.resolve_left (by omega)
      have c0 : w1.cell? ⟨b, off + k, none⟩ = some (.string (str ps[k])) := hcell k hlt
      have hzx : ps[k].length ≤ 1073741000 := HPS.out _ (List.getElem_mem hlt)
      have hkz := str_size ps[k]
      have HTV : Hid (∀ u, Calls Tryd.prog 38 #[.string (str ps[k])] u fun e w' => e = .returned (.bool (isText ps[k])) ∧ u = w') := fun u => by
        have := textValidS_any (str ps[k]) u (by rw [str_size]; unfold maxLen; omega)
        rw [str_list] at this; exact this
      have HBAD : Hid (plOk ps[k] = false → encP s.data.toList = none) := fun h => HD1.out (by rw [List.all_eq_false]; exact ⟨_, List.getElem_mem hlt, by simp [h]⟩)
      have hbE : Below w.heap.size w (w1.alloc (.cells #[] 9)) := hb1.alloc hb1.size _
      clear hcell
      by_cases h40 : 40 < ps[k].length
      · have HE := Lib.hid (HBAD.out (by unfold plOk; rw [decide_eq_false (by omega)]; simp))
        have h4 : 40 < (str ps[k]).size := by omega
        clear hkz h40
        generalize str ps[k] = x at *
        go_wp2
        go_ret2
        exact plRet_none HE.out hbE
      · have h4 : ¬ 40 < (str ps[k]).size := by omega
        cases ht : isText ps[k]
        · have HE := Lib.hid (HBAD.out (by unfold plOk; rw [ht]; rfl))
          rw [ht] at HTV
          clear ht hkz h40
          generalize str ps[k] = x at *
          go_wp2_with fail
          refine (HTV.out _).mono ?_
          rintro e w2 ⟨rfl, rfl⟩
          go_wp2
          go_ret2
          exact plRet_none HE.out hbE
        · have HK : Hid (plOk ps[k] = true) := plOk_iff.2 ⟨ht, by omega⟩
          rw [ht] at HTV
          clear ht hkz h40
          generalize str ps[k] = x at *
          go_wp2_with fail
          refine (HTV.out _).mono ?_
          rintro e w2 ⟨rfl, rfl⟩
          go_wp2
          go_round
          case rel => exact ⟨k + 1, by omega, by go_num, fun j hj hjk => by
            by_cases e : j = k
            · subst e; exact HK.out
            · exact HA.out j hj (by omega)⟩
          case measure => simp [intOf]; omega
    · have HE : Hid (ps.all plOk = true) := by
        show _ = _
        rw [List.all_eq_true]; intro x hx
        obtain ⟨j, hj, rfl⟩ := List.getElem_of_mem hx
        exact HA.out j hj (by omega)
      by_cases h300 : s.size ≤ 300
      · have HN : Hid (encP s.data.toList = some ps) := by show _ = _; rw [HD2.out HE.out, if_pos h300]
        have hd3 : decide ((s.size : Int) ≤ 300) = true := decide_eq_true (by omega)
        clear h300
        go_wp2
        go_ret2
        exact plRet_some HN.out HO.out hb1
      · have HN : Hid (encP s.data.toList = none) := by show _ = _; rw [HD2.out HE.out, if_neg h300]
        have hd3 : decide ((s.size : Int) ≤ 300) = false := decide_eq_false (by omega)
        clear h300
        go_wp2
        go_ret2
        exact plRet_none HN.out hb1
set_option maxRecDepth 100000 in
set_option maxHeartbeats 1000000 in
theorem encodeBytesS_any (s : ByteArray) (k : Int) (w : World) (hs : s.size ≤ 1073741000) :
    Calls Tryd.prog 35 #[.string s, .int .i64 k] w (EncRet (encW s.data.toList k) w) := by
  by_cases h0 : k = 0
  · subst h0
    have HW : Hid (encW s.data.toList 0 = encP s.data.toList) := rfl
    rw [HW.out]
    go_enter Tryd.func35, Tryd.ntmps35
    go_wp2_with fail
    refine (l5Plain_any s _ hs).mono ?_
    rintro e w1 ⟨v, rfl, ho, hb⟩
    cases hp : encP s.data.toList with
    | none =>
      have HP := Lib.hid hp
      clear hp ho
      go_wp2
      go_ret2
      exact encRet_none HP.out ((OwnL.empty w1).base hb.size) (hb.alloc hb.size _)
    | some xs =>
      have HO := Lib.hid (ho xs hp)
      have HP := Lib.hid hp
      clear hp ho
      go_wp2
      go_ret2
      exact encRet_some HP.out HO.out hb
  by_cases h1 : k = 1
  · subst h1
    have HW : Hid (encW s.data.toList 1 = encQ s.data.toList) := rfl
    rw [HW.out]
    go_enter Tryd.func35, Tryd.ntmps35
    go_wp2_with fail
    refine (encodeQuotedS_any s _ hs).mono ?_
    rintro e w1 ⟨v, rfl, ho, hb⟩
    go_wp2
    go_ret2
    exact ⟨v, rfl, ho, hb⟩
  by_cases h2 : k = 2
  · subst h2
    have HW : Hid (encW s.data.toList 2 = encB s.data.toList) := rfl
    rw [HW.out]
    go_enter Tryd.func35, Tryd.ntmps35
    go_wp2_with fail
    refine (encodeBaseS_any s _ hs).mono ?_
    rintro e w1 ⟨v, rfl, ho, hb⟩
    go_wp2
    go_ret2
    exact ⟨v, rfl, ho, hb⟩
  · have HN := Lib.hid (encW_other (b := s.data.toList) h0 h1 h2)
    have e0 : (k == 0) = false := by rw [beq_eq_false_iff_ne]; exact h0
    have e1 : (k == 1) = false := by rw [beq_eq_false_iff_ne]; exact h1
    have e2 : (k == 2) = false := by rw [beq_eq_false_iff_ne]; exact h2
    clear h0 h1 h2
    go_enter Tryd.func35, Tryd.ntmps35
    go_wp2
    go_ret2
    exact encRet_none HN.out (OwnL.empty w) ((Below.refl _ _).alloc (Nat.le_refl _) _)
theorem lenL_takeimpl (xs : List (List UInt8)) (k : Nat) (h : k < xs.length) : lenL (xs.take (k + 1)) = lenL (xs.take k) + (xs[k].length + 1) := by
  unfold lenL; rw [List.take_succ_eq_append_getElem h, List.map_append, List.sum_append]; simp
set_option maxRecDepth 100000 in
set_option maxHeartbeats 1000000 in
theorem lengthOfLines_any (a : Option Addr) (n c : Nat) (xs : List (List UInt8)) (w : World) (hr : RdL w a n xs) (hn : n ≤ 100000) (hx : ∀ x ∈ xs, x.length ≤ 1000) :
    Calls Tryd.prog 60 #[.slice a n c] w fun e w' => e = .returned (.int .i64 (lenL xs : Nat)) ∧ w' = w := by
  have HX := Lib.hid hx
  have HLEN := Lib.hid hr.1
  have HR := Lib.hid hr.2
  clear hx hr
  go_enter Tryd.func60, Tryd.ntmps60
  go_wp2_with fail
  go_loop [3, 8] (fun l i => ∃ (k t : Nat), k ≤ n ∧ i = .int .i64 k ∧ l = .int .i64 t ∧ lenL (xs.take k) = t ∧ t ≤ 1001 * k) (fun _ i => n - (intOf i).toNat)
  case atStart => exact ⟨0, 0, by omega, rfl, rfl, rfl, by omega⟩
  case round =>
    obtain ⟨k, t, hk, rfl, rfl, ht, htb⟩ := hrel
    have HT := Lib.hid ht
    clear ht
    by_cases hlt : k < n
    · have hkx : k < xs.length := by rw [HLEN.out]; exact hlt
      obtain ⟨b, off, rfl, hbl, hcell⟩ := HR.out.resolve_left (by omega)
      have c0 : w.cell? ⟨b, off + k, none⟩ = some (.string (str xs[k])) := hcell k hkx
      have hzx : (str xs[k]).size ≤ 1000 := by rw [str_size]; exact HX.out _ (List.getElem_mem hkx)
      have HN : Hid (lenL (xs.take (k + 1)) = t + ((str xs[k]).size + 1)) := by show _ = _; rw [lenL_takeimpl xs k hkx, HT.out, str_size]
      clear hcell
      generalize str xs[k] = x at *
      go_wp2
      go_round
      case rel => exact ⟨k + 1, _, by omega, by go_num, by go_num, HN.out, by omega⟩
      case measure => simp [intOf]; omega
    · have HF : Hid (lenL xs = t) := by show _ = _; rw [← HT.out, List.take_of_length_le (by rw [HLEN.out]; omega)]
      go_wp2
      go_ret
      exact ⟨ret_int (by rw [HF.out]), rfl⟩
theorem lenL_takespec (xs : List (List UInt8)) (k : Nat) (h : k < xs.length) : lenL (xs.take (k + 1)) = lenL (xs.take k) + (xs[k].length + 1) := by
  unfold lenL; rw [List.take_succ_eq_append_getElem h, List.map_append, List.sum_append]; simp
set_option maxRecDepth 100000 in
set_option maxHeartbeats 1000000 in
theorem l5Size_any (a : Option Addr) (n c : Nat) (xs : List (List UInt8)) (w : World) (hr : RdL w a n xs) (hn : n ≤ 100000) (hx : ∀ x ∈ xs, x.length ≤ 1000) :
    Calls Tryd.prog 63 #[.slice a n c] w fun e w' => e = .returned (.int .i64 (lenL xs : Nat)) ∧ w' = w := by
  have HX := Lib.hid hx
  have HLEN := Lib.hid hr.1
  have HR := Lib.hid hr.2
  clear hx hr
  go_enter Tryd.func63, Tryd.ntmps63
  go_wp2_with fail
  go_loop [3, 4] (fun l i => ∃ (k t : Nat), k ≤ n ∧ i = .int .i64 k ∧ l = .int .i64 t ∧ lenL (xs.take k) = t ∧ t ≤ 1001 * k) (fun _ i => n - (intOf i).toNat)
  case atStart => exact ⟨0, 0, by omega, rfl, rfl, rfl, by omega⟩
  case round =>
    obtain ⟨k, t, hk, rfl, rfl, ht, htb⟩ := hrel
    have HT := Lib.hid ht
    clear ht
    by_cases hlt : k < n
    · have hkx : k < xs.length := by rw [HLEN.out]; exact hlt
      obtain ⟨b, off, rfl, hbl, hcell⟩ := HR.out.resolve_left (by omega)
      have c0 : w.cell? ⟨b, off + k, none⟩ = some (.string (str xs[k])) := hcell k hkx
      have hzx : (str xs[k]).size ≤ 1000 := by rw [str_size]; exact HX.out _ (List.getElem_mem hkx)
      have HN : Hid (lenL (xs.take (k + 1)) = t + ((str xs[k]).size + 1)) := by show _ = _; rw [lenL_takespec xs k hkx, HT.out, str_size]
      clear hcell
      generalize str xs[k] = x at *
      go_wp2
      go_round
      case rel => exact ⟨k + 1, _, by omega, by go_num, by go_num, HN.out, by omega⟩
      case measure => simp [intOf]; omega
    · have HF : Hid (lenL xs = t) := by show _ = _; rw [← HT.out, List.take_of_length_le (by rw [HLEN.out]; omega)]
      go_wp2
      go_ret
      exact ⟨ret_int (by rw [HF.out]), rfl⟩
def BestRet (o : Option Nat) (w : World) (e : Ending) (w' : World) : Prop := e = .returned (.tuple #[.int .i64 ((o.getD 0 : Nat) : Int), .bool o.isSome]) ∧ Below w.heap.size w w'
theorem bestRet_none {o : Option Nat} {w w' : World} (h : o = none) (hb : Below w.heap.size w w') : BestRet o w (.returned (.tuple #[.int .i64 0, .bool false])) w' := by subst h; exact ⟨rfl, hb⟩
theorem bestRet_some {o : Option Nat} {n : Nat} {x : Int} {w w' : World} (h : o = some n) (hx : x = (n : Int)) (hb : Below w.heap.size w w') : BestRet o w (.returned (.tuple #[.int .i64 x, .bool true])) w' := by subst h hx; exact ⟨rfl, hb⟩
set_option maxRecDepth 100000 in
set_option maxHeartbeats 2000000 in
theorem bestCode_any (s : ByteArray) (w : World) (hmx : ∃ m, w.cell? ⟨1, 0, none⟩ = some (.int .i64 m)) (hs : s.size ≤ 1073741000) :
    Calls Tryd.prog 28 #[.string s] w (BestRet (best s.data.toList) w) := by
  by_cases h300 : 300 < s.size
  · have HN : Hid (best s.data.toList = none) := by show _ = _; unfold best; rw [if_pos (by rw [size_list]; exact h300)]
    go_enter Tryd.func28, Tryd.ntmps28
    go_wp2
    go_ret2
    exact bestRet_none HN.out (Below.refl _ _)
  · have HB : Hid (best s.data.toList = if (encP s.data.toList).isSome then some 0 else if lenL (chop (b64 s.data.toList)) < lenL (qgo [] s.data.toList) then some 2 else some 1) := by show _ = _; unfold best; rw [if_neg (by rw [size_list]; exact h300)]
    have HEQ : Hid (encQ s.data.toList = some (qgo [] s.data.toList)) := encQ_in (by rw [size_list]; omega)
    have HEB : Hid (encB s.data.toList = some (chop (b64 s.data.toList))) := encB_in (by rw [size_list]; omega)
    have HSQ := encQ_small s.data.toList
    have HSB := encB_small s.data.toList
    rw [HEQ.out] at HSQ
    rw [HEB.out] at HSB
    obtain ⟨hq1, hq2⟩ : (qgo [] s.data.toList).length ≤ 500 ∧ ∀ x ∈ qgo [] s.data.toList, x.length ≤ 40 := HSQ
    obtain ⟨hc1, hc2⟩ : (chop (b64 s.data.toList)).length ≤ 500 ∧ ∀ x ∈ chop (b64 s.data.toList), x.length ≤ 40 := HSB
    have HQ2 : Hid (∀ x ∈ qgo [] s.data.toList, x.length ≤ 1000) := fun x hx => Nat.le_trans (hq2 x hx) (by omega)
    have HC2 : Hid (∀ x ∈ chop (b64 s.data.toList), x.length ≤ 1000) := fun x hx => Nat.le_trans (hc2 x hx) (by omega)
    have HFQ : Hid (∀ u, Below w.heap.size w u → Calls Tryd.prog 20 #[.string s] u (EncRet (some (qgo [] s.data.toList)) u)) := fun u hu => by rw [← HEQ.out]; exact encodeQuoted_any s u (mx_below hmx hu) hs
    have HFB : Hid (∀ u, Calls Tryd.prog 32 #[.string s] u (EncRet (some (chop (b64 s.data.toList))) u)) := fun u => by rw [← HEB.out]; exact encodeBase_any s u hs
    clear hq2 hc2
    generalize qgo [] s.data.toList = Q at *
    generalize chop (b64 s.data.toList) = C at *
    go_enter Tryd.func28, Tryd.ntmps28
    go_wp2_with fail
    refine ((encodePlain_any s _ hmx hs)).mono ?_
    rintro e w1 ⟨v, rfl, _, hb1⟩
    cases hp : encP s.data.toList with
    | some xs =>
      have HN : Hid (best s.data.toList = some 0) := by show _ = _; rw [HB.out, hp]; rfl
      clear hp
      go_wp2
      go_ret2
      exact bestRet_some HN.out rfl hb1
    | none =>
      have HN : Hid (best s.data.toList = if lenL C < lenL Q then some 2 else some 1) := by show _ = _; rw [HB.out, hp]; rfl
      clear hp
      go_wp2_with fail
      refine (HFQ.out _ hb1).mono ?_
      rintro e w2 ⟨v2, rfl, ho2, hb2⟩
      obtain ⟨a2, c2, rfl, hr2, _⟩ := ho2.read
      have HR2 : Hid (RdL w2 a2 Q.length Q) := hr2
      have hB2 := nx hb1 hb2
      have hlz : ((some Q).getD []).length = Q.length := rfl
      rw [hlz]
      clear ho2 hr2 hb2 hlz
      go_wp2_with fail
      refine (HFB.out _).mono ?_
      rintro e w3 ⟨v3, rfl, ho3, hb3⟩
      obtain ⟨a3, c3, rfl, hr3, _⟩ := ho3.read
      have HR3 : Hid (RdL w3 a3 C.length C) := hr3
      have HR23 := Lib.hid (HR2.out.below hb3)
      have hB3 := nx hB2 hb3
      have hlz : ((some C).getD []).length = C.length := rfl
      rw [hlz]
      clear ho3 hr3 hb3 hlz
      have HLQ := Lib.hid (lengthOfLines_any a2 Q.length c2 Q w3 HR23.out (by omega) HQ2.out)
      have HLC := Lib.hid (lengthOfLines_any a3 C.length c3 C w3 HR3.out (by omega) HC2.out)
      generalize lenL Q = LQ at *
      generalize lenL C = LC at *
      go_wp2_with fail
      refine (HLC.out).mono ?_
      rintro e w4 ⟨rfl, rfl⟩
      go_wp2_with fail
      refine (HLQ.out).mono ?_
      rintro e w4 ⟨rfl, rfl⟩
      by_cases hlt : LC < LQ
      · rw [if_pos hlt] at HN
        go_wp2
        go_ret2
        exact bestRet_some HN.out rfl hB3
      · rw [if_neg hlt] at HN
        go_wp2
        go_ret2
        exact bestRet_some HN.out rfl hB3
set_option maxRecDepth 100000 in
set_option maxHeartbeats 2000000 in
theorem bestCodeS_any (s : ByteArray) (w : World) (hs : s.size ≤ 1073741000) :
    Calls Tryd.prog 29 #[.string s] w (BestRet (best s.data.toList) w) := by
  by_cases h300 : 300 < s.size
  · have HN : Hid (best s.data.toList = none) := by show _ = _; unfold best; rw [if_pos (by rw [size_list]; exact h300)]
    go_enter Tryd.func29, Tryd.ntmps29
    go_wp2
    go_ret2
    exact bestRet_none HN.out (Below.refl _ _)
  · have HB : Hid (best s.data.toList = if (encP s.data.toList).isSome then some 0 else if lenL (chop (b64 s.data.toList)) < lenL (qgo [] s.data.toList) then some 2 else some 1) := by show _ = _; unfold best; rw [if_neg (by rw [size_list]; exact h300)]
    have HEQ : Hid (encQ s.data.toList = some (qgo [] s.data.toList)) := encQ_in (by rw [size_list]; omega)
    have HEB : Hid (encB s.data.toList = some (chop (b64 s.data.toList))) := encB_in (by rw [size_list]; omega)
    have HSQ := encQ_small s.data.toList
    have HSB := encB_small s.data.toList
    rw [HEQ.out] at HSQ
    rw [HEB.out] at HSB
    obtain ⟨hq1, hq2⟩ : (qgo [] s.data.toList).length ≤ 500 ∧ ∀ x ∈ qgo [] s.data.toList, x.length ≤ 40 := HSQ
    obtain ⟨hc1, hc2⟩ : (chop (b64 s.data.toList)).length ≤ 500 ∧ ∀ x ∈ chop (b64 s.data.toList), x.length ≤ 40 := HSB
    have HQ2 : Hid (∀ x ∈ qgo [] s.data.toList, x.length ≤ 1000) := fun x hx => Nat.le_trans (hq2 x hx) (by omega)
    have HC2 : Hid (∀ x ∈ chop (b64 s.data.toList), x.length ≤ 1000) := fun x hx => Nat.le_trans (hc2 x hx) (by omega)
    have HFQ : Hid (∀ u, Below w.heap.size w u → Calls Tryd.prog 21 #[.string s] u (EncRet (some (qgo [] s.data.toList)) u)) := fun u hu => by rw [← HEQ.out]; exact encodeQuotedS_any s u hs
    have HFB : Hid (∀ u, Calls Tryd.prog 62 #[.string s] u (EncRet (some (chop (b64 s.data.toList))) u)) := fun u => by rw [← HEB.out]; exact encodeBaseS_any s u hs
    clear hq2 hc2
    generalize qgo [] s.data.toList = Q at *
    generalize chop (b64 s.data.toList) = C at *
    go_enter Tryd.func29, Tryd.ntmps29
    go_wp2_with fail
    refine ((l5Plain_any s _ hs)).mono ?_
    rintro e w1 ⟨v, rfl, _, hb1⟩
    cases hp : encP s.data.toList with
    | some xs =>
      have HN : Hid (best s.data.toList = some 0) := by show _ = _; rw [HB.out, hp]; rfl
      clear hp
      go_wp2
      go_ret2
      exact bestRet_some HN.out rfl hb1
    | none =>
      have HN : Hid (best s.data.toList = if lenL C < lenL Q then some 2 else some 1) := by show _ = _; rw [HB.out, hp]; rfl
      clear hp
      go_wp2_with fail
      refine (HFQ.out _ hb1).mono ?_
      rintro e w2 ⟨v2, rfl, ho2, hb2⟩
      obtain ⟨a2, c2, rfl, hr2, _⟩ := ho2.read
      have HR2 : Hid (RdL w2 a2 Q.length Q) := hr2
      have hB2 := nx hb1 hb2
      have hlz : ((some Q).getD []).length = Q.length := rfl
      rw [hlz]
      clear ho2 hr2 hb2 hlz
      go_wp2_with fail
      refine (HFB.out _).mono ?_
      rintro e w3 ⟨v3, rfl, ho3, hb3⟩
      obtain ⟨a3, c3, rfl, hr3, _⟩ := ho3.read
      have HR3 : Hid (RdL w3 a3 C.length C) := hr3
      have HR23 := Lib.hid (HR2.out.below hb3)
      have hB3 := nx hB2 hb3
      have hlz : ((some C).getD []).length = C.length := rfl
      rw [hlz]
      clear ho3 hr3 hb3 hlz
      have HLQ := Lib.hid (l5Size_any a2 Q.length c2 Q w3 HR23.out (by omega) HQ2.out)
      have HLC := Lib.hid (l5Size_any a3 C.length c3 C w3 HR3.out (by omega) HC2.out)
      generalize lenL Q = LQ at *
      generalize lenL C = LC at *
      go_wp2_with fail
      refine (HLQ.out).mono ?_
      rintro e w4 ⟨rfl, rfl⟩
      go_wp2_with fail
      refine (HLC.out).mono ?_
      rintro e w4 ⟨rfl, rfl⟩
      by_cases hlt : LC < LQ
      · rw [if_pos hlt] at HN
        go_wp2
        go_ret2
        exact bestRet_some HN.out rfl hB3
      · rw [if_neg hlt] at HN
        go_wp2
        go_ret2
        exact bestRet_some HN.out rfl hB3
theorem encP_small (b : List UInt8) : ((encP b).getD []).length ≤ 500 ∧ ∀ x ∈ (encP b).getD [], x.length ≤ 40 := by
  unfold encP
  split
  · rename_i h
    have := split_count b
    exact ⟨by show (splitC 10 b).length ≤ _; have h2 : nls b ≤ b.length := List.count_le_length; have := h.1; omega, fun x hx => (plOk_iff.1 (List.all_eq_true.1 h.2 x hx)).2⟩
  · simp
theorem encW_small (b : List UInt8) (k : Int) : ((encW b k).getD []).length ≤ 500 ∧ ∀ x ∈ (encW b k).getD [], x.length ≤ 40 := by
  unfold encW
  split
  · exact encP_small b
  · split
    · exact encQ_small b
    · split
      · exact encB_small b
      · simp
end Go.Proofs.YtjnpkmenlecdmabDoor
