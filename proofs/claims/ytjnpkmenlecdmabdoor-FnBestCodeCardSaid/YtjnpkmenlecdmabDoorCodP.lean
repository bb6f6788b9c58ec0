/-
  Codes of bytes: plain lines and all ways: what the program's functions return. No statement is proved here.
-/
import Derived.Test.YtjnpkmenlecdmabDoorCodE
import Derived.Test.YtjnpkmenlecdmabDoorCodV
import Derived.Test.YtjnpkmenlecdmabDoorAddrS
import Derived.Lib.Join
import Derived.Outline
namespace Go.Proofs.YtjnpkmenlecdmabDoor
open Go.RowKit

theorem splitOwnC_any (s : ByteArray) (c : UInt8) (w : World) (hmx : ∃ m, w.cell? ⟨1, 0, none⟩ = some (.int .i64 m)) (hs : s.size ≤ 1073741824) :
    Calls Tryd.prog 51 #[.string s, .string ⟨#[c]⟩] w fun e w' => e = .returned (.slice (some ⟨w.heap.size, 0, none⟩) (splitC c s.data.toList).length (splitC c s.data.toList).length) ∧ OwnL w.heap.size (.slice (some ⟨w.heap.size, 0, none⟩) (splitC c s.data.toList).length (splitC c s.data.toList).length) (splitC c s.data.toList) w' ∧ Below w.heap.size w w' := by
  obtain ⟨m, hm⟩ := hmx
  refine (Tryd.strings_Split s ⟨#[c]⟩ m w (by omega) hm (Nat.le_refl 1)).mono ?_
  rintro e w' ⟨rfl, rfl⟩
  have hd : (Lib.splitB ⟨#[c]⟩ 0 (Lib.countB s ⟨#[c]⟩) s).map (·.data.toList) = splitC c s.data.toList := by
    rw [Lib.splitB_data]
    have : Lib.countB s ⟨#[c]⟩ = s.data.toList.count c := Lib.count_one c s.data.toList
    rw [this]; exact splitK_C c _
  have hl : (Lib.splitB ⟨#[c]⟩ 0 (Lib.countB s ⟨#[c]⟩) s).length = Lib.countB s ⟨#[c]⟩ + 1 := Lib.splitB_all ⟨#[c]⟩ (Nat.le_refl 1) 0 _ s rfl
  have hn : (splitC c s.data.toList).length = Lib.countB s ⟨#[c]⟩ + 1 := by rw [← hd, List.length_map, hl]
  have hsm := (splitC_small c s.data.toList).1
  rw [size_list] at hsm
  refine ⟨by rw [hn], ⟨by simp, .inr ⟨w.heap.size, (splitC c s.data.toList).length, (List.map Value.string (Lib.splitB ⟨#[c]⟩ 0 (Lib.countB s ⟨#[c]⟩) s)).toArray, rfl, Nat.le_refl _, by show (w.heap.push _)[w.heap.size]? = _; simp, Nat.le_refl _, by unfold maxLen; omega, ?_, ?_⟩⟩, (Below.refl _ _).alloc (Nat.le_refl _) _⟩
  · simp [hl, hn]
  · rw [← hd]
    simp [strV, List.map_map, Function.comp_def, str_of]
    rw [List.take_of_length_le (by simp)]
theorem mx_below {w u : World} (h : ∃ m, w.cell? ⟨1, 0, none⟩ = some (.int .i64 m)) (b : Below w.heap.size w u) : ∃ m, u.cell? ⟨1, 0, none⟩ = some (.int .i64 m) := by
  obtain ⟨m, hm⟩ := h
  exact ⟨m, by rw [below_at b (lt_of_cell hm)]; exact hm⟩
theorem joinC_any (a : Option Addr) (n c : Nat) (xs : List (List UInt8)) (sep : ByteArray) (w : World) (hr : RdL w a n xs) (hnc : n ≤ c) (hn : n ≤ 140737488355328) (hlen : (Lib.join xs sep.data.toList).length ≤ 140737488355328) :
    Calls Tryd.prog 89 #[.slice a n c, .string sep] w fun e w' => e = .returned (.string (str (Lib.join xs sep.data.toList))) ∧ Below w.heap.size w w' := by
  obtain ⟨hl, h0 | ⟨b, off, rfl, hb, hc⟩⟩ := hr
  · subst h0
    have : xs = [] := List.length_eq_zero_iff.1 hl
    subst this
    refine (Tryd.strings_Join_none a c sep w).mono ?_
    rintro e w' ⟨rfl, rfl⟩
    exact ⟨rfl, Below.refl _ _⟩
  · have hm : (xs.map str).map (·.data.toList) = xs := by rw [List.map_map]; conv => rhs; rw [← List.map_id xs]
                                                          exact List.map_congr_left fun x _ => str_list x
    have := Tryd.strings_Join b off c (xs.map str) sep w (fun j x hx => by
      rw [List.getElem?_map] at hx
      obtain ⟨y, hy, rfl⟩ := Option.map_eq_some_iff.1 hx
      obtain ⟨hj, hj2⟩ := List.getElem?_eq_some_iff.1 hy
      rw [hc j hj, hj2]) hb (by simp; omega) (by simp; omega) (by rw [hm]; exact hlen)
    rw [hm] at this
    rw [List.length_map, hl] at this
    exact this
theorem plOk_iff {l : List UInt8} : plOk l = true ↔ isText l = true ∧ l.length ≤ 40 := by unfold plOk; simp
set_option maxRecDepth 100000 in
set_option maxHeartbeats 1000000 in
theorem plainLinesValid_any (a : Option Addr) (n c : Nat) (xs : List (List UInt8)) (w : World) (hr : RdL w a n xs) (hn : n ≤ 1073741824) (hx : ∀ x ∈ xs, x.length ≤ 1073741000) :
    Calls Tryd.prog 85 #[.slice a n c] w fun e w' => e = .returned (.bool (decide (xs ≠ []) && xs.all plOk)) ∧ w = w' := by
  have HX := Lib.hid hx
  have HLEN := Lib.hid hr.1
  have HR := Lib.hid hr.2
  clear hx hr
  go_enter Tryd.func85, Tryd.ntmps85
  go_wp2_with fail
  go_loop [7] (fun i => ∃ k : Nat, k ≤ n ∧ i = .int .i64 k ∧ ∀ j, (h : j < xs.length) → j < k → plOk xs[j] = true) (fun i => n - (intOf i).toNat)
  case atStart => exact ⟨0, by omega, rfl, fun j _ h => by omega⟩
  case round =>
    obtain ⟨k, hk, rfl, hall⟩ := hrel
    have HA := Lib.hid hall
    clear hall
    by_cases hlt : k < n
    · have hkx : k < xs.length := by rw [HLEN.out]; exact hlt
      obtain ⟨b, off, rfl, hbl, hcell⟩ := HR.out.resolve_left (by omega)
      have c0 : w.cell? ⟨b, off + k, none⟩ = some (.string (str xs[k])) := hcell k hkx
      have hzx : xs[k].length ≤ 1073741000 := HX.out _ (List.getElem_mem hkx)
      have hkz := str_size xs[k]
      have HTV : Hid (∀ u, Calls Tryd.prog 23 #[.string (str xs[k])] u fun e w' => e = .returned (.bool (isText xs[k])) ∧ u = w') := fun u => by
        have := textValid_any (str xs[k]) u (by rw [str_size]; unfold maxLen; omega)
        rw [str_list] at this; exact this
      have HBAD : Hid (plOk xs[k] = false → (decide (xs ≠ []) && xs.all plOk) = false) := fun h => by
        rw [Bool.and_eq_false_iff]; right; rw [List.all_eq_false]; exact ⟨_, List.getElem_mem hkx, by simp [h]⟩
      clear hcell
      cases ht : isText xs[k]
      · have HE := Lib.hid (HBAD.out (by unfold plOk; rw [ht]; rfl))
        rw [ht] at HTV
        clear ht
        generalize str xs[k] = x at *
        go_wp2_with fail
        refine (HTV.out _).mono ?_
        rintro e w1 ⟨rfl, rfl⟩
        go_wp2
        go_ret
        exact ⟨ret_bool HE.out.symm, rfl⟩
      · by_cases h40 : 40 < xs[k].length
        · have HE := Lib.hid (HBAD.out (by unfold plOk; rw [decide_eq_false (by omega)]; simp))
          rw [ht] at HTV
          have h4 : 40 < (str xs[k]).size := by omega
          clear ht hkz h40
          generalize str xs[k] = x at *
          go_wp2_with fail
          refine (HTV.out _).mono ?_
          rintro e w1 ⟨rfl, rfl⟩
          go_wp2
          go_ret
          exact ⟨ret_bool HE.out.symm, rfl⟩
        · have HK : Hid (plOk xs[k] = true) := plOk_iff.2 ⟨ht, by omega⟩
          rw [ht] at HTV
          have h4 : ¬ 40 < (str xs[k]).size := by omega
          clear ht hkz h40
          generalize str xs[k] = x at *
          go_wp2_with fail
          refine (HTV.out _).mono ?_
          rintro e w1 ⟨rfl, rfl⟩
          go_wp2
          go_round
          case rel => exact ⟨k + 1, by omega, by go_num, fun j hj hjk => by
            by_cases e : j = k
            · subst e; exact HK.out
            · exact HA.out j hj (by omega)⟩
          case measure => simp [intOf]; omega
    · have HE : Hid (xs.all plOk = true) := by
        show _ = _
        rw [List.all_eq_true]; intro x hx
        obtain ⟨j, hj, rfl⟩ := List.getElem_of_mem hx
        exact HA.out j hj (by rw [HLEN.out] at hj; omega)
      have HNE : Hid (decide (0 < n) = (!decide (xs = []))) := by
        show _ = _
        by_cases h : xs = []
        · rw [decide_eq_true h, decide_eq_false (by rw [← HLEN.out, h]; simp)]; rfl
        · rw [decide_eq_false h, decide_eq_true (by rw [← HLEN.out]; exact List.length_pos_iff.2 h)]; rfl
      go_wp2
      go_ret
      exact ⟨ret_bool (by rw [HE.out]; simp only [Bool.and_true]; exact HNE.out), rfl⟩
set_option maxRecDepth 100000 in
set_option maxHeartbeats 1000000 in
theorem encodePlain_any (s : ByteArray) (w : World) (hmx : ∃ m, w.cell? ⟨1, 0, none⟩ = some (.int .i64 m)) (hs : s.size ≤ 1073741000) :
    Calls Tryd.prog 59 #[.string s] w (EncRet (encP s.data.toList) w) := by
  by_cases h300 : 300 < s.size
  · have HN : Hid (encP s.data.toList = none) := by show _ = _; unfold encP; rw [if_neg (by rw [size_list]; omega)]
    go_enter Tryd.func59, Tryd.ntmps59
    go_wp2
    go_ret2
    exact encRet_none HN.out (OwnL.nil _ _) (Below.refl _ _)
  · have HD : Hid (encP s.data.toList = if (splitC 10 s.data.toList).all plOk = true then some (splitC 10 s.data.toList) else none) := by
      show _ = _; unfold encP
      by_cases h : (splitC 10 s.data.toList).all plOk = true
      · rw [if_pos h, if_pos ⟨by rw [size_list]; omega, h⟩]
      · rw [if_neg h, if_neg (fun c => h c.2)]
    have HSM := Lib.hid (splitC_small 10 s.data.toList)
    have HNE := Lib.hid (splitC_ne 10 s.data.toList)
    go_enter Tryd.func59, Tryd.ntmps59
    go_wp2_with fail
    refine (splitOwnC_any s 10 _ hmx (by omega)).mono ?_
    rintro e w1 ⟨rfl, ho1, hb1⟩
    obtain ⟨a1, c1, hv1, hr1, _⟩ := ho1.read
    injection hv1 with e1 e2 e3
    subst e1 e3
    generalize splitC 10 s.data.toList = ps at *
    have HPS : Hid (∀ p ∈ ps, p.length ≤ 1073741000) := fun p hp => by have := HSM.out.2 p hp; rw [size_list] at this; omega
    have hpl : ps.length ≤ 1073741824 := by have := HSM.out.1; rw [size_list] at this; omega
    go_wp2_with fail
    refine (plainLinesValid_any _ _ _ ps _ hr1 hpl HPS.out).mono ?_
    rintro e w2 ⟨rfl, rfl⟩
    rw [decide_eq_true HNE.out, Bool.true_and]
    cases hall : ps.all plOk
    · have HN : Hid (encP s.data.toList = none) := by show _ = _; rw [HD.out, hall]; rfl
      clear hall
      go_wp2
      go_ret2
      exact encRet_none HN.out (OwnL.nil _ _) hb1
    · have HN : Hid (encP s.data.toList = some ps) := by show _ = _; rw [HD.out, hall]; rfl
      clear hall
      go_wp2
      go_ret2
      exact encRet_some HN.out ho1 hb1
theorem joinNl_len (xs : List (List UInt8)) (h : ∀ x ∈ xs, x.length ≤ 40) : (joinNl xs).length ≤ 41 * xs.length := by
  induction xs with
  | nil => simp [joinNl]
  | cons x xs ih =>
    have h1 := h x (by simp)
    have h2 := ih (fun y hy => h y (by simp [hy]))
    cases xs with
    | nil => simp [joinNl]; omega
    | cons y ys =>
      show (x ++ 10 :: joinNl (y :: ys)).length ≤ _
      rw [List.length_append, List.length_cons]
      simp only [List.length_cons] at h2 ⊢; omega
set_option maxRecDepth 100000 in
set_option maxHeartbeats 1000000 in
theorem decodePlain_any (a : Option Addr) (n c : Nat) (xs : List (List UInt8)) (w : World) (hr : RdL w a n xs) (hnc : n ≤ c) (hn : n ≤ 1073741824) (hx : ∀ x ∈ xs, x.length ≤ 1073741000) :
    Calls Tryd.prog 64 #[.slice a n c] w (DecRet (decP xs) w) := by
  have HX := Lib.hid hx
  have HR := Lib.hid hr
  clear hx hr
  go_enter Tryd.func64, Tryd.ntmps64
  go_wp2_with fail
  refine (plainLinesValid_any a n c xs _ HR.out hn HX.out).mono ?_
  rintro e w1 ⟨rfl, rfl⟩
  cases hv : (decide (xs ≠ []) && xs.all plOk)
  · have HN : Hid (decP xs = none) := by
      show _ = _; unfold decP
      rw [if_neg (fun h => by rw [decide_eq_true h.1, h.2] at hv; cases hv)]
    clear hv
    go_wp2
    go_ret2
    exact decRet_none HN.out rfl (Below.refl _ _)
  · rw [Bool.and_eq_true, decide_eq_true_eq] at hv
    have HD : Hid (decP xs = lim (some (joinNl xs))) := by show _ = _; unfold decP; rw [if_pos hv]
    have hjl := joinNl_len xs (fun x hx => (plOk_iff.1 (List.all_eq_true.1 hv.2 x hx)).2)
    have hlen := HR.out.1
    have HJ : Hid ((Lib.join xs (⟨#[10]⟩ : ByteArray).data.toList).length ≤ 140737488355328) := by
      show _ ≤ _; rw [show (⟨#[10]⟩ : ByteArray).data.toList = [10] from rfl, join_nl]; omega
    have HJE : Hid (Lib.join xs (⟨#[10]⟩ : ByteArray).data.toList = joinNl xs) := join_nl xs
    have hjz := str_size (joinNl xs)
    have hjb : (joinNl xs).length ≤ 100000000000 := by omega
    clear hv hjl hlen
    go_wp2_with fail
    refine (joinC_any a n c xs ⟨#[10]⟩ _ HR.out hnc (by omega) HJ.out).mono ?_
    rintro e w2 ⟨rfl, hb2⟩
    rw [HJE.out]
    by_cases h300 : (joinNl xs).length ≤ 300
    · have HN : Hid (decP xs = some (joinNl xs)) := by show _ = _; rw [HD.out, lim_in h300]
      have h3 : ¬ 300 < (str (joinNl xs)).size := by omega
      clear h300 hjb hjz
      generalize joinNl xs = J at *
      go_wp2
      go_ret2
      exact decRet_some HN.out rfl hb2
    · have HN : Hid (decP xs = none) := by show _ = _; rw [HD.out, lim_out (by omega)]
      have h3 : 300 < (str (joinNl xs)).size := by omega
      clear h300 hjb hjz
      generalize joinNl xs = J at *
      go_wp2
      go_ret2
      exact decRet_none HN.out rfl hb2
theorem encW_other {b : List UInt8} {k : Int} (h0 : k ≠ 0) (h1 : k ≠ 1) (h2 : k ≠ 2) : encW b k = none := by unfold encW; rw [if_neg h0, if_neg h1, if_neg h2]
set_option maxRecDepth 100000 in
set_option maxHeartbeats 1000000 in
theorem encodeBytes_any (s : ByteArray) (k : Int) (w : World) (hmx : ∃ m, w.cell? ⟨1, 0, none⟩ = some (.int .i64 m)) (hs : s.size ≤ 1073741000) :
    Calls Tryd.prog 30 #[.string s, .int .i64 k] w (EncRet (encW s.data.toList k) w) := by
  by_cases h0 : k = 0
  · subst h0
    have HW : Hid (encW s.data.toList 0 = encP s.data.toList) := rfl
    rw [HW.out]
    go_enter Tryd.func30, Tryd.ntmps30
    go_wp2_with fail
    refine (encodePlain_any s _ hmx hs).mono ?_
    rintro e w1 ⟨v, rfl, ho, hb⟩
    go_wp2
    go_ret2
    exact ⟨v, rfl, ho, hb⟩
  by_cases h1 : k = 1
  · subst h1
    have HW : Hid (encW s.data.toList 1 = encQ s.data.toList) := rfl
    rw [HW.out]
    go_enter Tryd.func30, Tryd.ntmps30
    go_wp2_with fail
    refine (encodeQuoted_any s _ hmx hs).mono ?_
    rintro e w1 ⟨v, rfl, ho, hb⟩
    go_wp2
    go_ret2
    exact ⟨v, rfl, ho, hb⟩
  by_cases h2 : k = 2
  · subst h2
    have HW : Hid (encW s.data.toList 2 = encB s.data.toList) := rfl
    rw [HW.out]
    go_enter Tryd.func30, Tryd.ntmps30
    go_wp2_with fail
    refine (encodeBase_any s _ hs).mono ?_
    rintro e w1 ⟨v, rfl, ho, hb⟩
    go_wp2
    go_ret2
    exact ⟨v, rfl, ho, hb⟩
  · have HN := Lib.hid (encW_other (b := s.data.toList) h0 h1 h2)
    have e0 : (k == 0) = false := by rw [beq_eq_false_iff_ne]; exact h0
    have e1 : (k == 1) = false := by rw [beq_eq_false_iff_ne]; exact h1
    have e2 : (k == 2) = false := by rw [beq_eq_false_iff_ne]; exact h2
    clear h0 h1 h2
    go_enter Tryd.func30, Tryd.ntmps30
    go_wp2
    go_ret2
    exact encRet_none HN.out (OwnL.nil _ _) (Below.refl _ _)
theorem decW_other {b : List (List UInt8)} {k : Int} (h0 : k ≠ 0) (h1 : k ≠ 1) (h2 : k ≠ 2) : decW b k = none := by unfold decW; rw [if_neg h0, if_neg h1, if_neg h2]
set_option maxRecDepth 100000 in
set_option maxHeartbeats 1000000 in
theorem decodeBytes_any (a : Option Addr) (n c : Nat) (xs : List (List UInt8)) (k : Int) (w : World) (hr : RdL w a n xs) (hnc : n ≤ c) (hn : n ≤ 1073741824) (hx : ∀ x ∈ xs, x.length ≤ 1073741000) :
    Calls Tryd.prog 31 #[.slice a n c, .int .i64 k] w (DecRet (decW xs k) w) := by
  by_cases h0 : k = 0
  · subst h0
    have HW : Hid (decW xs 0 = decP xs) := rfl
    rw [HW.out]
    go_enter Tryd.func31, Tryd.ntmps31
    go_wp2_with fail
    refine (decodePlain_any a n c xs _ hr hnc hn hx).mono ?_
    rintro e w1 ⟨rfl, hb⟩
    go_wp2
    go_ret2
    exact ⟨rfl, hb⟩
  by_cases h1 : k = 1
  · subst h1
    have HW : Hid (decW xs 1 = decQ xs) := rfl
    rw [HW.out]
    go_enter Tryd.func31, Tryd.ntmps31
    go_wp2_with fail
    refine (decodeQuoted_any a n c xs _ hr hn hx).mono ?_
    rintro e w1 ⟨rfl, hb⟩
    go_wp2
    go_ret2
    exact ⟨rfl, hb⟩
  by_cases h2 : k = 2
  · subst h2
    have HW : Hid (decW xs 2 = decB xs) := rfl
    rw [HW.out]
    go_enter Tryd.func31, Tryd.ntmps31
    go_wp2_with fail
    refine (decodeBase_any a n c xs _ hr hn hx).mono ?_
    rintro e w1 ⟨rfl, hb⟩
    go_wp2
    go_ret2
    exact ⟨rfl, hb⟩
  · have HN := Lib.hid (decW_other (b := xs) h0 h1 h2)
    have e0 : (k == 0) = false := by rw [beq_eq_false_iff_ne]; exact h0
    have e1 : (k == 1) = false := by rw [beq_eq_false_iff_ne]; exact h1
    have e2 : (k == 2) = false := by rw [beq_eq_false_iff_ne]; exact h2
    clear h0 h1 h2
    go_enter Tryd.func31, Tryd.ntmps31
    go_wp2
    go_ret2
    exact decRet_none HN.out rfl (Below.refl _ _)
end Go.Proofs.YtjnpkmenlecdmabDoor
