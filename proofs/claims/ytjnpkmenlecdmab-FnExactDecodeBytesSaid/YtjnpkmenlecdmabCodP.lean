/-
  Codes of bytes: plain lines and all ways: what the program's functions return. No statement is proved here.
-/
import Derived.Test.YtjnpkmenlecdmabCodE
import Derived.Test.YtjnpkmenlecdmabCodV
import Derived.Lib.Join
import Derived.Outline
namespace Go.Proofs.Ytjnpkmenlecdmab
open Go.RowKit

theorem joinC_any (a : Option Addr) (n c : Nat) (xs : List (List UInt8)) (sep : ByteArray) (w : World) (hr : RdL w a n xs) (hnc : n ≤ c) (hn : n ≤ 140737488355328) (hlen : (Lib.join xs sep.data.toList).length ≤ 140737488355328) :
    Calls Try.prog 39 #[.slice a n c, .string sep] w fun e w' => e = .returned (.string (str (Lib.join xs sep.data.toList))) ∧ Below w.heap.size w w' := by
  obtain ⟨hl, h0 | ⟨b, off, rfl, hb, hc⟩⟩ := hr
  · subst h0
    have : xs = [] := List.length_eq_zero_iff.1 hl
    subst this
    refine (Try.strings_Join_none a c sep w).mono ?_
    rintro e w' ⟨rfl, rfl⟩
    exact ⟨rfl, Below.refl _ _⟩
  · have hm : (xs.map str).map (·.data.toList) = xs := by rw [List.map_map]; conv => rhs; rw [← List.map_id xs]
                                                          exact List.map_congr_left fun x _ => str_list x
    have := Try.strings_Join b off c (xs.map str) sep w (fun j x hx => by
      rw [List.getElem?_map] at hx
      obtain ⟨y, hy, rfl⟩ := Option.map_eq_some_iff.1 hx
      obtain ⟨hj, hj2⟩ := List.getElem?_eq_some_iff.1 hy
      rw [hc j hj, hj2]) hb (by simp; omega) (by simp; omega) (by rw [hm]; exact hlen)
    rw [hm] at this
    rw [List.length_map, hl] at this
    exact this
theorem plOk_iff {l : List UInt8} : plOk l = true ↔ isText l = true ∧ l.length ≤ 40 := by unfold plOk; simp
set_option maxRecDepth 100000 in
set_option maxHeartbeats 1000000 in
theorem plainLinesValid_any (a : Option Addr) (n c : Nat) (xs : List (List UInt8)) (w : World) (hr : RdL w a n xs) (hn : n ≤ 1073741824) (hx : ∀ x ∈ xs, x.length ≤ 1073741000) :
    Calls Try.prog 38 #[.slice a n c] w fun e w' => e = .returned (.bool (decide (xs ≠ []) && xs.all plOk)) ∧ w = w' := by
  have HX := Lib.hid hx
  have HLEN := Lib.hid hr.1
  have HR := Lib.hid hr.2
  clear hx hr
  go_enter Try.func38, Try.ntmps38
  go_wp2_with fail
  go_loop [7] (fun i => ∃ k : Nat, k ≤ n ∧ i = .int .i64 k ∧ ∀ j, (h : j < xs.length) → j < k → plOk xs[j] = true) (fun i => n - (intOf i).toNat)
  case atStart => exact ⟨0, by omega, rfl, fun j _ h => by omega⟩
  case round =>
    obtain ⟨k, hk, rfl, hall⟩ := hrel
    have HA := Lib.hid hall
    clear hall
    by_cases hlt : k < n
    · have hkx : k < xs.length := by rw [HLEN.out]; exact hlt
      obtain ⟨b, off, rfl, hbl, hcell⟩ := HR.out.resolve_left (by omega)
      have c0 : w.cell? ⟨b, off + k, none⟩ = some (.string (str xs[k])) := hcell k hkx
      have hzx : xs[k].length ≤ 1073741000 := HX.out _ (List.getElem_mem hkx)
      have hkz := str_size xs[k]
      have HTV : Hid (∀ u, Calls Try.prog 48 #[.string (str xs[k])] u fun e w' => e = .returned (.bool (isText xs[k])) ∧ u = w') := fun u => by
        have := textValid_any (str xs[k]) u (by rw [str_size]; unfold maxLen; omega)
        rw [str_list] at this; exact this
      have HBAD : Hid (plOk xs[k] = false → (decide (xs ≠ []) && xs.all plOk) = false) := fun h => by
        rw [Bool.and_eq_false_iff]; right; rw [List.all_eq_false]; exact ⟨_, List.getElem_mem hkx, by simp [h]⟩
      clear hcell
      cases ht : isText xs[k]
      · have HE := Lib.hid (HBAD.out (by unfold plOk; rw [ht]; rfl))
        rw [ht] at HTV
        clear ht
        generalize str xs[k] = x at *
        go_wp2_with fail
        refine (HTV.out _).mono ?_
        rintro e w1 ⟨rfl, rfl⟩
        go_wp2
        go_ret
        exact ⟨ret_bool HE.out.symm, rfl⟩
      · by_cases h40 : 40 < xs[k].length
        · have HE := Lib.hid (HBAD.out (by unfold plOk; rw [decide_eq_false (by omega)]; simp))
          rw [ht] at HTV
          have h4 : 40 < (str xs[k]).size := by omega
          clear ht hkz h40
          generalize str xs[k] = x at *
          go_wp2_with fail
          refine (HTV.out _).mono ?_
          rintro e w1 ⟨rfl, rfl⟩
          go_wp2
          go_ret
          exact ⟨ret_bool HE.out.symm, rfl⟩
        · have HK : Hid (plOk xs[k] = true) := plOk_iff.2 ⟨ht, by omega⟩
          rw [ht] at HTV
          have h4 : ¬ 40 < (str xs[k]).size := by omega
          clear ht hkz h40
          generalize str xs[k] = x at *
          go_wp2_with fail
          refine (HTV.out _).mono ?_
          rintro e w1 ⟨rfl, rfl⟩
          go_wp2
          go_round
          case rel => exact ⟨k + 1, by omega, by go_num, fun j hj hjk => by
            by_cases e : j = k
            · subst e; exact HK.out
            · exact HA.out j hj (by omega)⟩
          case measure => simp [intOf]; omega
    · have HE : Hid (xs.all plOk = true) := by
        show _ = _
        rw [List.all_eq_true]; intro x hx
        obtain ⟨j, hj, rfl⟩ := List.getElem_of_mem hx
        exact HA.out j hj (by rw [HLEN.out] at hj; omega)
      have HNE : Hid (decide (0 < n) = (!decide (xs = []))) := by
        show _ = _
        by_cases h : xs = []
        · rw [decide_eq_true h, decide_eq_false (by rw [← HLEN.out, h]; simp)]; rfl
        · rw [decide_eq_false h, decide_eq_true (by rw [← HLEN.out]; exact List.length_pos_iff.2 h)]; rfl
      go_wp2
      go_ret
      exact ⟨ret_bool (by rw [HE.out]; simp only [Bool.and_true]; exact HNE.out), rfl⟩
theorem joinNl_len (xs : List (List UInt8)) (h : ∀ x ∈ xs, x.length ≤ 40) : (joinNl xs).length ≤ 41 * xs.length := by
  induction xs with
  | nil => simp [joinNl]
  | cons x xs ih =>
    have h1 := h x (by simp)
    have h2 := ih (fun y hy => h y (by simp [hy]))
    cases xs with
    | nil => simp [joinNl]; omega
    | cons y ys =>
      show (x ++ 10 :: joinNl (y :: ys)).length ≤ _
      rw [List.length_append, List.length_cons]
      simp only [List.length_cons] at h2 ⊢; omega
set_option maxRecDepth 100000 in
set_option maxHeartbeats 1000000 in
theorem decodePlain_any (a : Option Addr) (n c : Nat) (xs : List (List UInt8)) (w : World) (hr : RdL w a n xs) (hnc : n ≤ c) (hn : n ≤ 1073741824) (hx : ∀ x ∈ xs, x.length ≤ 1073741000) :
    Calls Try.prog 28 #[.slice a n c] w (DecRet (decP xs) w) := by
  have HX := Lib.hid hx
  have HR := Lib.hid hr
  clear hx hr
  go_enter Try.func28, Try.ntmps28
  go_wp2_with fail
  refine (plainLinesValid_any a n c xs _ HR.out hn HX.out).mono ?_
  rintro e w1 ⟨rfl, rfl⟩
  cases hv : (decide (xs ≠ []) && xs.all plOk)
  · have HN : Hid (decP xs = none) := by
      show _ = _; unfold decP
      rw [if_neg (fun h => by rw [decide_eq_true h.1, h.2] at hv; cases hv)]
    clear hv
    go_wp2
    go_ret2
    exact decRet_none HN.out rfl (Below.refl _ _)
  · rw [Bool.and_eq_true, decide_eq_true_eq] at hv
    have HD : Hid (decP xs = lim (some (joinNl xs))) := by show _ = _; unfold decP; rw [if_pos hv]
    have hjl := joinNl_len xs (fun x hx => (plOk_iff.1 (List.all_eq_true.1 hv.2 x hx)).2)
    have hlen := HR.out.1
    have HJ : Hid ((Lib.join xs (⟨#[10]⟩ : ByteArray).data.toList).length ≤ 140737488355328) := by
      show _ ≤ _; rw [show (⟨#[10]⟩ : ByteArray).data.toList = [10] from rfl, join_nl]; omega
    have HJE : Hid (Lib.join xs (⟨#[10]⟩ : ByteArray).data.toList = joinNl xs) := join_nl xs
    have hjz := str_size (joinNl xs)
    have hjb : (joinNl xs).length ≤ 100000000000 := by omega
    clear hv hjl hlen
    go_wp2_with fail
    refine (joinC_any a n c xs ⟨#[10]⟩ _ HR.out hnc (by omega) HJ.out).mono ?_
    rintro e w2 ⟨rfl, hb2⟩
    rw [HJE.out]
    by_cases h300 : (joinNl xs).length ≤ 300
    · have HN : Hid (decP xs = some (joinNl xs)) := by show _ = _; rw [HD.out, lim_in h300]
      have h3 : ¬ 300 < (str (joinNl xs)).size := by omega
      clear h300 hjb hjz
      generalize joinNl xs = J at *
      go_wp2
      go_ret2
      exact decRet_some HN.out rfl hb2
    · have HN : Hid (decP xs = none) := by show _ = _; rw [HD.out, lim_out (by omega)]
      have h3 : 300 < (str (joinNl xs)).size := by omega
      clear h300 hjb hjz
      generalize joinNl xs = J at *
      go_wp2
      go_ret2
      exact decRet_none HN.out rfl hb2
theorem decW_other {b : List (List UInt8)} {k : Int} (h0 : k ≠ 0) (h1 : k ≠ 1) (h2 : k ≠ 2) : decW b k = none := by unfold decW; rw [if_neg h0, if_neg h1, if_neg h2]
set_option maxRecDepth 100000 in
set_option maxHeartbeats 1000000 in
theorem decodeBytes_any (a : Option Addr) (n c : Nat) (xs : List (List UInt8)) (k : Int) (w : World) (hr : RdL w a n xs) (hnc : n ≤ c) (hn : n ≤ 1073741824) (hx : ∀ x ∈ xs, x.length ≤ 1073741000) :
    Calls Try.prog 13 #[.slice a n c, .int .i64 k] w (DecRet (decW xs k) w) := by
  by_cases h0 : k = 0
  · subst h0
    have HW : Hid (decW xs 0 = decP xs) := rfl
    rw [HW.out]
    go_enter Try.func13, Try.ntmps13
    go_wp2_with fail
    refine (decodePlain_any a n c xs _ hr hnc hn hx).mono ?_
    rintro e w1 ⟨rfl, hb⟩
    go_wp2
    go_ret2
    exact ⟨rfl, hb⟩
  by_cases h1 : k = 1
  · subst h1
    have HW : Hid (decW xs 1 = decQ xs) := rfl
    rw [HW.out]
    go_enter Try.func13, Try.ntmps13
    go_wp2_with fail
    refine (decodeQuoted_any a n c xs _ hr hn hx).mono ?_
    rintro e w1 ⟨rfl, hb⟩
    go_wp2
    go_ret2
    exact ⟨rfl, hb⟩
  by_cases h2 : k = 2
  · subst h2
    have HW : Hid (decW xs 2 = decB xs) := rfl
    rw [HW.out]
    go_enter Try.func13, Try.ntmps13
    go_wp2_with fail
    refine (decodeBase_any a n c xs _ hr hn hx).mono ?_
    rintro e w1 ⟨rfl, hb⟩
    go_wp2
    go_ret2
    exact ⟨rfl, hb⟩
  · have HN := Lib.hid (decW_other (b := xs) h0 h1 h2)
    have e0 : (k == 0) = false := by rw [beq_eq_false_iff_ne]; exact h0
    have e1 : (k == 1) = false := by rw [beq_eq_false_iff_ne]; exact h1
    have e2 : (k == 2) = false := by rw [beq_eq_false_iff_ne]; exact h2
    clear h0 h1 h2
    go_enter Try.func13, Try.ntmps13
    go_wp2
    go_ret2
    exact decRet_none HN.out rfl (Below.refl _ _)
end Go.Proofs.Ytjnpkmenlecdmab
