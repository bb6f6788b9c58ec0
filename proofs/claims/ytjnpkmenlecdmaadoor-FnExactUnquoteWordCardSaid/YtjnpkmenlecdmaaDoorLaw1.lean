/-
  The laws of chapter 1: each law's walk, from what the program's functions and the verifier's functions return; and its statement. For every input of the law: it returns true, and the input reads as it did. Conditions: none but the statement's own.
-/
import Derived.Test.YtjnpkmenlecdmaaDoorLaw0
import Derived.WalkSmall
import Derived.Deep.QuietTactic
import Derived.BigQuiet
import Derived.Lib.Strings
import Derived.Lib.SmallJoins
namespace Go.Proofs.YtjnpkmenlecdmaaDoor
open Go.ChangeShapes Go.WideShapes Go.ChangeAt Go.RowKit
open Go.ChangeMaps (open_string shut_string)

set_option maxRecDepth 100000 in
set_option maxHeartbeats 1000000 in
theorem fnExactAtomValid_walk (s : ByteArray) (w : World) (tab : Tab w) (hs : s.size ≤ maxLen) :
    Calls Tryd.prog 12 #[.string s] w fun e w' => e = .returned (.bool true) ∧ Below w.heap.size w w' := by
  have hm' := hs
  unfold maxLen at hm'
  by_cases hn : 1048576 < s.size
  · have hd : decide ((1048576 : Int) < s.size) = true := by simp; omega
    go_enter Tryd.func12, Tryd.ntmps12
    go_wp2
    go_ret
    exact ⟨rfl, Below.refl _ _⟩
  · have hd : decide ((1048576 : Int) < s.size) = false := by simp; omega
    go_enter Tryd.func12, Tryd.ntmps12
    go_wp2_with fail
    refine (atomValidS_any s _ hs).mono ?_
    rintro e w1 ⟨rfl, rfl⟩
    go_wp2_with fail
    refine (atomValid_any s _ tab hs).mono ?_
    rintro e w2 ⟨rfl, hb2⟩
    go_wp2
    go_ret
    exact ⟨rfl, hb2⟩
set_option maxRecDepth 100000 in
set_option maxHeartbeats 1000000 in
theorem fnExactQuoteWord_walk (s : ByteArray) (w : World) (tab : Tab w) (hs : s.size ≤ maxLen) :
    Calls Tryd.prog 13 #[.string s] w fun e w' => e = .returned (.bool true) ∧ Below w.heap.size w w' := by
  have hm' := hs
  unfold maxLen at hm'
  by_cases hn : 1048576 < s.size
  · have hd : decide ((1048576 : Int) < s.size) = true := by simp; omega
    go_enter Tryd.func13, Tryd.ntmps13
    go_wp2
    go_ret
    exact ⟨rfl, Below.refl _ _⟩
  · have hd : decide ((1048576 : Int) < s.size) = false := by simp; omega
    go_enter Tryd.func13, Tryd.ntmps13
    go_wp2_with fail
    refine (quoteWordS_any s _ (by omega)).mono ?_
    rintro e w1 ⟨rfl, hb1⟩
    go_wp2_with fail
    refine (quoteWord_any s _ (tab.below hb1) (by omega)).mono ?_
    rintro e w2 ⟨rfl, hb2⟩
    go_wp2
    go_ret
    exact ⟨rfl, nx hb1 hb2⟩
set_option maxRecDepth 100000 in
set_option maxHeartbeats 1000000 in
theorem fnExactUnquoteWord_walk (s : ByteArray) (w : World) (tab : Tab w) (hs : s.size ≤ maxLen) :
    Calls Tryd.prog 14 #[.string s] w fun e w' => e = .returned (.bool true) ∧ Below w.heap.size w w' := by
  have hm' := hs
  unfold maxLen at hm'
  by_cases hn : 1048576 < s.size
  · have hd : decide ((1048576 : Int) < s.size) = true := by simp; omega
    go_enter Tryd.func14, Tryd.ntmps14
    go_wp2
    go_ret
    exact ⟨rfl, Below.refl _ _⟩
  · have hd : decide ((1048576 : Int) < s.size) = false := by simp; omega
    go_enter Tryd.func14, Tryd.ntmps14
    go_wp2_with fail
    refine (unquoteWordS_any s _ (by omega)).mono ?_
    rintro e w1 ⟨rfl, hb1⟩
    go_wp2_with fail
    refine (unquoteWord_any s _ (tab.below hb1) (by omega)).mono ?_
    rintro e w2 ⟨rfl, hb2⟩
    go_wp2
    go_ret
    exact ⟨rfl, nx hb1 hb2⟩
set_option maxRecDepth 100000 in
set_option maxHeartbeats 2000000 in
theorem fnAtomValid_walk (a : Option Addr) (n c : Nat) (w : World) (tab : Tab w) (hc : Code w a n) (hnc : n ≤ c) (hm : c ≤ maxLen) :
    Calls Tryd.prog 6 #[.slice a n c] w fun e w' => e = .returned (.bool true) ∧ Below w.heap.size w w' := by
  have hm' := hm
  unfold maxLen at hm'
  by_cases hn : 1048576 < n
  · have hd : decide ((1048576 : Int) < n) = true := by simp; omega
    go_enter Tryd.func6, Tryd.ntmps6
    go_wp2
    go_ret
    exact ⟨rfl, Below.refl _ _⟩
  · have hd : decide ((1048576 : Int) < n) = false := by simp; omega
    go_enter Tryd.func6, Tryd.ntmps6
    go_wp2_with fail
    refine (drawAtomValid_any a n c w hc hnc hm).mono ?_
    rintro e w1 ⟨s, rfl, hs, hb1⟩
    go_wp2_with fail
    refine (atomValid_any s _ (tab.below hb1) (by unfold maxLen; omega)).mono ?_
    rintro e w2 ⟨rfl, hb2⟩
    go_wp2_with fail
    refine (atomValidS_any s _ (by unfold maxLen; omega)).mono ?_
    rintro e w3 ⟨rfl, rfl⟩
    cases hat : isAtom s.data.toList
    · cases htx : isText s.data.toList
      · go_wp2_with fail
        refine (textValid_any s _ (by unfold maxLen; omega)).mono ?_
        rintro e w4 ⟨rfl, rfl⟩
        rw [htx]
        go_wp2_with fail
        refine (atomValidS_any s _ (by unfold maxLen; omega)).mono ?_
        rintro e w5 ⟨rfl, rfl⟩
        rw [hat]
        go_wp2
        go_ret
        exact ⟨rfl, nx hb1 hb2⟩
      · have HA := Lib.hid hat
        have HX := Lib.hid htx
        have HQ := Lib.hid (quoteW_quoted htx hat)
        have hqs : s.size + 2 ≤ (str (quoteW s.data.toList)).size := by rw [str_size, HQ.out]; exact (quoted_len _).1
        have hq1 := quoteW_len s.data.toList
        rw [← str_size] at hq1
        have hql : 0 < (str (quoteW s.data.toList)).size := by omega
        have hq0 : (str (quoteW s.data.toList))[0] = 34 := by
          rw [← getElem_list]; simp only [str_list, HQ.out]; rfl
        have e1 : (((str (quoteW s.data.toList))[0].toNat : Int) == 34) = true := by rw [hq0]; rfl
        have hne : ((str (quoteW s.data.toList)).toList == s.toList) = false := by
          rw [beq_dec, decide_eq_false_iff_not]; intro e; rw [e] at hqs; omega
        generalize hQ : str (quoteW s.data.toList) = q at *
        have HQQ := Lib.hid hQ
        clear hat htx hQ hq0
        go_wp2_with fail
        refine (textValid_any s _ (by unfold maxLen; omega)).mono ?_
        rintro e w4 ⟨rfl, rfl⟩
        rw [HX.out]
        go_wp2_with fail
        refine (quoteWord_any s _ ((tab.below hb1).below hb2) (by omega)).mono ?_
        rintro e w5 ⟨rfl, hb5⟩
        rw [HQQ.out]
        go_wp2
        go_ret
        exact ⟨ret_bool (decide_eq_true (by omega)), nx (nx hb1 hb2) hb5⟩
    · have HX := Lib.hid (isAtom_text hat)
      have HQ := Lib.hid (quoteW_atom hat)
      clear hat
      go_wp2_with fail
      refine (textValid_any s _ (by unfold maxLen; omega)).mono ?_
      rintro e w4 ⟨rfl, rfl⟩
      rw [HX.out]
      go_wp2_with fail
      refine (quoteWord_any s _ ((tab.below hb1).below hb2) (by omega)).mono ?_
      rintro e w5 ⟨rfl, hb5⟩
      rw [HQ.out, str_of]
      go_wp2
      go_ret
      exact ⟨rfl, nx (nx hb1 hb2) hb5⟩
theorem isAtom_take {l : List UInt8} {k : Nat} (h : isAtom l = true) (hk : 1 ≤ k) : isAtom (l.take (k - 0)) = true := by
  unfold isAtom at h ⊢
  simp only [Bool.and_eq_true, decide_eq_true_eq, List.all_eq_true] at h ⊢
  refine ⟨by simp; omega, by simp; omega, fun x hx => h.2.2 x (List.mem_of_mem_take hx)⟩
theorem isAtom_drop {l : List UInt8} {k : Nat} (h : isAtom l = true) (hk : k < l.length) : isAtom (l.drop k) = true := by
  unfold isAtom at h ⊢
  simp only [Bool.and_eq_true, decide_eq_true_eq, List.all_eq_true] at h ⊢
  refine ⟨by simp; omega, by simp; omega, fun x hx => h.2.2 x (List.mem_of_mem_drop hx)⟩
theorem isAtom_bad_mem {l : List UInt8} {c : UInt8} (hm : c ∈ l) (h : atomB c = false) : isAtom l = false := by
  unfold isAtom
  rw [Bool.and_eq_false_iff]; right
  rw [Bool.and_eq_false_iff]; right
  rw [List.all_eq_false]; exact ⟨_, hm, by simp [h]⟩
set_option maxRecDepth 100000 in
set_option maxHeartbeats 2000000 in
theorem fnAtomPart_walk (a : Option Addr) (n c : Nat) (w : World) (tab : Tab w) (hc : Code w a n) (hnc : n ≤ c) (hm : c ≤ maxLen) :
    Calls Tryd.prog 10 #[.slice a n c] w fun e w' => e = .returned (.bool true) ∧ Below w.heap.size w w' := by
  have hm' := hm
  unfold maxLen at hm'
  by_cases hn : 1048576 < n
  · have hd : decide ((1048576 : Int) < n) = true := by simp; omega
    go_enter Tryd.func10, Tryd.ntmps10
    go_wp2
    go_ret
    exact ⟨rfl, Below.refl _ _⟩
  · have hd : decide ((1048576 : Int) < n) = false := by simp; omega
    go_enter Tryd.func10, Tryd.ntmps10
    go_wp2_with fail
    refine (drawAtomValid_any a n c w hc hnc hm).mono ?_
    rintro e w1 ⟨s, rfl, hs, hb1⟩
    go_wp2_with fail
    refine (atomValid_any s _ (tab.below hb1) (by unfold maxLen; omega)).mono ?_
    rintro e w2 ⟨rfl, hb2⟩
    go_wp2_with fail
    refine (atomValidS_any s _ (by unfold maxLen; omega)).mono ?_
    rintro e w3 ⟨rfl, rfl⟩
    cases hat : isAtom s.data.toList
    · go_wp2_with fail
      refine (atomValidS_any s _ (by unfold maxLen; omega)).mono ?_
      rintro e w5 ⟨rfl, rfl⟩
      rw [hat]
      go_wp2
      go_ret
      exact ⟨rfl, nx hb1 hb2⟩
    · have hp : 0 < s.size := by
        rcases Nat.eq_zero_or_pos s.size with h | h
        · rw [empty_list h] at hat; cases hat
        · exact h
      have H1 : Hid (isAtom (s.extract 0 1).data.toList = true) := by
        show _ = _
        rw [Lib.extract_data, List.drop_zero]; exact isAtom_take hat (by omega)
      have H2 : Hid (isAtom (s.extract (s.size / 2) s.size).data.toList = true) := by
        show _ = _
        rw [Lib.extract_data, List.take_of_length_le (by rw [List.length_drop, size_list]; omega)]
        exact isAtom_drop hat (by rw [size_list]; omega)
      have H3 : Hid (isAtom (s ++ ⟨#[32]⟩).data.toList = false) := by
        show _ = _
        rw [Joins.data_append]; exact isAtom_bad_mem (c := 32) (by simp) (by decide)
      have z1 : (s.extract 0 1).size ≤ s.size := by rw [ByteArray.size_extract]; omega
      have z2 : (s.extract (s.size / 2) s.size).size ≤ s.size := by rw [ByteArray.size_extract]; omega
      have z3 : (s ++ ⟨#[32]⟩).size ≤ s.size + 1 := by rw [ByteArray.size_append]; exact Nat.le_refl _
      clear hat
      go_wp2_with fail
      refine (atomValid_any _ _ ((tab.below hb1).below hb2) (by unfold maxLen; omega)).mono ?_
      rintro e w4 ⟨rfl, hb4⟩
      rw [H1.out]
      go_wp2_with fail
      refine (atomValid_any _ _ (((tab.below hb1).below hb2).below hb4) (by unfold maxLen; omega)).mono ?_
      rintro e w5 ⟨rfl, hb5⟩
      rw [H2.out]
      go_wp2_with fail
      refine (atomValid_any _ _ ((((tab.below hb1).below hb2).below hb4).below hb5) (by unfold maxLen; omega)).mono ?_
      rintro e w6 ⟨rfl, hb6⟩
      rw [H3.out]
      go_wp2_with fail
      refine (atomValid_any _ _ (((((tab.below hb1).below hb2).below hb4).below hb5).below hb6) (by decide)).mono ?_
      rintro e w7 ⟨rfl, hb7⟩
      go_wp2
      go_ret
      exact ⟨rfl, nx (nx (nx (nx (nx hb1 hb2) hb4) hb5) hb6) hb7⟩
set_option maxRecDepth 100000 in
set_option maxHeartbeats 2000000 in
theorem fnQuoteAtom_walk (a : Option Addr) (n c : Nat) (w : World) (tab : Tab w) (hc : Code w a n) (hnc : n ≤ c) (hm : c ≤ maxLen) :
    Calls Tryd.prog 7 #[.slice a n c] w fun e w' => e = .returned (.bool true) ∧ Below w.heap.size w w' := by
  have hm' := hm
  unfold maxLen at hm'
  by_cases hn : 1048576 < n
  · have hd : decide ((1048576 : Int) < n) = true := by simp; omega
    go_enter Tryd.func7, Tryd.ntmps7
    go_wp2
    go_ret
    exact ⟨rfl, Below.refl _ _⟩
  · have hd : decide ((1048576 : Int) < n) = false := by simp; omega
    go_enter Tryd.func7, Tryd.ntmps7
    go_wp2_with fail
    refine (drawQuoteWord_any a n c w hc hnc hm).mono ?_
    rintro e w1 ⟨s, rfl, hs, hb1⟩
    go_wp2_with fail
    refine (quoteWord_any s _ (tab.below hb1) (by omega)).mono ?_
    rintro e w2 ⟨rfl, hb2⟩
    go_wp2_with fail
    refine (quoteWordS_any s _ (by omega)).mono ?_
    rintro e w3 ⟨rfl, hb3⟩
    have hq1 := quoteW_len s.data.toList
    rw [← str_size] at hq1
    cases htx : isText s.data.toList
    · have he : (str (quoteW s.data.toList)).toList.isEmpty = true := by rw [quoteW_none htx, ByteArray.toList_eq, str_list]; rfl
      generalize hQ : str (quoteW s.data.toList) = q at *
      have HQQ := Lib.hid hQ
      clear hQ htx
      go_wp2_with fail
      refine (quoteWordS_any s _ (by omega)).mono ?_
      rintro e w4 ⟨rfl, hb4⟩
      rw [HQQ.out]
      go_wp2
      go_ret
      exact ⟨rfl, nx (nx (nx hb1 hb2) hb3) hb4⟩
    · have hql : 0 < (str (quoteW s.data.toList)).size := by
        rw [str_size]; exact List.length_pos_iff.2 (quoteW_ne htx)
      have he := empty_f hql
      cases hat : isAtom s.data.toList
      · have hqq := quoteW_quoted htx hat
        have h2 : 2 ≤ (str (quoteW s.data.toList)).size := by rw [str_size, hqq]; have := quoted_len s.data.toList; omega
        have hf : (str (quoteW s.data.toList))[0] = 34 := by
          rw [← getElem_list]; simp only [str_list, hqq]; rfl
        have hl : (str (quoteW s.data.toList))[(str (quoteW s.data.toList)).size - 1] = 34 := by
          rw [← getElem_list]; simp only [str_list, str_size, hqq, quoted]; simp
        have ha : isAtom (str (quoteW s.data.toList)).data.toList = false := by rw [str_list, hqq]; exact atom_34 _
        obtain ⟨q, hQ, hq1', he', h2', hf', hl', ha'⟩ : ∃ q : ByteArray, str (quoteW s.data.toList) = q ∧ q.size ≤ 402 ∧ q.toList.isEmpty = false ∧ ∃ h2 : 2 ≤ q.size, q[0] = 34 ∧ q[q.size - 1] = 34 ∧ isAtom q.data.toList = false := ⟨_, rfl, hq1, he, h2, hf, hl, ha⟩
        rw [hQ]
        clear hqq hf hl ha htx hat hq1 he h2 hql hQ
        have e1 : ((q[0].toNat : Int) != 34) = false := by rw [hf']; rfl
        have e2 : ((q[q.size - 1].toNat : Int) == 34) = true := by rw [hl']; rfl
        have HA := Lib.hid ha'
        clear hf' hl' ha'
        go_wp2_with fail
        refine (atomValid_any q _ (((tab.below hb1).below hb2).below hb3) (by unfold maxLen; omega)).mono ?_
        rintro e w4 ⟨rfl, hb4⟩
        rw [HA.out]
        have d2 : decide ((2 : Int) ≤ q.size) = true := by simp; omega
        go_wp2
        go_ret
        exact ⟨rfl, nx (nx (nx hb1 hb2) hb3) hb4⟩
      · have hqq := quoteW_atom hat
        have hf : (str (quoteW s.data.toList))[0] ≠ 34 := by
          intro e
          rw [← getElem_list] at e
          simp only [str_list, hqq] at e
          have hm : (34 : UInt8) ∈ s.data.toList := by rw [← e]; exact List.getElem_mem _
          have hall := hat
          unfold isAtom at hall
          simp only [Bool.and_eq_true, List.all_eq_true] at hall
          have := hall.2.2 _ hm
          exact absurd this (by decide)
        have ha : isAtom (str (quoteW s.data.toList)).data.toList = true := by rw [str_list, hqq]; exact hat
        have hs2 : ((str (quoteW s.data.toList)).toList == s.toList) = true := by rw [hqq, str_of]; simp
        generalize hQ : str (quoteW s.data.toList) = q at *
        have e1 : ((q[0].toNat : Int) != 34) = true := by rw [bne_iff_ne]; intro e; exact hf (UInt8.toNat_inj.1 (by simp; omega))
        have HA := Lib.hid ha
        clear hqq hf ha hQ htx hat
        go_wp2_with fail
        refine (atomValid_any q _ (((tab.below hb1).below hb2).below hb3) (by unfold maxLen; omega)).mono ?_
        rintro e w4 ⟨rfl, hb4⟩
        rw [HA.out]
        go_wp2
        go_ret
        exact ⟨rfl, nx (nx (nx hb1 hb2) hb3) hb4⟩
set_option maxRecDepth 100000 in
set_option maxHeartbeats 2000000 in
theorem fnUnquote_walk (a : Option Addr) (n c : Nat) (w : World) (tab : Tab w) (hc : Code w a n) (hnc : n ≤ c) (hm : c ≤ maxLen) :
    Calls Tryd.prog 8 #[.slice a n c] w fun e w' => e = .returned (.bool true) ∧ Below w.heap.size w w' := by
  have hm' := hm
  unfold maxLen at hm'
  by_cases hn : 1048576 < n
  · have hd : decide ((1048576 : Int) < n) = true := by simp; omega
    go_enter Tryd.func8, Tryd.ntmps8
    go_wp2
    go_ret
    exact ⟨rfl, Below.refl _ _⟩
  · have hd : decide ((1048576 : Int) < n) = false := by simp; omega
    go_enter Tryd.func8, Tryd.ntmps8
    go_wp2_with fail
    refine (drawUnquoteWord_any a n c w hc hnc hm).mono ?_
    rintro e w1 ⟨s, rfl, hs, hb1⟩
    go_wp2_with fail
    refine (unquoteWord_any s _ (tab.below hb1) (by omega)).mono ?_
    rintro e w2 ⟨rfl, hb2⟩
    go_wp2_with fail
    refine (unquoteWordS_any s _ (by omega)).mono ?_
    rintro e w3 ⟨rfl, hb3⟩
    cases hu : unq s.data.toList
    · have hT : str (uqT s.data.toList) = ⟨#[]⟩ := by unfold uqT; rw [hu]; rfl
      have hB : uqB s.data.toList = false := by unfold uqB; rw [hu]; rfl
      rw [hT, hB]
      clear hT hB hu
      go_wp2
      go_ret
      exact ⟨rfl, nx (nx hb1 hb2) hb3⟩
    · rename_i t
      have hT : uqT s.data.toList = t := by unfold uqT; rw [hu]; rfl
      have hB : uqB s.data.toList = true := by unfold uqB; rw [hu]; rfl
      obtain ⟨hq, htx⟩ := unq_word hu
      rw [hT, hB]
      have hl := text_len htx
      have hlen : t.length ≤ s.size := by
        rw [← size_list, ← hq]
        cases hat : isAtom t
        · rw [quoteW_quoted htx hat]; have := quoted_len t; omega
        · rw [quoteW_atom hat]; exact Nat.le_refl _
      have hts := str_size t
      have d1 : decide (((str t).size : Int) ≤ s.size) = true := by simp; omega
      have HS : Hid (str (quoteW t) = s) := by show _ = _; rw [hq, str_of]
      have HX := Lib.hid htx
      clear hT hB hu hq htx
      go_wp2_with fail
      refine (textValid_any (str t) _ (by unfold maxLen; omega)).mono ?_
      rintro e w4 ⟨rfl, rfl⟩
      rw [str_list, HX.out]
      go_wp2_with fail
      refine (quoteWord_any (str t) _ (((tab.below hb1).below hb2).below hb3) (by omega)).mono ?_
      rintro e w5 ⟨rfl, hb5⟩
      rw [str_list, HS.out]
      go_wp2
      go_ret
      exact ⟨rfl, nx (nx (nx hb1 hb2) hb3) hb5⟩
set_option maxRecDepth 100000 in
set_option maxHeartbeats 4000000 in
theorem fnQuoteWord_walk (a : Option Addr) (n c : Nat) (a2 : Option Addr) (n2 c2 : Nat) (w : World) (tab : Tab w) (hc : Code w a n) (hnc : n ≤ c) (hm : c ≤ maxLen) (hc2 : Code w a2 n2) (hnc2 : n2 ≤ c2) (hm2 : c2 ≤ maxLen) :
    Calls Tryd.prog 3 #[.slice a n c, .slice a2 n2 c2] w fun e w' => e = .returned (.bool true) ∧ Below w.heap.size w w' := by
  have hm' := hm
  have hm2' := hm2
  unfold maxLen at hm' hm2'
  by_cases hn : 1048576 < n
  · have hd : decide ((1048576 : Int) < n) = true := by simp; omega
    go_enter Tryd.func3, Tryd.ntmps3
    go_wp2
    go_ret
    exact ⟨rfl, Below.refl _ _⟩
  · have hd : decide ((1048576 : Int) < n) = false := by simp; omega
    by_cases hn2 : 1048576 < n2
    · have hd2 : decide ((1048576 : Int) < n2) = true := by simp; omega
      go_enter Tryd.func3, Tryd.ntmps3
      go_wp2
      go_ret
      exact ⟨rfl, Below.refl _ _⟩
    · have hd2 : decide ((1048576 : Int) < n2) = false := by simp; omega
      go_enter Tryd.func3, Tryd.ntmps3
      go_wp2_with fail
      refine (drawQuoteWord_any a n c w hc hnc hm).mono ?_
      rintro e w1 ⟨s, rfl, hs, hb1⟩
      have hq1 := quoteW_len s.data.toList
      rw [← str_size] at hq1
      go_wp2_with fail
      refine (quoteWord_any s _ (tab.below hb1) (by omega)).mono ?_
      rintro e w2 ⟨rfl, hb2⟩
      go_wp2_with fail
      refine (unquoteWord_any _ _ ((tab.below hb1).below hb2) (by omega)).mono ?_
      rintro e w3 ⟨rfl, hb3⟩
      go_wp2_with fail
      refine (textValid_any s _ (by unfold maxLen; omega)).mono ?_
      rintro e w4 ⟨rfl, rfl⟩
      go_wp2_with fail
      refine (quoteWordS_any s _ (by omega)).mono ?_
      rintro e w5 ⟨rfl, hb5⟩
      go_wp2_with fail
      refine (textValidS_any s _ (by unfold maxLen; omega)).mono ?_
      rintro e w6 ⟨rfl, rfl⟩
      have hb15 := nx (nx (nx hb1 hb2) hb3) hb5
      cases htx : isText s.data.toList
      · have hB : uqB (str (quoteW s.data.toList)).data.toList = false := by rw [str_list, quoteW_none htx]; unfold uqB; rw [unq_nil]; rfl
        rw [hB]
        clear hB htx
        go_wp2_with fail
        refine (drawUnquoteWord_any a2 n2 c2 _ (hc2.below hb15) hnc2 hm2).mono ?_
        rintro e w7 ⟨x, rfl, hx, hb7⟩
        go_wp2_with fail
        refine (unquoteWord_any x _ ((tab.below hb15).below hb7) (by omega)).mono ?_
        rintro e w8 ⟨rfl, hb8⟩
        go_wp2_with fail
        refine (unquoteWordS_any x _ (by omega)).mono ?_
        rintro e w9 ⟨rfl, hb9⟩
        have hb19 := nx (nx (nx hb15 hb7) hb8) hb9
        cases hu : unq x.data.toList
        · have hB : uqB x.data.toList = false := by unfold uqB; rw [hu]; rfl
          rw [hB]
          clear hB hu
          go_wp2
          go_ret
          exact ⟨rfl, hb19⟩
        · rename_i t
          have hT : uqT x.data.toList = t := by unfold uqT; rw [hu]; rfl
          have hB : uqB x.data.toList = true := by unfold uqB; rw [hu]; rfl
          have hts : (str t).size ≤ 200 := by rw [str_size]; exact text_len (unq_word hu).2
          have HS : Hid (str (quoteW t) = x) := by show _ = _; rw [(unq_word hu).1, str_of]
          rw [hB, hT]
          clear hB hT hu
          go_wp2_with fail
          refine (quoteWord_any (str t) _ (tab.below hb19) (by omega)).mono ?_
          rintro e w10 ⟨rfl, hb10⟩
          rw [str_list, HS.out]
          go_wp2
          go_ret
          exact ⟨rfl, nx hb19 hb10⟩
      · have hB : uqB (str (quoteW s.data.toList)).data.toList = true := by rw [str_list]; unfold uqB; rw [unq_quoteW htx]; rfl
        have hT : str (uqT (str (quoteW s.data.toList)).data.toList) = s := by rw [str_list]; unfold uqT; rw [unq_quoteW htx]; exact str_of s
        rw [hB, hT]
        clear hB hT htx
        go_wp2_with fail
        refine (drawUnquoteWord_any a2 n2 c2 _ (hc2.below hb15) hnc2 hm2).mono ?_
        rintro e w7 ⟨x, rfl, hx, hb7⟩
        go_wp2_with fail
        refine (unquoteWord_any x _ ((tab.below hb15).below hb7) (by omega)).mono ?_
        rintro e w8 ⟨rfl, hb8⟩
        go_wp2_with fail
        refine (unquoteWordS_any x _ (by omega)).mono ?_
        rintro e w9 ⟨rfl, hb9⟩
        have hb19 := nx (nx (nx hb15 hb7) hb8) hb9
        cases hu : unq x.data.toList
        · have hB : uqB x.data.toList = false := by unfold uqB; rw [hu]; rfl
          rw [hB]
          clear hB hu
          go_wp2
          go_ret
          exact ⟨rfl, hb19⟩
        · rename_i t
          have hT : uqT x.data.toList = t := by unfold uqT; rw [hu]; rfl
          have hB : uqB x.data.toList = true := by unfold uqB; rw [hu]; rfl
          have hts : (str t).size ≤ 200 := by rw [str_size]; exact text_len (unq_word hu).2
          have HS : Hid (str (quoteW t) = x) := by show _ = _; rw [(unq_word hu).1, str_of]
          rw [hB, hT]
          clear hB hT hu
          go_wp2_with fail
          refine (quoteWord_any (str t) _ (tab.below hb19) (by omega)).mono ?_
          rintro e w10 ⟨rfl, hb10⟩
          rw [str_list, HS.out]
          go_wp2
          go_ret
          exact ⟨rfl, nx hb19 hb10⟩
end Go.Proofs.YtjnpkmenlecdmaaDoor
