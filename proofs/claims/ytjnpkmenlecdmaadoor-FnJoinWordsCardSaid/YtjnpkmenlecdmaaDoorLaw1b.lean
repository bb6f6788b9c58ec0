/-
  The laws of chapter 1 on lists of words: each law's walk. For every input of the law: it returns true, and the input reads as it did. Conditions: none but the statement's own.
-/
import Derived.Test.YtjnpkmenlecdmaaDoorLaw0
import Derived.Test.YtjnpkmenlecdmaaDoorSplit2
import Derived.Test.YtjnpkmenlecdmaaDoorDraw2
import Derived.Deep.QuietTactic
import Derived.BigQuiet
namespace Go.Proofs.YtjnpkmenlecdmaaDoor
open Go.ChangeShapes Go.WideShapes Go.ChangeAt Go.RowKit
open Go.ChangeMaps (open_string shut_string)

theorem dec_selfL (a : List (List UInt8)) : decide (a = a) = true := by simp
set_option maxRecDepth 100000 in
set_option maxHeartbeats 2000000 in
theorem fnSplitOne_walk (a : Option Addr) (n c : Nat) (w : World) (tab : Tab w) (hc : Code w a n) (hnc : n ≤ c) (hm : c ≤ maxLen) :
    Calls Tryd.prog 9 #[.slice a n c] w fun e w' => e = .returned (.bool true) ∧ Below w.heap.size w w' := by
  have hm' := hm
  unfold maxLen at hm'
  by_cases hn : 1048576 < n
  · have hd : decide ((1048576 : Int) < n) = true := by simp; omega
    go_enter Tryd.func9, Tryd.ntmps9
    go_wp2
    go_ret
    exact ⟨rfl, Below.refl _ _⟩
  · have hd : decide ((1048576 : Int) < n) = false := by simp; omega
    go_enter Tryd.func9, Tryd.ntmps9
    go_wp2_with fail
    refine (drawQuoteWord_any a n c w hc hnc hm).mono ?_
    rintro e w1 ⟨s, rfl, hs, hb1⟩
    have hq1 := quoteW_len s.data.toList
    rw [← str_size] at hq1
    go_wp2_with fail
    refine (quoteWord_any s _ (tab.below hb1) (by omega)).mono ?_
    rintro e w2 ⟨rfl, hb2⟩
    go_wp2_with fail
    refine (quoteWordS_any s _ (by omega)).mono ?_
    rintro e w3 ⟨rfl, hb3⟩
    have hb13 := nx (nx hb1 hb2) hb3
    cases htx : isText s.data.toList
    · have he : (str (quoteW s.data.toList)).toList.isEmpty = true := by rw [quoteW_none htx, ByteArray.toList_eq, str_list]; rfl
      generalize hQ : str (quoteW s.data.toList) = q at *
      have HQQ := Lib.hid hQ
      clear hQ htx
      go_wp2_with fail
      refine (quoteWordS_any s _ (by omega)).mono ?_
      rintro e w4 ⟨rfl, hb4⟩
      rw [HQQ.out]
      go_wp2
      go_ret
      exact ⟨rfl, nx hb13 hb4⟩
    · have hql : 0 < (str (quoteW s.data.toList)).size := by
        rw [str_size]; exact List.length_pos_iff.2 (quoteW_ne htx)
      have he := empty_f hql
      have HS : Hid (splitW (str (quoteW s.data.toList)).data.toList = some [s.data.toList]) := by show _ = _; rw [str_list]; exact splitW_quoteW htx
      generalize hQ : str (quoteW s.data.toList) = q at *
      have HQQ := Lib.hid hQ
      clear hQ htx
      go_wp2_with fail
      refine (textValid_any q _ (by unfold maxLen; omega)).mono ?_
      rintro e w4 ⟨rfl, rfl⟩
      cases hqt : isText q.data.toList
      · go_wp2_with fail
        refine (quoteWordS_any s _ (by omega)).mono ?_
        rintro e w4 ⟨rfl, hb4⟩
        rw [HQQ.out]
        go_wp2
        go_ret
        exact ⟨rfl, nx hb13 hb4⟩
      · have HL : Hid (spL q.data.toList = [s.data.toList]) := by show _ = _; unfold spL; rw [fullW_text hqt, HS.out]; rfl
        have HO : Hid (spO q.data.toList = true) := by show _ = _; unfold spO; rw [fullW_text hqt, HS.out]; rfl
        clear hqt
        go_wp2_with fail
        refine (splitWords_any q _ (tab.below hb13) (by omega)).mono ?_
        rintro e w5 ⟨v, rfl, ho, hb5⟩
        rw [HL.out] at ho
        rw [HO.out]
        obtain ⟨x, k, rfl, hrd, _⟩ := ho.read
        obtain ⟨_, h1⟩ := hrd
        obtain ⟨b, off, rfl, hbl, hx⟩ := h1.resolve_left (by simp)
        have hx0 := hx 0 (by simp)
        rw [List.getElem_cons_zero, str_of, Nat.add_zero] at hx0
        clear hx h1 ho
        simp only [List.length_singleton]
        go_wp2
        go_ret
        exact ⟨rfl, nx hb13 hb5⟩
set_option maxRecDepth 100000 in
set_option maxHeartbeats 2000000 in
theorem fnJoinWords_walk (a : Option Addr) (n c : Nat) (w : World) (tab : Tab w) (hc : Code w a n) (hnc : n ≤ c) (hm : c ≤ maxLen) :
    Calls Tryd.prog 4 #[.slice a n c] w fun e w' => e = .returned (.bool true) ∧ Below w.heap.size w w' := by
  have hm' := hm
  unfold maxLen at hm'
  by_cases hn : 1048576 < n
  · have hd : decide ((1048576 : Int) < n) = true := by simp; omega
    go_enter Tryd.func4, Tryd.ntmps4
    go_wp2
    go_ret
    exact ⟨rfl, Below.refl _ _⟩
  · have hd : decide ((1048576 : Int) < n) = false := by simp; omega
    go_enter Tryd.func4, Tryd.ntmps4
    go_wp2_with fail
    refine (drawJoinWords_any a n c w hc hnc hm).mono ?_
    rintro e w1 ⟨v, xs, rfl, ho, hxl, hx, hb1⟩
    obtain ⟨x, k, rfl, hrd, hml⟩ := ho.read
    have hxx : ∀ j, (h : j < xs.length) → xs[j].length ≤ 1073741824 := fun j hj => by have := hx _ (List.getElem_mem hj); omega
    have HXX := Lib.hid hxx
    have HX := Lib.hid hx
    clear hxx hx
    go_wp2_with fail
    refine (joinWords_any x xs.length k xs _ (tab.below hb1) hrd (by omega) HXX.out).mono ?_
    rintro e w2 ⟨rfl, hb2⟩
    go_wp2_with fail
    refine (joinWordsS_any x xs.length k xs _ (hrd.below hb2) (by omega) HXX.out).mono ?_
    rintro e w3 ⟨rfl, hb3⟩
    have hb13 := nx (nx hb1 hb2) hb3
    have hrd3 := (hrd.below hb2).below hb3
    have hjl := joinW_le xs
    rw [← str_size] at hjl
    by_cases hne : joinW xs = []
    · have he : (str (joinW xs)).toList.isEmpty = true := by rw [hne, ByteArray.toList_eq, str_list]; rfl
      generalize hQ : str (joinW xs) = q at *
      have HQQ := Lib.hid hQ
      clear hQ hne
      go_wp2_with fail
      refine (joinWordsS_any x xs.length k xs _ hrd3 (by omega) HXX.out).mono ?_
      rintro e w4 ⟨rfl, hb4⟩
      rw [HQQ.out]
      go_wp2
      go_ret
      exact ⟨rfl, nx hb13 hb4⟩
    · have hql : 0 < (str (joinW xs)).size := by rw [str_size]; exact List.length_pos_iff.2 hne
      have he := empty_f hql
      obtain ⟨j1, j2, _, _⟩ := joinW_ne hne
      have HT : Hid (isText (str (joinW xs)).data.toList = true) := by show _ = _; rw [str_list]; exact j1
      have HL : Hid (spL (str (joinW xs)).data.toList = xs) := by show _ = _; rw [str_list]; unfold spL; rw [fullW_text j1, j2]; rfl
      have HO : Hid (spO (str (joinW xs)).data.toList = true) := by show _ = _; rw [str_list]; unfold spO; rw [fullW_text j1, j2]; rfl
      clear j1 j2 hne
      generalize hQ : str (joinW xs) = q at *
      clear hQ
      go_wp2_with fail
      refine (splitWords_any q _ (tab.below hb13) (by omega)).mono ?_
      rintro e w5 ⟨v2, rfl, ho2, hb5⟩
      rw [HL.out] at ho2
      rw [HO.out]
      obtain ⟨x2, k2, rfl, hrd2, _⟩ := ho2.read
      go_wp2_with fail
      refine (mwTexts_any _ _ _ _ _ _ xs xs _ hrd2 (hrd3.below hb5) hml hml).mono ?_
      rintro e w6 ⟨rfl, hb6⟩
      rw [dec_selfL]
      go_wp2_with fail
      refine (textValid_any q _ (by unfold maxLen; omega)).mono ?_
      rintro e w7 ⟨rfl, rfl⟩
      rw [HT.out]
      go_wp2
      go_ret
      exact ⟨rfl, nx (nx hb13 hb5) hb6⟩
set_option maxRecDepth 100000 in
set_option maxHeartbeats 2000000 in
theorem fnSplitWords_walk (a : Option Addr) (n c : Nat) (w : World) (tab : Tab w) (hc : Code w a n) (hnc : n ≤ c) (hm : c ≤ maxLen) :
    Calls Tryd.prog 5 #[.slice a n c] w fun e w' => e = .returned (.bool true) ∧ Below w.heap.size w w' := by
  have hm' := hm
  unfold maxLen at hm'
  by_cases hn : 1048576 < n
  · have hd : decide ((1048576 : Int) < n) = true := by simp; omega
    go_enter Tryd.func5, Tryd.ntmps5
    go_wp2
    go_ret
    exact ⟨rfl, Below.refl _ _⟩
  · have hd : decide ((1048576 : Int) < n) = false := by simp; omega
    go_enter Tryd.func5, Tryd.ntmps5
    go_wp2_with fail
    refine (drawSplitWords_any a n c w hc hnc hm).mono ?_
    rintro e w1 ⟨s, rfl, hs, hb1⟩
    go_wp2_with fail
    refine (splitWords_any s _ (tab.below hb1) (by omega)).mono ?_
    rintro e w2 ⟨v2, rfl, ho2, hb2⟩
    obtain ⟨x2, k2, rfl, hrd2, hm2⟩ := ho2.read
    go_wp2_with fail
    refine (splitWordsS_any s _ (by omega)).mono ?_
    rintro e w3 ⟨v3, rfl, ho3, hb3⟩
    obtain ⟨x3, k3, rfl, hrd3, hm3⟩ := ho3.read
    have hb13 := nx (nx hb1 hb2) hb3
    go_wp2_with fail
    refine (mwTexts_any _ _ _ _ _ _ _ _ _ (hrd2.below hb3) hrd3 hm2 hm3).mono ?_
    rintro e w4 ⟨rfl, hb4⟩
    rw [dec_selfL]
    have hb14 := nx hb13 hb4
    cases hO : spO s.data.toList
    · go_wp2_with fail
      refine (mwTexts_any _ _ _ _ _ _ _ _ _ ((hrd2.below hb3).below hb4) (hrd3.below hb4) hm2 hm3).mono ?_
      rintro e w5 ⟨rfl, hb5⟩
      rw [dec_selfL]
      go_wp2
      go_ret
      exact ⟨rfl, nx hb14 hb5⟩
    · have hsp : fullW s.data.toList = some (spL s.data.toList) := by
        unfold spO at hO; unfold spL
        cases hf : fullW s.data.toList
        · rw [hf] at hO; cases hO
        · rfl
      have hsp2 : splitW s.data.toList = some (spL s.data.toList) := by
        unfold fullW at hsp; split at hsp
        · exact hsp
        · cases hsp
      have hbd := splitW_bound _ _ _ (Nat.le_refl _) hsp2
      rw [size_list] at hbd
      have hrd4 := (hrd2.below hb3).below hb4
      generalize hX : spL s.data.toList = xs at *
      have HBD := Lib.hid hbd.2
      have hxl := hbd.1
      clear hsp hsp2 hbd hX hO ho2 ho3 hrd3 hrd2
      go_wp2_with fail
      refine (joinWords_any x2 xs.length k2 xs _ (tab.below hb14) hrd4 (by omega) (fun j hj => by have := HBD.out _ (List.getElem_mem hj); omega)).mono ?_
      rintro e w5 ⟨rfl, hb5⟩
      have hb15 := nx hb14 hb5
      have hjl := joinW_le xs
      rw [← str_size] at hjl
      by_cases hne : joinW xs = []
      · have he : (str (joinW xs)).toList.isEmpty = true := by rw [hne, ByteArray.toList_eq, str_list]; rfl
        clear hne
        go_wp2
        go_ret
        exact ⟨rfl, hb15⟩
      · have hql : 0 < (str (joinW xs)).size := by rw [str_size]; exact List.length_pos_iff.2 hne
        have he := empty_f hql
        obtain ⟨j1, j2, _, _⟩ := joinW_ne hne
        have HL : Hid (spL (str (joinW xs)).data.toList = xs) := by show _ = _; rw [str_list]; unfold spL; rw [fullW_text j1, j2]; rfl
        have HO : Hid (spO (str (joinW xs)).data.toList = true) := by show _ = _; rw [str_list]; unfold spO; rw [fullW_text j1, j2]; rfl
        have H32 : Hid ((ByteArray.mk #[32] ++ str (joinW xs)).data.toList = 32 :: joinW xs) := by show _ = _; rw [Joins.data_append, str_list]; rfl
        have hz32 : (ByteArray.mk #[32] ++ str (joinW xs)).size ≤ 201 := by rw [ByteArray.size_append]; show 1 + _ ≤ _; omega
        have J2 := Lib.hid j2
        clear j1 j2 hne
        generalize hQ : str (joinW xs) = q at *
        clear hQ
        go_wp2_with fail
        refine (splitWords_any q _ (tab.below hb15) (by omega)).mono ?_
        rintro e w6 ⟨v6, rfl, ho6, hb6⟩
        rw [HL.out] at ho6
        rw [HO.out]
        obtain ⟨x6, k6, rfl, hrd6, hm6⟩ := ho6.read
        have hb16 := nx hb15 hb6
        go_wp2_with fail
        refine (splitWords_any _ _ (tab.below hb16) (by omega)).mono ?_
        rintro e w7 ⟨v7, rfl, ho7, hb7⟩
        rw [H32.out] at ho7
        rw [H32.out]
        have hb17 := nx hb16 hb7
        cases hT : isText (32 :: joinW xs)
        · have hO2 : spO (32 :: joinW xs) = false := by unfold spO; rw [fullW_no hT]; rfl
          rw [hO2]
          obtain ⟨x7, k7, rfl, hrd7, hm7⟩ := ho7.read
          clear hT hO2
          go_wp2_with fail
          refine (mwTexts_any _ _ _ _ _ _ xs xs _ (hrd6.below hb7) (((hrd4.below hb5).below hb6).below hb7) hm6 hm6).mono ?_
          rintro e w8 ⟨rfl, hb8⟩
          rw [dec_selfL]
          go_wp2
          go_ret
          exact ⟨rfl, nx hb17 hb8⟩
        · have hO2 : spO (32 :: joinW xs) = true := by unfold spO; rw [fullW_text hT, splitW_space, J2.out]; rfl
          have hL2 : spL (32 :: joinW xs) = xs := by unfold spL; rw [fullW_text hT, splitW_space, J2.out]; rfl
          rw [hO2]
          rw [hL2] at ho7
          obtain ⟨x7, k7, rfl, hrd7, hm7⟩ := ho7.read
          clear hT hO2 hL2
          go_wp2_with fail
          refine (mwTexts_any _ _ _ _ _ _ xs xs _ (hrd6.below hb7) (((hrd4.below hb5).below hb6).below hb7) hm6 hm6).mono ?_
          rintro e w8 ⟨rfl, hb8⟩
          rw [dec_selfL]
          go_wp2_with fail
          refine (mwTexts_any _ _ _ _ _ _ xs xs _ (hrd7.below hb8) ((((hrd4.below hb5).below hb6).below hb7).below hb8) hm7 hm7).mono ?_
          rintro e w9 ⟨rfl, hb9⟩
          rw [dec_selfL]
          go_wp2
          go_ret
          exact ⟨rfl, nx (nx hb17 hb8) hb9⟩
end Go.Proofs.YtjnpkmenlecdmaaDoor
