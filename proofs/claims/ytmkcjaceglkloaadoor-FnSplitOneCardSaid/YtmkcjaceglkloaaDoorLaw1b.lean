/-
  The laws of chapter 1 on lists of words: each law's walk. For every input of the law: it returns true, and the input reads as it did. Conditions: none but the statement's own.
-/
import Derived.Test.YtmkcjaceglkloaaDoorLaw0
import Derived.Test.YtmkcjaceglkloaaDoorSplit2
import Derived.Deep.QuietTactic
import Derived.BigQuiet
namespace Go.Proofs.YtmkcjaceglkloaaDoor
open Go.ChangeShapes Go.WideShapes Go.ChangeAt Go.RowKit
open Go.ChangeMaps (open_string shut_string)

set_option maxHeartbeats 2000000 in
theorem fnSplitOne_walk (a : Option Addr) (n c : Nat) (w : World) (tab : Tab w) (hc : Code w a n) (hnc : n ≤ c) (hm : c ≤ maxLen) :
    Calls Tryd.prog 9 #[.slice a n c] w fun e w' => e = .returned (.bool true) ∧ Below w.heap.size w w' := by
  have hm' := hm
  unfold maxLen at hm'
  by_cases hn : 1048576 < n
  · have hd : decide ((1048576 : Int) < n) = true := by simp; omega
    go_enter Tryd.func9, Tryd.ntmps9
    go_wp2
    go_ret
    exact ⟨rfl, Below.refl _ _⟩
  · have hd : decide ((1048576 : Int) < n) = false := by simp; omega
    go_enter Tryd.func9, Tryd.ntmps9
    go_wp2_with fail
    refine (drawQuoteWord_any a n c w hc hnc hm).mono ?_
    rintro e w1 ⟨s, rfl, hs, hb1⟩
    have hq1 := quoteW_len s.data.toList
    rw [← str_size] at hq1
    go_wp2_with fail
    refine (quoteWord_any s _ (tab.below hb1) (by omega)).mono ?_
    rintro e w2 ⟨rfl, hb2⟩
    go_wp2_with fail
    refine (quoteWordS_any s _ (by omega)).mono ?_
    rintro e w3 ⟨rfl, hb3⟩
    have hb13 := nx (nx hb1 hb2) hb3
    cases htx : isText s.data.toList
    · have he : (str (quoteW s.data.toList)).toList.isEmpty = true := by rw [quoteW_none htx, ByteArray.toList_eq, str_list]; rfl
      generalize hQ : str (quoteW s.data.toList) = q at *
      have HQQ := Lib.hid hQ
      clear hQ htx
      go_wp2_with fail
      refine (quoteWordS_any s _ (by omega)).mono ?_
      rintro e w4 ⟨rfl, hb4⟩
      rw [HQQ.out]
      go_wp2
      go_ret
      exact ⟨rfl, nx hb13 hb4⟩
    · have hql : 0 < (str (quoteW s.data.toList)).size := by
        rw [str_size]; exact List.length_pos_iff.2 (quoteW_ne htx)
      have he := empty_f hql
      have HS : Hid (splitW (str (quoteW s.data.toList)).data.toList = some [s.data.toList]) := by show _ = _; rw [str_list]; exact splitW_quoteW htx
      generalize hQ : str (quoteW s.data.toList) = q at *
      have HQQ := Lib.hid hQ
      clear hQ htx
      go_wp2_with fail
      refine (textValid_any q _ (by unfold maxLen; omega)).mono ?_
      rintro e w4 ⟨rfl, rfl⟩
      cases hqt : isText q.data.toList
      · go_wp2_with fail
        refine (quoteWordS_any s _ (by omega)).mono ?_
        rintro e w4 ⟨rfl, hb4⟩
        rw [HQQ.out]
        go_wp2
        go_ret
        exact ⟨rfl, nx hb13 hb4⟩
      · have HL : Hid (spL q.data.toList = [s.data.toList]) := by show _ = _; unfold spL; rw [fullW_text hqt, HS.out]; rfl
        have HO : Hid (spO q.data.toList = true) := by show _ = _; unfold spO; rw [fullW_text hqt, HS.out]; rfl
        clear hqt
        go_wp2_with fail
        refine (splitWords_any q _ (tab.below hb13) (by omega)).mono ?_
        rintro e w5 ⟨v, rfl, ho, hb5⟩
        rw [HL.out] at ho
        rw [HO.out]
        obtain ⟨x, k, rfl, hrd, _⟩ := ho.read
        obtain ⟨_, h1⟩ := hrd
        obtain ⟨b, off, rfl, hbl, hx⟩ := h1.resolve_left (by simp)
        have hx0 := hx 0 (by simp)
        rw [List.getElem_cons_zero, str_of, Nat.add_zero] at hx0
        clear hx h1 ho
        simp only [List.length_singleton]
        go_wp2
        go_ret
        exact ⟨rfl, nx hb13 hb5⟩
end Go.Proofs.YtmkcjaceglkloaaDoor
