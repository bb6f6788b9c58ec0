/-
  The law of chapter 1 on how joined words begin and end: its walk. For every input of the law: it returns true, and the input reads as it did. Conditions: none but the statement's own.
-/
import Derived.Test.YtjnpkmenlecdmaaDoorLaw0
import Derived.Test.YtjnpkmenlecdmaaDoorDraw2
import Derived.Deep.QuietTactic
import Derived.BigQuiet
namespace Go.Proofs.YtjnpkmenlecdmaaDoor
open Go.ChangeShapes Go.WideShapes Go.ChangeAt Go.RowKit
open Go.ChangeMaps (open_string shut_string)

theorem quoteW_ends2 {t : List UInt8} (h : isText t = true) : ∃ c p d, quoteW t = c :: p ∧ c ≠ 32 ∧ quoteW t = (quoteW t).dropLast ++ [d] ∧ d ≠ 32 := by
  cases ha : isAtom t
  · rw [quoteW_quoted h ha]
    refine ⟨34, escL t ++ [34], 34, rfl, by decide, ?_, by decide⟩
    unfold quoted
    rw [show (34 : UInt8) :: (escL t ++ [34]) = (34 :: escL t) ++ [34] from rfl, List.dropLast_concat]
  · rw [quoteW_atom ha]
    have hall := ha
    unfold isAtom at hall
    simp only [Bool.and_eq_true, List.all_eq_true] at hall
    have hne : ∀ x ∈ t, x ≠ 32 := fun x hx e => (atom_okB (hall.2.2 x hx)).2.1 (by rw [e]; rfl)
    match t, ha, hne with
    | [], ha, _ => cases ha
    | c :: p, _, hne =>
      refine ⟨c, p, (c :: p).getLast (by simp), rfl, hne c (by simp), (List.dropLast_concat_getLast _).symm, hne _ (List.getLast_mem _)⟩
theorem joinAll_first : ∀ {xs : List (List UInt8)}, xs ≠ [] → (∀ x ∈ xs, isText x = true) → ∃ c p, joinAll xs = c :: p ∧ c ≠ 32
  | [], h, _ => absurd rfl h
  | [x], _, hx => by
    obtain ⟨c, p, d, h1, h2, _, _⟩ := quoteW_ends2 (hx x (by simp))
    exact ⟨c, p, h1, h2⟩
  | x :: y :: xs, _, hx => by
    obtain ⟨c, p, d, h1, h2, _, _⟩ := quoteW_ends2 (hx x (by simp))
    refine ⟨c, p ++ 32 :: joinAll (y :: xs), ?_, h2⟩
    show quoteW x ++ 32 :: joinAll (y :: xs) = _
    rw [h1]; rfl
theorem joinAll_suffix (ys : List (List UInt8)) (x : List UInt8) : ∃ p, joinAll (ys ++ [x]) = p ++ quoteW x := by
  rw [joinAll_snoc]
  by_cases h : ys = []
  · rw [if_pos h]; exact ⟨[], rfl⟩
  · rw [if_neg h]; exact ⟨joinAll ys ++ [32], by simp⟩
set_option maxRecDepth 100000 in
set_option maxHeartbeats 2000000 in
theorem fnJoinSpaces_walk (a : Option Addr) (n c : Nat) (w : World) (tab : Tab w) (hc : Code w a n) (hnc : n ≤ c) (hm : c ≤ maxLen) :
    Calls Tryd.prog 11 #[.slice a n c] w fun e w' => e = .returned (.bool true) ∧ Below w.heap.size w w' := by
  have hm' := hm
  unfold maxLen at hm'
  by_cases hn : 1048576 < n
  · have hd : decide ((1048576 : Int) < n) = true := by simp; omega
    go_enter Tryd.func11, Tryd.ntmps11
    go_wp2
    go_ret
    exact ⟨rfl, Below.refl _ _⟩
  · have hd : decide ((1048576 : Int) < n) = false := by simp; omega
    go_enter Tryd.func11, Tryd.ntmps11
    go_wp2_with fail
    refine (drawJoinWords_any a n c w hc hnc hm).mono ?_
    rintro e w1 ⟨v, xs, rfl, ho, hxl, hx, hb1⟩
    obtain ⟨x, k, rfl, hrd, hml⟩ := ho.read
    have hxx : ∀ j, (h : j < xs.length) → xs[j].length ≤ 1073741824 := fun j hj => by have := hx _ (List.getElem_mem hj); omega
    have hcap : xs.length ≤ k ∧ k ≤ maxLen := by
      rcases ho.2 with ⟨hv, h0⟩ | ⟨g, cap, cur, hv, _, _, h1, h2, _⟩
      · injection hv with _ _ h3; exact ⟨by omega, by unfold maxLen; omega⟩
      · injection hv with _ _ h3; subst h3; exact ⟨h1, h2⟩
    have HXX := Lib.hid hxx
    clear hxx
    go_wp2_with fail
    refine (joinWords_any x xs.length k xs _ (tab.below hb1) hrd (by omega) HXX.out).mono ?_
    rintro e w2 ⟨rfl, hb2⟩
    go_wp2_with fail
    refine (joinWordsS_any x xs.length k xs _ (hrd.below hb2) (by omega) HXX.out).mono ?_
    rintro e w3 ⟨rfl, hb3⟩
    have hb13 := nx (nx hb1 hb2) hb3
    have hrd3 := (hrd.below hb2).below hb3
    have hjl := joinW_le xs
    rw [← str_size] at hjl
    by_cases hne : joinW xs = []
    · have he : (str (joinW xs)).toList.isEmpty = true := by rw [hne, ByteArray.toList_eq, str_list]; rfl
      generalize hQ : str (joinW xs) = q at *
      have HQQ := Lib.hid hQ
      clear hQ hne
      go_wp2_with fail
      refine (joinWordsS_any x xs.length k xs _ hrd3 (by omega) HXX.out).mono ?_
      rintro e w4 ⟨rfl, hb4⟩
      rw [HQQ.out]
      go_wp2
      go_ret
      exact ⟨rfl, nx hb13 hb4⟩
    · have hql : 0 < (str (joinW xs)).size := by rw [str_size]; exact List.length_pos_iff.2 hne
      have he := empty_f hql
      obtain ⟨_, _, hall, hja⟩ := joinW_ne hne
      have hxne : xs ≠ [] := by intro e; subst e; exact hne rfl
      obtain ⟨c1, p1, hf1, hf2⟩ := joinAll_first hxne hall
      obtain ⟨ys, y, hys⟩ : ∃ ys y, xs = ys ++ [y] := ⟨xs.dropLast, xs.getLast hxne, (List.dropLast_concat_getLast _).symm⟩
      obtain ⟨p2, hp2⟩ := joinAll_suffix ys y
      have hyt : isText y = true := hall y (by rw [hys]; simp)
      obtain ⟨_, _, d, _, _, hd1, hd2⟩ := quoteW_ends2 hyt
      have hqq : (str (joinW xs)).data.toList = p2 ++ quoteW y := by rw [str_list, hja, hys, hp2]
      have hqz := size_list (str (joinW xs))
      rw [hqq, List.length_append] at hqz
      have hyl : (quoteW y).length ≤ 200 := by omega
      have hy1 : 0 < (quoteW y).length := List.length_pos_iff.2 (quoteW_ne hyt)
      have hj1 : joinW [y] = quoteW y := joinW_all (fun j hj => by
        have : j = 0 := by simpa using hj
        subst this; exact hyt) hyl
      have hq0 : (str (joinW xs))[0] ≠ 32 := by
        rw [← getElem_list]; simp only [str_list, hja, hf1]; exact hf2
      have hql2 : (str (joinW xs))[(str (joinW xs)).size - 1] ≠ 32 := by
        rw [← getElem_list]
        have : (str (joinW xs)).data.toList[(str (joinW xs)).size - 1]? = some d := by
          rw [hqq, hd1, ← List.append_assoc, List.getElem?_append_right (by rw [← hqz, List.length_append, List.length_dropLast]; omega)]
          rw [← hqz, List.length_append, List.length_dropLast, show p2.length + (quoteW y).length - 1 - (p2.length + ((quoteW y).length - 1)) = 0 by omega]; rfl
        rw [List.getElem?_eq_getElem (by rw [size_list]; omega)] at this
        injection this with this; rw [this]; exact hd2
      have hsuf : (str (joinW xs)).extract ((str (joinW xs)).size - (str (quoteW y)).size) (str (joinW xs)).size = str (quoteW y) := by
        apply bytes_ext
        rw [Lib.extract_data, hqq, str_list, ← hqz, str_size, show p2.length + (quoteW y).length - (quoteW y).length = p2.length by omega, List.drop_left, List.take_of_length_le (by omega)]
      obtain ⟨q, hQ, u1, u2, u3, u4, u5⟩ : ∃ q : ByteArray, str (joinW xs) = q ∧ q.size ≤ 200 ∧ q.toList.isEmpty = false ∧ ∃ h : 0 < q.size, q[0] ≠ 32 ∧ q[q.size - 1] ≠ 32 ∧ q.extract (q.size - (str (quoteW y)).size) q.size = str (quoteW y) ∧ (str (quoteW y)).size ≤ q.size := ⟨_, rfl, hjl, he, hql, hq0, hql2, hsuf, by rw [str_size]; omega⟩
      obtain ⟨u5, u6, u7⟩ := u5
      rw [hQ]
      have e1 : ((q[0].toNat : Int) != 32) = true := by rw [bne_iff_ne]; intro e; exact u4 (UInt8.toNat_inj.1 (by simp; omega))
      have e2 : ((q[q.size - 1].toNat : Int) != 32) = true := by rw [bne_iff_ne]; intro e; exact u5 (UInt8.toNat_inj.1 (by simp; omega))
      have U6 := Lib.hid u6
      have J1 := Lib.hid hj1
      subst hys
      simp only [List.length_append, List.length_singleton] at hrd3 hcap hml hxl ⊢
      obtain ⟨_, hr2⟩ := hrd3
      obtain ⟨b, off, rfl, hbl, hcell⟩ := hr2.resolve_left (by omega)
      have hc1 := hcell ys.length (by simp)
      have hc2 : w3.cell? ⟨b, off + ys.length, none⟩ = some (.string (str y)) := by simpa using hc1
      have hR : RdL w3 (some ⟨b, off + ys.length, none⟩) 1 [y] := ⟨rfl, .inr ⟨b, off + ys.length, rfl, hbl, fun i hi => by
        have : i = 0 := by simpa using hi
        subst this; exact hc2⟩⟩
      have HR := Lib.hid hR
      have hyy : y.length ≤ 10 := hx y (by simp)
      have d1 : decide (((str (quoteW y)).size : Int) ≤ q.size) = true := by simp; omega
      clear hQ u4 u5 u6 hqq hqz hyl hj1 hq0 hql2 hsuf hf1 hf2 hd1 hd2 hp2 hja hall hne hxne he hql hc1 hc2 hcell hr2 hR hrd hx ho
      go_wp2_with fail
      refine (joinWords_any _ 1 (k - ys.length) [y] _ (tab.below hb13) HR.out (by omega) (fun j hj => by
        have : j = 0 := by simpa using hj
        subst this; show y.length ≤ _; omega)).mono ?_
      rintro e w4 ⟨rfl, hb4⟩
      rw [J1.out]
      have u6 := U6.out
      generalize str (quoteW y) = L at *
      have e3 : ((q.extract (q.size - L.size) q.size).toList == L.toList) = true := by rw [u6]; simp
      clear u6 U6 J1 HR
      go_wp2
      go_ret
      exact ⟨rfl, nx hb13 hb4⟩
end Go.Proofs.YtjnpkmenlecdmaaDoor
