/-
  Fields, read: what the program's functions return. No statement is proved here.
-/
import Derived.Test.YtbfjbabpeigloabDoorFld
import Derived.Test.YtbfjbabpeigloabDoorRowL
import Derived.Lib.Join
namespace Go.Proofs.YtbfjbabpeigloabDoor
open Go.RowKit

/-! Where a list's first part with a property ends. -/
theorem tw_of {α : Type} {p : α → Bool} : ∀ {l : List α} {m : Nat}, m ≤ l.length → (∀ j, j < m → (hj : j < l.length) → p l[j] = true) → (∀ h : m < l.length, p l[m] = false) → l.takeWhile p = l.take m ∧ l.dropWhile p = l.drop m
  | [], m, hm, _, _ => by simp
  | x :: l, 0, _, _, h => by
    have := h (by simp)
    have this : p x = false := this
    rw [List.takeWhile_cons_of_neg (by simp [this]), List.dropWhile_cons_of_neg (by simp [this])]; simp
  | x :: l, m + 1, hm, h1, h2 => by
    have hx : p x = true := h1 0 (by omega) (by simp)
    rw [List.takeWhile_cons_of_pos hx, List.dropWhile_cons_of_pos hx]
    have := tw_of (l := l) (m := m) (by simpa using hm) (fun j hj hl => h1 (j + 1) (by omega) (by simpa using hl)) (fun h => h2 (by simpa using h))
    rw [this.1, this.2]; simp
theorem join_none : ∀ xs : List (List UInt8), Lib.join xs [] = xs.flatten
  | [] => rfl
  | x :: xs => by
    rw [Lib.join_cons]
    unfold Lib.joinTail
    simp
/-- What is read so far. -/
def readsTo (xs : List (List UInt8)) (k : Nat) (acc : List Fld) : Prop := mapF (groupsL xs) = (mapF (groupsL (xs.drop k))).map (acc ++ ·)
theorem readsTo_start (xs : List (List UInt8)) : readsTo xs 0 [] := by unfold readsTo; rw [List.drop_zero]; cases mapF (groupsL xs) <;> simp
theorem readsTo_end {xs : List (List UInt8)} {k : Nat} {acc : List Fld} (h : readsTo xs k acc) (hk : xs.length ≤ k) : mapF (groupsL xs) = some acc := by
  unfold readsTo at h; rw [h, List.drop_eq_nil_of_le hk]; simp [groupsL, mapF]
/-- The next line, with those that go on with it. -/
def lineAt (xs : List (List UInt8)) (k e : Nat) : List UInt8 := ((xs.drop k).take (e - k)).flatten
theorem group_at {xs : List (List UInt8)} {k e : Nat} (hk : k < xs.length) (hke : k + 1 ≤ e) (he : e ≤ xs.length) (h1 : ∀ j, k + 1 ≤ j → j < e → (hj : j < xs.length) → isCont xs[j] = true) (h2 : ∀ h : e < xs.length, isCont xs[e] = false) :
    groupsL (xs.drop k) = lineAt xs k e :: groupsL (xs.drop e) := by
  have hd : xs.drop k = xs[k] :: xs.drop (k + 1) := List.drop_eq_getElem_cons hk
  have ht := tw_of (p := isCont) (l := xs.drop (k + 1)) (m := e - (k + 1)) (by rw [List.length_drop]; omega)
    (fun j hj hl => by rw [List.getElem_drop]; exact h1 _ (by omega) (by omega) _)
    (fun h => by rw [List.getElem_drop]; rw [List.length_drop] at h; have := h2 (by omega); simpa [show k + 1 + (e - (k + 1)) = e by omega] using this)
  rw [hd, groupsL_cons, ht.1, ht.2, List.drop_drop]
  congr 1
  · unfold lineAt
    rw [hd, show e - k = (e - (k + 1)) + 1 by omega, List.take_succ_cons]; rfl
  · congr 2; omega
theorem mapF_len {l : List UInt8} {ls : List (List UInt8)} {f : Fld} (h : oneF l = some f) : mapF (l :: ls) = (mapF ls).map (f :: ·) := by
  show (match oneF l with | none => none | some f => (mapF ls).map (f :: ·)) = _
  rw [h]
theorem mapF_bad {l : List UInt8} {ls : List (List UInt8)} (h : oneF l = none) : mapF (l :: ls) = none := by
  show (match oneF l with | none => none | some f => (mapF ls).map (f :: ·)) = _
  rw [h]
theorem readsTo_bad {xs : List (List UInt8)} {k e : Nat} {acc : List Fld} (h : readsTo xs k acc) (hg : groupsL (xs.drop k) = lineAt xs k e :: groupsL (xs.drop e)) (ho : oneF (lineAt xs k e) = none) : readFs xs = none := by
  unfold readsTo at h
  unfold readFs
  rw [h, hg, mapF_bad ho]; rfl
theorem readsTo_long {xs : List (List UInt8)} {k e : Nat} {acc : List Fld} {f : Fld} (h : readsTo xs k acc) (hg : groupsL (xs.drop k) = lineAt xs k e :: groupsL (xs.drop e)) (ho : oneF (lineAt xs k e) = some f) (hl : acc.length = 20) : readFs xs = none := by
  unfold readsTo at h
  unfold readFs
  rw [h, hg, mapF_len ho]
  cases mapF (groupsL (xs.drop e)) with
  | none => rfl
  | some fs =>
    show (if (acc ++ f :: fs).length ≤ 20 then some (acc ++ f :: fs) else none) = none
    rw [if_neg]; rw [List.length_append, List.length_cons]; omega
theorem readsTo_next {xs : List (List UInt8)} {k e : Nat} {acc : List Fld} {f : Fld} (h : readsTo xs k acc) (hg : groupsL (xs.drop k) = lineAt xs k e :: groupsL (xs.drop e)) (ho : oneF (lineAt xs k e) = some f) : readsTo xs e (acc ++ [f]) := by
  unfold readsTo at h ⊢
  rw [h, hg, mapF_len ho]
  cases mapF (groupsL (xs.drop e)) <;> simp
theorem readFs_all {xs : List (List UInt8)} {acc : List Fld} (h : mapF (groupsL xs) = some acc) (hl : acc.length ≤ 20) : readFs xs = some acc := by
  unfold readFs; rw [h]; exact if_pos hl
theorem lineAt_len (xs : List (List UInt8)) (k e : Nat) : (lineAt xs k e).length ≤ xs.flatten.length := by
  unfold lineAt
  have e : xs.flatten = (xs.take k).flatten ++ (((xs.drop k).take (e - k)).flatten ++ ((xs.drop k).drop (e - k)).flatten) := by
    rw [← List.flatten_append, List.take_append_drop, ← List.flatten_append, List.take_append_drop]
  rw [e, List.length_append, List.length_append]; omega
theorem idx_cut (c : UInt8) : ∀ l : List UInt8, (Lib.indexByte l c = -1 ∧ cutAt c l = none) ∨ ∃ k : Nat, Lib.indexByte l c = (k : Int) ∧ k < l.length ∧ cutAt c l = some (l.take k, l.drop (k + 1))
  | [] => .inl ⟨rfl, rfl⟩
  | x :: l => by
    unfold Lib.indexByte cutAt
    by_cases h : x = c
    · subst h
      exact .inr ⟨0, by simp, by simp, by simp⟩
    · have hb : (x == c) = false := by simpa using h
      rw [hb, if_neg h]
      rcases idx_cut c l with ⟨h1, h2⟩ | ⟨k, h1, h2, h3⟩
      · exact .inl ⟨by rw [h1]; rfl, by rw [h2]; rfl⟩
      · refine .inr ⟨k + 1, ?_, by simp; omega, by rw [h3]; rfl⟩
        rw [h1]
        have : ((k : Int) == -1) = false := by rw [beq_eq_false_iff_ne]; omega
        rw [this]; simp
/-- What cutting at a byte returns. -/
def CutOne (l : List UInt8) (c : UInt8) (w : World) (e : Ending) (w' : World) : Prop := (∃ (a b : List UInt8) (o : Bool), e = .returned (.tuple #[.string (str a), .string (str b), .bool o]) ∧ a.length ≤ l.length ∧ b.length ≤ l.length ∧ (cutAt c l = if o then some (a, b) else none)) ∧ ∃ m, w' = w.drewN m
theorem cutOne_none {l : List UInt8} {c : UInt8} {w : World} {s : ByteArray} (h : cutAt c l = none) (hs : s = str l) (m : Nat) : CutOne l c w (.returned (.tuple #[.string s, .string ⟨#[]⟩, .bool false])) (w.drewN m) := by
  subst hs; exact ⟨⟨l, [], false, rfl, Nat.le_refl _, by simp, h⟩, m, rfl⟩
theorem cutOne_some {l : List UInt8} {c : UInt8} {k : Nat} {w : World} {s t : ByteArray} (h : cutAt c l = some (l.take k, l.drop (k + 1))) (hs : s = str (l.take k)) (ht : t = str (l.drop (k + 1))) (m : Nat) : CutOne l c w (.returned (.tuple #[.string s, .string t, .bool true])) (w.drewN m) := by
  subst hs ht; exact ⟨⟨_, _, true, rfl, by simp; omega, by simp, h⟩, m, rfl⟩
set_option maxRecDepth 100000 in
set_option maxHeartbeats 400000 in
theorem liteCut_any (s : ByteArray) (c : UInt8) (w : World) (hs : s.size ≤ 4611686018427387904) :
    Calls Tryd.prog 80 #[.string s, .string ⟨#[c]⟩] w (CutOne s.data.toList c w) := by
  have hz1 : (ByteArray.mk #[c]).size = 1 := rfl
  rcases idx_cut c s.data.toList with ⟨h1, h2⟩ | ⟨k, h1, h2, h3⟩
  · have H1 := Lib.hid h1
    have H2 := Lib.hid h2
    clear h1 h2
    go_enter Tryd.func80, Tryd.ntmps80
    go_wp2_with fail
    refine (Tryd.stringslite_Index_one s c _).mono ?_
    rintro e w1 ⟨rfl, rfl⟩
    rw [H1.out]
    go_wp2
    go_ret3
    exact ⟨⟨s.data.toList, [], false, by rw [str_of]; rfl, Nat.le_refl _, by simp, H2.out⟩, 0, rfl⟩
  · have hk : k < s.size := by rw [size_list] at h2; exact h2
    have hk1 : k + 1 ≤ s.size := hk
    have H1 := Lib.hid h1
    have H3 := Lib.hid h3
    have HT : Hid (s.extract 0 k = str (s.data.toList.take k)) := ext_take s k
    have HU : Hid (s.extract (k + 1) s.size = str (s.data.toList.drop (k + 1))) := ext_drop s (k + 1)
    clear h1 h2 h3
    go_enter Tryd.func80, Tryd.ntmps80
    go_wp2_with fail
    refine (Tryd.stringslite_Index_one s c _).mono ?_
    rintro e w1 ⟨rfl, rfl⟩
    rw [H1.out]
    go_wp2
    go_quiet (fail)
    go_wp2
    go_ret3
    exact cutOne_some H3.out HT.out HU.out _
theorem cut_any (s : ByteArray) (c : UInt8) (w : World) (hs : s.size ≤ 4611686018427387904) :
    Calls Tryd.prog 66 #[.string s, .string ⟨#[c]⟩] w (CutOne s.data.toList c w) := by
  go_enter Tryd.func66, Tryd.ntmps66
  go_wp2_with fail
  refine (liteCut_any s c _ hs).mono ?_
  rintro e w1 ⟨⟨a, b, o, rfl, h1, h2, h3⟩, m, rfl⟩
  go_wp2
  go_ret3
  exact ⟨⟨a, b, o, rfl, h1, h2, h3⟩, m, rfl⟩
end Go.Proofs.YtbfjbabpeigloabDoor
