/-
  Parts between boundaries: what the program's functions return. No statement is proved here.
-/
import Derived.Test.YtcdmjckkencgoaaGreatDoorPartN
import Derived.Test.YtcdmjckkencgoaaGreatDoorRowS
import Derived.Test.YtcdmjckkencgoaaGreatDoorAtoms
import Derived.Deep.QuietTactic
import Derived.BigQuiet
namespace Go.Proofs.YtcdmjckkencgoaaGreatDoor
open Go.RowKit

theorem str_appP (l k : List UInt8) : str l ++ str k = str (l ++ k) := by
  apply bytes_ext; rw [str_list]; simp [str]
theorem beg_str (s : ByteArray) : (⟨#[45, 45]⟩ : ByteArray) ++ s = str (begL s.data.toList) := by
  apply bytes_ext; rw [str_list, Joins.data_append]; rfl
theorem end_str (s : ByteArray) : str (begL s.data.toList) ++ (⟨#[45, 45]⟩ : ByteArray) = str (endL s.data.toList) := by
  apply bytes_ext; rw [Joins.data_append, str_list, str_list]; unfold begL endL; simp
theorem beg_size (b : List UInt8) : (str (begL b)).size = b.length + 2 := by rw [str_size]; simp [begL]
theorem end_size (b : List UInt8) : (str (endL b)).size = b.length + 4 := by rw [str_size]; simp [endL]
theorem last_cases {α : Type} (l : List α) : l = [] ∨ ∃ r c, l = r ++ [c] := by
  rcases List.eq_nil_or_concat l with h | ⟨r, c, h⟩
  · exact .inl h
  · exact .inr ⟨r, c, by simpa using h⟩
theorem str_ne_iff {x : List UInt8} {Y : ByteArray} {y : List UInt8} (h : Y = str y) : (str x = Y) ↔ x = y := by
  subst h; exact ⟨fun e => by rw [← str_list x, e, str_list], fun e => by rw [e]⟩
theorem sb_t {x : List UInt8} {Y : ByteArray} {y : List UInt8} (h : Y = str y) (e : x = y) : ((str x).toList == Y.toList) = true := by rw [beq_dec, decide_eq_true_iff]; exact (str_ne_iff h).2 e
theorem sb_f {x : List UInt8} {Y : ByteArray} {y : List UInt8} (h : Y = str y) (e : x ≠ y) : ((str x).toList == Y.toList) = false := by rw [beq_dec, decide_eq_false_iff_not]; exact fun c => e ((str_ne_iff h).1 c)
theorem isBnd_iff {b : List UInt8} : isBnd b = true ↔ (∀ x ∈ b, alnumB x = true) ∧ 1 ≤ b.length ∧ b.length ≤ 20 := by
  unfold isBnd; simp only [Bool.and_eq_true, decide_eq_true_eq, List.all_eq_true]
theorem isBnd_bad (s : ByteArray) (k : Nat) (hk : k < s.size) (h : alnumB s[k] = false) : isBnd s.data.toList = false := by
  have hm : s[k] ∈ s.data.toList := by simp [ByteArray.getElem_eq_getElem_data]
  have : s.data.toList.all alnumB = false := by rw [List.all_eq_false]; exact ⟨_, hm, by simp [h]⟩
  unfold isBnd; rw [this]; rfl
theorem isBnd_len (s : ByteArray) (h : s.size < 1 ∨ 20 < s.size) : isBnd s.data.toList = false := by
  unfold isBnd; rw [size_list]
  rcases h with h | h
  · rw [decide_eq_false (by omega)]; simp
  · rw [decide_eq_false (p := s.size ≤ 20) (by omega)]; simp
theorem isBnd_good (s : ByteArray) (h1 : 1 ≤ s.size) (h2 : s.size ≤ 20) (h : ∀ j, (h' : j < s.size) → alnumB s[j] = true) : isBnd s.data.toList = true := by
  refine isBnd_iff.2 ⟨fun x hx => ?_, by rw [size_list]; exact h1, by rw [size_list]; exact h2⟩
  obtain ⟨j, hj, rfl⟩ := List.getElem_of_mem hx
  exact h j hj
theorem bnd_size {s : ByteArray} (h : isBnd s.data.toList = true) : 1 ≤ s.size ∧ s.size ≤ 20 := by
  have := isBnd_iff.1 h; rw [size_list] at this; exact this.2
def FreshRet (o : Option (List UInt8)) (w : World) (e : Ending) (w' : World) : Prop := e = .returned (.tuple #[.string (str (o.getD [])), .bool o.isSome]) ∧ Below w.heap.size w w'
theorem freshRet_none {o : Option (List UInt8)} {w w' : World} (h : o = none) (hb : Below w.heap.size w w') : FreshRet o w (.returned (.tuple #[.string ⟨#[]⟩, .bool false])) w' := by
  subst h; exact ⟨rfl, hb⟩
theorem freshRet_some {o : Option (List UInt8)} {b : List UInt8} {X : ByteArray} {w w' : World} (h : o = some b) (hX : X = str b) (hb : Below w.heap.size w w') : FreshRet o w (.returned (.tuple #[.string X, .bool true])) w' := by
  subst h hX; exact ⟨rfl, hb⟩
theorem bName_strP (n : Nat) : (⟨#[98]⟩ : ByteArray) ++ str (Lib.decDigits n) = str (bName n) := by
  apply bytes_ext; rw [str_list, Joins.data_append, str_list]; rfl
theorem decD_smallP {n : Nat} (h : n < 100) : (str (Lib.decDigits n)).size ≤ 2 := by
  have := bName_len h
  unfold bName at this
  rw [str_size]
  rw [List.length_cons] at this
  split at this <;> omega
set_option maxRecDepth 100000 in
set_option maxHeartbeats 2000000 in
theorem boundaryValid_any (s : ByteArray) (w : World) (hs : s.size ≤ 1073741824) :
    Calls Tryz.prog 135 #[.string s] w fun e w' => e = .returned (.bool (isBnd s.data.toList)) ∧ w = w' := by
  go_enter Tryz.func135, Tryz.ntmps135
  go_wp2_with fail
  go_loop [3] (fun i => ∃ k : Nat, k ≤ s.size ∧ i = .int .i64 k ∧ ∀ j, (h : j < k) → (h' : j < s.size) → alnumB s[j] = true) (fun i => s.size - (intOf i).toNat)
  case atStart => exact ⟨0, Nat.zero_le _, rfl, fun j h => by omega⟩
  case round =>
    obtain ⟨k, hk, rfl, hall⟩ := hrel
    have H := Lib.hid hall
    clear hall
    by_cases hlt : k < s.size
    · cases h1 : letB s[k]
      · cases h2 : digB s[k]
        · have HN := Lib.hid (isBnd_bad s k hlt (by rw [alnum_eq, h1, h2]; rfl))
          have H1 := Lib.hid h1
          have H2 := Lib.hid h2
          clear h1 h2
          go_wp2_with fail
          refine (isLetter_any _ _).mono ?_
          rintro e w1 ⟨rfl, rfl⟩
          rw [H1.out]
          go_wp2_with fail
          refine (isDigit_any _ _).mono ?_
          rintro e w1 ⟨rfl, rfl⟩
          rw [H2.out]
          go_wp2
          go_ret
          exact ⟨ret_bool HN.out.symm, rfl⟩
        · have HN : Hid (alnumB s[k] = true) := by show _ = _; rw [alnum_eq, h2]; simp
          have H1 := Lib.hid h1
          have H2 := Lib.hid h2
          clear h1 h2
          go_wp2_with fail
          refine (isLetter_any _ _).mono ?_
          rintro e w1 ⟨rfl, rfl⟩
          rw [H1.out]
          go_wp2_with fail
          refine (isDigit_any _ _).mono ?_
          rintro e w1 ⟨rfl, rfl⟩
          rw [H2.out]
          go_wp2
          go_round
          case rel => exact ⟨k + 1, by omega, by go_num, fun j h h' => by
            by_cases e : j = k
            · subst e; exact HN.out
            · exact H.out j (by omega) h'⟩
          case measure => simp [intOf]; omega
      · have HN : Hid (alnumB s[k] = true) := by show _ = _; rw [alnum_eq, h1]; simp
        have H1 := Lib.hid h1
        clear h1
        go_wp2_with fail
        refine (isLetter_any _ _).mono ?_
        rintro e w1 ⟨rfl, rfl⟩
        rw [H1.out]
        go_wp2
        go_round
        case rel => exact ⟨k + 1, by omega, by go_num, fun j h h' => by
          by_cases e : j = k
          · subst e; exact HN.out
          · exact H.out j (by omega) h'⟩
        case measure => simp [intOf]; omega
    · by_cases h0 : s.size = 0
      · have HN := Lib.hid (isBnd_len s (.inl (by omega)))
        have he := empty_t h0
        have H0 := Lib.hid h0
        clear h0
        go_wp2
        go_ret
        exact ⟨ret_bool HN.out.symm, rfl⟩
      · have he := empty_f (s := s) (by omega)
        by_cases h20 : s.size ≤ 20
        · have HN := Lib.hid (isBnd_good s (by omega) h20 (fun j h' => H.out j (by omega) h'))
          have d1 : decide ((s.size : Int) ≤ 20) = true := by simp; omega
          go_wp2
          go_ret
          exact ⟨ret_bool HN.out.symm, rfl⟩
        · have HN := Lib.hid (isBnd_len s (.inr (by omega)))
          have d1 : decide ((s.size : Int) ≤ 20) = false := by simp; omega
          go_wp2
          go_ret
          exact ⟨ret_bool HN.out.symm, rfl⟩
set_option maxRecDepth 100000 in
set_option maxHeartbeats 400000 in
theorem marksOf_any (s : ByteArray) (w : World) (hs : s.size ≤ 1000000) :
    Calls Tryz.prog 136 #[.string s] w fun e w' => e = .returned (.tuple #[.string (str (begL s.data.toList)), .string (str (endL s.data.toList))]) ∧ w = w' := by
  have HB := Lib.hid (beg_str s)
  have HE := Lib.hid (end_str s)
  have hz := beg_size s.data.toList
  rw [size_list] at hz
  have HB2 : Hid ((⟨#[45, 45]⟩ : ByteArray) ++ s ++ ⟨#[45, 45]⟩ = str (endL s.data.toList)) := by show _ = _; rw [HB.out, HE.out]
  have z2 : (⟨#[45, 45]⟩ : ByteArray).size = 2 := rfl
  clear hz
  go_enter Tryz.func136, Tryz.ntmps136
  go_wp2
  go_ret2
  exact ⟨rfl, rfl⟩
def idxS (xs : List (List UInt8)) (y : List UInt8) : Int := if xs.contains y then ((xs.takeWhile (· != y)).length : Int) else -1
theorem idxS_at {xs : List (List UInt8)} {y : List UInt8} {k : Nat} (hk : k < xs.length) (h : xs[k] = y) (h2 : ∀ j, j < k → (hj : j < xs.length) → xs[j] ≠ y) : idxS xs y = (k : Int) := by
  unfold idxS
  have hm : xs.contains y = true := by rw [List.contains_iff_mem, ← h]; exact List.getElem_mem hk
  rw [if_pos hm]
  have key : ∀ (xs : List (List UInt8)) (k : Nat) (hk : k < xs.length), xs[k] = y → (∀ j, j < k → (hj : j < xs.length) → xs[j] ≠ y) → (xs.takeWhile (· != y)).length = k := by
    intro xs
    induction xs with
    | nil => intro k hk; simp at hk
    | cons x xs ih =>
      intro k hk h h2
      match k, hk, h, h2 with
      | 0, _, h, _ =>
        have h : x = y := h
        rw [List.takeWhile_cons_of_neg (by simp [h])]; rfl
      | k + 1, hk, h, h2 =>
        have h0 : x ≠ y := h2 0 (by omega) (by omega)
        rw [List.takeWhile_cons_of_pos (by simpa using h0), List.length_cons, ih k (by simpa using hk) h (fun j hj hl => h2 (j + 1) (by omega) (by simpa using hl))]
  rw [key xs k hk h h2]
theorem idxS_none {xs : List (List UInt8)} {y : List UInt8} (h2 : ∀ j, (hj : j < xs.length) → xs[j] ≠ y) : idxS xs y = -1 := by
  unfold idxS
  rw [if_neg]
  rw [List.contains_iff_mem]; intro hm
  obtain ⟨j, hj, h⟩ := List.getElem_of_mem hm
  exact h2 j hj h
theorem idxS_has (xs : List (List UInt8)) (y : List UInt8) : decide (0 ≤ idxS xs y) = xs.contains y := by
  unfold idxS
  split
  · rename_i h; rw [h]; simp
  · rename_i h; simp only [Bool.not_eq_true] at h; rw [h]; decide
set_option maxRecDepth 100000 in
set_option maxHeartbeats 1000000 in
theorem indexS_any (a : Option Addr) (n c : Nat) (xs : List (List UInt8)) (y : List UInt8) (w : World) (hr : RdL w a n xs) (hn : n ≤ 1073741824) :
    Calls Tryz.prog 63 #[.slice a n c, .string (str y)] w fun e w' => e = .returned (.int .i64 (idxS xs y)) ∧ Below w.heap.size w w' := by
  obtain ⟨hl, hr2⟩ := hr
  have HLEN := Lib.hid hl
  have HR := Lib.hid hr2
  clear hl hr2
  obtain ⟨Y, hY⟩ : ∃ Y, Y = str y := ⟨_, rfl⟩
  have HY := Lib.hid hY
  rw [← hY]
  clear hY
  go_enter Tryz.func63, Tryz.ntmps63
  go_wp2_with fail
  go_loopw [8] (fun i wr => ∃ (k : Nat), k ≤ n ∧ i = .int .i64 k ∧ Below w.heap.size w wr ∧ ∀ j, j < k → (hj : j < xs.length) → xs[j] ≠ y) (fun i _ => n - (intOf i).toNat)
  case atStart => exact ⟨0, Nat.zero_le _, rfl, Below.refl _ _, fun j h => by omega⟩
  case round =>
    obtain ⟨k, hk, rfl, hb, hall⟩ := hrel
    have HA := Lib.hid hall
    clear hall
    by_cases hlt : k < n
    · have hkx : k < xs.length := by rw [HLEN.out]; exact hlt
      obtain ⟨b, off, rfl, hbl, hcell⟩ := HR.out.resolve_left (by omega)
      have q0 : wr.cell? ⟨b, off + k, none⟩ = some (.string (str xs[k])) := by rw [below_at hb hbl]; exact hcell k hkx
      clear hcell
      have HQ : Hid ((str xs[k] = Y) = (xs[k] = y)) := by
        show _ = _
        rw [HY.out]
        exact propext ⟨fun h => by rw [← str_list xs[k], h, str_list], fun h => by rw [h]⟩
      by_cases hq : xs[k] = y
      · have HF := Lib.hid (idxS_at hkx hq (fun j hj hl => HA.out j hj hl))
        have e1 : (Y.toList == (str xs[k]).toList) = true := by rw [beq_dec, decide_eq_true_iff]; exact (HQ.out.symm ▸ hq : str xs[k] = Y).symm
        have e2 : ((str xs[k]).toList == Y.toList) = true := by rw [beq_dec, decide_eq_true_iff]; exact (HQ.out.symm ▸ hq : str xs[k] = Y)
        clear hq HQ
        generalize str xs[k] = X at *
        go_wp2
        go_ret
        exact ⟨ret_int HF.out.symm, hb⟩
      · have e1 : (Y.toList == (str xs[k]).toList) = false := by rw [beq_dec, decide_eq_false_iff_not]; intro h; exact hq (HQ.out ▸ h.symm)
        have e2 : ((str xs[k]).toList == Y.toList) = false := by rw [beq_dec, decide_eq_false_iff_not]; intro h; exact hq (HQ.out ▸ h)
        have HN := Lib.hid hq
        clear hq HQ
        generalize str xs[k] = X at *
        go_wp2
        go_roundw
        case rel => exact ⟨k + 1, by omega, by go_num, hb, fun j hj hjx => by
          by_cases e : j = k
          · subst e; exact HN.out
          · exact HA.out j (by omega) hjx⟩
        case measure => simp [intOf]; omega
    · have HF := Lib.hid (idxS_none (y := y) (fun j hj => HA.out j (by have := HLEN.out; omega) hj))
      go_wp2
      go_ret
      exact ⟨ret_int HF.out.symm, hb⟩
theorem containsS_any (a : Option Addr) (n c : Nat) (xs : List (List UInt8)) (y : List UInt8) (w : World) (hr : RdL w a n xs) (hn : n ≤ 1073741824) :
    Calls Tryz.prog 180 #[.slice a n c, .string (str y)] w fun e w' => e = .returned (.bool (xs.contains y)) ∧ Below w.heap.size w w' := by
  have HX := Lib.hid (idxS_has xs y)
  have HS : Hid (∀ u, RdL u a n xs → Calls Tryz.prog 63 #[.slice a n c, .string (str y)] u fun e w' => e = .returned (.int .i64 (idxS xs y)) ∧ Below u.heap.size u w') := fun u h => indexS_any a n c xs y u h hn
  generalize idxS xs y = m at *
  generalize xs.contains y = q at *
  generalize str y = Y at *
  have HR := Lib.hid hr
  clear hr
  go_enter Tryz.func180, Tryz.ntmps180
  go_wp2_with fail
  refine (HS.out _ HR.out).mono ?_
  rintro e w1 ⟨rfl, hb1⟩
  go_wp2
  go_ret
  exact ⟨ret_bool HX.out, hb1⟩
set_option maxRecDepth 100000 in
set_option maxHeartbeats 1000000 in
theorem hasMark_any (a : Option Addr) (n c : Nat) (xs : List (List UInt8)) (s : ByteArray) (w : World) (hr : RdL w a n xs) (hn : n ≤ 1073741824) (hs : s.size ≤ 1000000) :
    Calls Tryz.prog 156 #[.slice a n c, .string s] w fun e w' => e = .returned (.bool (!freeB s.data.toList xs)) ∧ Below w.heap.size w w' := by
  have HF : Hid ((!freeB s.data.toList xs) = (xs.contains (begL s.data.toList) || xs.contains (endL s.data.toList))) := by show _ = _; rw [freeB_any, Bool.not_not]
  have H1 : Hid (∀ u, RdL u a n xs → Calls Tryz.prog 180 #[.slice a n c, .string (str (begL s.data.toList))] u fun e w' => e = .returned (.bool (xs.contains (begL s.data.toList))) ∧ Below u.heap.size u w') := fun u h => containsS_any a n c xs _ u h hn
  have H2 : Hid (∀ u, RdL u a n xs → Calls Tryz.prog 180 #[.slice a n c, .string (str (endL s.data.toList))] u fun e w' => e = .returned (.bool (xs.contains (endL s.data.toList))) ∧ Below u.heap.size u w') := fun u h => containsS_any a n c xs _ u h hn
  have HM := Lib.hid (fun u => marksOf_any s u hs)
  generalize xs.contains (begL s.data.toList) = q1 at *
  generalize xs.contains (endL s.data.toList) = q2 at *
  generalize str (begL s.data.toList) = Y1 at *
  generalize str (endL s.data.toList) = Y2 at *
  have HR := Lib.hid hr
  clear hr
  cases q1
  all_goals
    go_enter Tryz.func156, Tryz.ntmps156
    go_wp2_with fail
    refine (HM.out _).mono ?_
    rintro e w1 ⟨rfl, rfl⟩
    go_wp2_with fail
    refine (H1.out _ HR.out).mono ?_
    rintro e w2 ⟨rfl, hb2⟩
    first
      | (go_wp2_with fail
         refine (H2.out _ (HR.out.below hb2)).mono ?_
         rintro e w3 ⟨rfl, hb3⟩
         go_wp2
         go_ret
         exact ⟨ret_bool (by rw [HF.out]; rfl), nx hb2 hb3⟩)
      | (go_wp2
         go_ret
         exact ⟨ret_bool (by rw [HF.out]; rfl), hb2⟩)
/-- What splitting leaves: the parts, and whether there are any. -/
def PartsRet (o : Option (List (List (List UInt8)))) (w : World) (e : Ending) (w' : World) : Prop := ∃ v us, e = .returned (.tuple #[v, .bool o.isSome]) ∧ OwnSS w.heap.size v us (o.getD []) w' ∧ Below w.heap.size w w'
theorem partsRet_none {o : Option (List (List (List UInt8)))} {w w' : World} (h : o = none) (hb : Below w.heap.size w w') : PartsRet o w (.returned (.tuple #[.slice none 0 0, .bool false])) w' := by
  subst h; exact ⟨_, [], rfl, OwnSS.nil _ _, hb⟩
theorem partsRet_some {o : Option (List (List (List UInt8)))} {ps : List (List (List UInt8))} {w w' : World} {v : Value} {us : List Value} (h : o = some ps) (ho : OwnSS w.heap.size v us ps w') (hb : Below w.heap.size w w') : PartsRet o w (.returned (.tuple #[v, .bool true])) w' := by
  subst h; exact ⟨v, us, rfl, ho, hb⟩
set_option maxRecDepth 100000 in
set_option maxHeartbeats 4000000 in
theorem splitParts_any (a : Option Addr) (n c : Nat) (xs : List (List UInt8)) (s : ByteArray) (w : World) (hr : RdL w a n xs) (hn : n ≤ 1048576) (hs : s.size ≤ 1073741824) :
    Calls Tryz.prog 98 #[.slice a n c, .string s] w (PartsRet (splitP xs s.data.toList) w) := by
  obtain ⟨hl, hr2⟩ := hr
  have HLEN := Lib.hid hl
  have HR := Lib.hid hr2
  clear hl hr2
  cases hv : isBnd s.data.toList
  · have HP := Lib.hid (splitP_no (ls := xs) hv)
    have HV := Lib.hid hv
    clear hv
    go_enter Tryz.func98, Tryz.ntmps98
    go_wp2_with fail
    refine (boundaryValid_any s _ hs).mono ?_
    rintro e w1 ⟨rfl, rfl⟩
    rw [HV.out]
    go_wp2
    go_ret2
    exact partsRet_none HP.out (Below.refl _ _)
  · have HP := Lib.hid (splitP_yes (ls := xs) hv)
    have hz := bnd_size hv
    have HV := Lib.hid hv
    clear hv
    have HM : Hid (∀ u, Calls Tryz.prog 136 #[.string s] u fun e w' => e = .returned (.tuple #[.string (str (begL s.data.toList)), .string (str (endL s.data.toList))]) ∧ u = w') := fun u => marksOf_any s u (by omega)
    obtain ⟨Y1, hY1⟩ : ∃ Y, Y = str (begL s.data.toList) := ⟨_, rfl⟩
    obtain ⟨Y2, hY2⟩ : ∃ Y, Y = str (endL s.data.toList) := ⟨_, rfl⟩
    rw [← hY1, ← hY2] at HM
    have HY1 := Lib.hid hY1
    have HY2 := Lib.hid hY2
    clear hY1 hY2 hz
    go_enter Tryz.func98, Tryz.ntmps98
    go_wp2_with fail
    refine (boundaryValid_any s _ hs).mono ?_
    rintro e w1 ⟨rfl, rfl⟩
    rw [HV.out]
    go_wp2_with fail
    refine (HM.out _).mono ?_
    rintro e w2 ⟨rfl, rfl⟩
    go_wp2_with fail
    go_loopw [8, 22] (fun v i wr => ∃ (k : Nat) (us : List Value) (ps : List (List (List UInt8))), k ≤ n ∧ i = .int .i64 k ∧ ps.length ≤ k ∧ (∀ p ∈ ps, p.length ≤ k) ∧ goesP s.data.toList xs k ps ∧ OwnSS w.heap.size v us ps wr ∧ Below w.heap.size w wr) (fun _ i _ => n - (intOf i).toNat)
    case atStart => exact ⟨0, [], [], Nat.zero_le _, rfl, Nat.le_refl _, (fun p hp => by cases hp), goesP_start _ _, OwnSS.nil _ _, Below.refl _ _⟩
    case round =>
      obtain ⟨k, us, ps, hk, rfl, hpl, hpk, hg, ho, hb⟩ := hrel
      have HG := Lib.hid hg
      have HO := Lib.hid ho
      have HPK := Lib.hid hpk
      have hbs := hb.size
      clear hg hpk
      by_cases hlt : k < n
      · have hkx : k < xs.length := by rw [HLEN.out]; exact hlt
        obtain ⟨b, off, rfl, hbl, hcell⟩ := HR.out.resolve_left (by omega)
        have q0 : wr.cell? ⟨b, off + k, none⟩ = some (.string (str xs[k])) := by rw [below_at hb hbl]; exact hcell k hkx
        clear hcell
        by_cases h1 : xs[k] = begL s.data.toList
        · have HN := Lib.hid (goesP_beg HG.out hkx h1)
          have e1 := sb_t HY1.out h1
          clear h1
          generalize str xs[k] = X at *
          obtain ⟨a3, c3, rfl, hd3, _, _, _⟩ := ho.read
          clear ho hd3
          have HA : Hid (OwnSS w.heap.size (.slice a3 ps.length c3) us ps (wr.alloc (.cells #[.slice none 0 0] 23))) := HO.out.keep ((Below.refl _ _).alloc (Nat.le_refl _) _)
          go_wp2_with (at_builtin; refine wpList_append_SS rfl _ _ rfl w.heap.size _ (.slice none 0 0) us ps [] wr.heap.size rfl rfl ?c1 rfl HA.out (OwnL.nil _ _) (fun g h => by cases h) (fun i z g _ h => by cases h) ?c2 ?c3 ?_)
          case c1 => rw [World.cell?_alloc_at _ _ _ _ rfl]; rfl
          case c2 => simp; omega
          case c3 => omega
          intro v' w3 hO3 hgr _
          have hb3 : Below w.heap.size w w3 := (hb.alloc hbs _).grown hgr (by simp; omega) (fun g hg => (HA.out.lt.1 g hg).1)
          go_wp2
          go_roundw
          case rel => exact ⟨k + 1, _, _, by omega, by go_num, by simp; omega, (fun p hp => by
            rcases List.mem_append.1 hp with hp | hp
            · have := HPK.out p hp; omega
            · rw [List.mem_singleton.1 hp]; simp), HN.out, hO3, hb3⟩
          case measure => simp [intOf]; omega
        · have e1 := sb_f HY1.out h1
          rcases last_cases ps with rfl | ⟨qs, cur, rfl⟩
          · have HN := Lib.hid (goesP_skip HG.out hkx h1)
            clear h1
            generalize str xs[k] = X at *
            obtain ⟨a3, c3, rfl, hd3, _, _, _⟩ := ho.read
            clear ho hd3
            go_wp2
            go_roundw
            case rel => exact ⟨k + 1, us, [], by omega, by go_num, by simp, (fun p hp => by cases hp), HN.out, HO.out, hb⟩
            case measure => simp [intOf]; omega
          · have hlen : (qs ++ [cur]).length = qs.length + 1 := by simp
            obtain ⟨g, cap, rfl, hBg, hgl, hcap⟩ := HO.out.cases (by omega)
            rw [hlen] at hcap hpl
            rw [hlen]
            by_cases h2 : xs[k] = endL s.data.toList
            · have HR2 := Lib.hid (goesP_end HG.out (by simp) hkx h2)
              have e2 := sb_t HY2.out h2
              clear h1 h2
              generalize str xs[k] = X at *
              clear ho
              go_wp2
              go_ret2
              exact partsRet_some (HP.out.trans HR2.out) (by have := HO.out; rw [hlen] at this; exact this) hb
            · have HN := Lib.hid (goesP_line HG.out hkx h1 h2)
              have e2 := sb_f HY2.out h2
              have hul := HO.out.len
              obtain ⟨u, hu⟩ : ∃ u, us[qs.length]? = some u := ⟨us[qs.length]'(by omega), List.getElem?_eq_getElem (by omega)⟩
              have hcu := HO.out.each qs.length u cur hu (by simp)
              have hcc := HO.out.cellAt hu
              obtain ⟨a4, c4, rfl, _, _, _, hnc4⟩ := hcu.readc
              have hck := HPK.out cur (by simp)
              have HU := Lib.hid hu
              have HXE : Hid ((str xs[k]).data.toList = xs[k]) := str_list _
              clear h1 h2 ho hul hu
              generalize str xs[k] = X at *
              have HA : Hid (OwnSS w.heap.size (.slice (some ⟨g, 0, none⟩) (qs.length + 1) cap) us (qs ++ [cur]) (wr.alloc (.cells #[.string X] 9))) := by have := HO.out.keep ((Below.refl _ _).alloc (Nat.le_refl _) (.cells #[.string X] 9)); rw [hlen] at this; exact this
              have HC4 : Hid (OwnL w.heap.size (.slice a4 cur.length c4) cur (wr.alloc (.cells #[.string X] 9))) := hcu.keep ((Below.refl _ _).alloc (Nat.le_refl _) _)
              clear hcu
              go_wp2_with (at_builtin; refine wpList_append_1L rfl _ _ rfl w.heap.size _ cur X wr.heap.size rfl rfl ?c1 HC4.out ?c2 ?c3 ?_)
              case c1 => rw [World.cell?_alloc_at _ _ _ _ rfl]; rfl
              case c2 => simp; omega
              case c3 => omega
              intro v' w3 hO3 hgr hat
              obtain ⟨a7, c7, rfl, _, _, _, _⟩ := hO3.readc
              have hcl : (cur ++ [X.data.toList]).length = cur.length + 1 := by simp
              rw [hcl] at hO3 hat
              rw [hcl]
              clear hcl
              obtain ⟨f1, f2, f3⟩ := HA.out.store (u' := .slice a7 (cur.length + 1) c7) (p' := cur ++ [X.data.toList]) rfl HU.out hgr hO3 hat (by simp)
              have hb3 : Below w.heap.size w w3 := (hb.alloc hbs _).grown hgr (by simp; omega) (fun g hg => (HC4.out.lt g hg).1)
              have HS3 := Lib.hid f3
              have HPS : Hid ((qs ++ [cur]).set qs.length (cur ++ [X.data.toList]) = qs ++ [cur ++ [X.data.toList]]) := by show _ = _; simp
              have hql : (qs.length : Int) + 1 - 1 = (qs.length : Int) := by omega
              clear f3 hgr hat hO3
              go_wp2
              go_roundw
              case rel => exact ⟨k + 1, us.set qs.length (.slice a7 (cur.length + 1) c7), qs ++ [cur ++ [X.data.toList]], by omega, by go_num, by simp; omega, (fun p hp => by
                rcases List.mem_append.1 hp with hp | hp
                · have := HPK.out p (List.mem_append_left _ hp); omega
                · rw [List.mem_singleton.1 hp]; simp; omega), (by rw [← HXE.out] at HN; exact HN.out), (by have := HS3.out; rw [HPS.out] at this; exact this), hb3.setCell hBg _⟩
              case measure => simp [intOf]; omega
      · have HR2 := Lib.hid (goesP_out HG.out (by rw [HLEN.out]; omega))
        clear ho
        go_wp2
        go_ret2
        exact partsRet_none (HP.out.trans HR2.out) hb
/-- What joining leaves: the lines, and whether there are any. -/
def LinesRet (o : Option (List (List UInt8))) (w : World) (e : Ending) (w' : World) : Prop := ∃ v, e = .returned (.tuple #[v, .bool o.isSome]) ∧ OwnL w.heap.size v (o.getD []) w' ∧ Below w.heap.size w w'
theorem linesRet_none {o : Option (List (List UInt8))} {w w' : World} (h : o = none) (hb : Below w.heap.size w w') : LinesRet o w (.returned (.tuple #[.slice none 0 0, .bool false])) w' := by
  subst h; exact ⟨_, rfl, OwnL.nil _ _, hb⟩
theorem linesRet_some {o : Option (List (List UInt8))} {ps : List (List UInt8)} {w w' : World} {v : Value} (h : o = some ps) (ho : OwnL w.heap.size v ps w') (hb : Below w.heap.size w w') : LinesRet o w (.returned (.tuple #[v, .bool true])) w' := by
  subst h; exact ⟨v, rfl, ho, hb⟩
set_option maxRecDepth 100000 in
set_option maxHeartbeats 4000000 in
theorem joinParts_any (a : Option Addr) (n c : Nat) (ps : List (List (List UInt8))) (s : ByteArray) (w : World) (hr : RdSS w a n ps) (hn : n ≤ 1048576) (hps : sumP ps ≤ 4000000) (hs : s.size ≤ 1073741824) :
    Calls Tryz.prog 123 #[.slice a n c, .string s] w (LinesRet (joinP ps s.data.toList) w) := by
  obtain ⟨hl, hr2⟩ := hr
  have HLEN := Lib.hid hl
  have HR := Lib.hid hr2
  clear hl hr2
  cases hv : isBnd s.data.toList
  · have HP := Lib.hid (joinP_no (ps := ps) hv)
    have HV := Lib.hid hv
    clear hv
    go_enter Tryz.func123, Tryz.ntmps123
    go_wp2_with fail
    refine (boundaryValid_any s _ hs).mono ?_
    rintro e w1 ⟨rfl, rfl⟩
    rw [HV.out]
    go_wp2
    go_ret2
    exact linesRet_none HP.out (Below.refl _ _)
  · have hz := bnd_size hv
    have HV := Lib.hid hv
    by_cases h0 : n = 0
    · have HP : Hid (joinP ps s.data.toList = none) := by show _ = _; rw [List.length_eq_zero_iff.1 (HLEN.out.trans h0), joinP_nil]
      subst h0
      clear hv hz
      go_enter Tryz.func123, Tryz.ntmps123
      go_wp2_with fail
      refine (boundaryValid_any s _ hs).mono ?_
      rintro e w1 ⟨rfl, rfl⟩
      rw [HV.out]
      go_wp2
      go_ret2
      exact linesRet_none HP.out (Below.refl _ _)
    have HPN : Hid (ps ≠ []) := by show _ ≠ _; intro e; exact h0 (by rw [← HLEN.out, e]; rfl)
    have e0 : ((n : Int) == 0) = false := by rw [beq_eq_false_iff_ne]; omega
    have HM : Hid (∀ u, Calls Tryz.prog 136 #[.string s] u fun e w' => e = .returned (.tuple #[.string (str (begL s.data.toList)), .string (str (endL s.data.toList))]) ∧ u = w') := fun u => marksOf_any s u (by omega)
    have HS4 := Lib.hid hps
    obtain ⟨Y1, hY1⟩ : ∃ Y, Y = str (begL s.data.toList) := ⟨_, rfl⟩
    obtain ⟨Y2, hY2⟩ : ∃ Y, Y = str (endL s.data.toList) := ⟨_, rfl⟩
    rw [← hY1, ← hY2] at HM
    have HY1 : Hid (Y1.data.toList = begL s.data.toList) := by show _ = _; rw [hY1, str_list]
    have HY2 : Hid (Y2.data.toList = endL s.data.toList) := by show _ = _; rw [hY2, str_list]
    obtain ⟨b, off, rfl, hbl, hcell⟩ := HR.out.resolve_left h0
    have HC := Lib.hid hcell
    have hs6 : s.size ≤ 1000000 := by omega
    clear hv hY1 hY2 hz hps hcell h0
    go_enter Tryz.func123, Tryz.ntmps123
    go_wp2_with fail
    refine (boundaryValid_any s _ hs).mono ?_
    rintro e w1 ⟨rfl, rfl⟩
    rw [HV.out]
    go_wp2_with fail
    refine (HM.out _).mono ?_
    rintro e w2 ⟨rfl, rfl⟩
    go_wp2_with fail
    go_loopw [8, 26] (fun v i wr => ∃ (k : Nat), k ≤ n ∧ i = .int .i64 k ∧ (∀ j, j < k → (hj : j < ps.length) → freeB s.data.toList ps[j] = true) ∧ OwnL w.heap.size v (partsL s.data.toList (ps.take k)) wr ∧ Below w.heap.size w wr) (fun _ i _ => n - (intOf i).toNat)
    case atStart => exact ⟨0, Nat.zero_le _, rfl, (fun j hj => by omega), OwnL.nil _ _, Below.refl _ _⟩
    case round =>
      obtain ⟨k, hk, rfl, hall, ho, hb⟩ := hrel
      have HALL := Lib.hid hall
      have hbs := hb.size
      have hpl := partsL_len s.data.toList (ps.take k)
      have hpt := sumP_take ps k
      have hs4 := HS4.out
      have hlen4 : (partsL s.data.toList (ps.take k)).length ≤ 4000000 := by omega
      clear hall hpl hpt hs4
      by_cases hlt : k < n
      · have hkx : k < ps.length := by rw [HLEN.out]; exact hlt
        obtain ⟨a5, c5, q0, hd5, hac5, hnc5⟩ := HC.out k hkx
        rw [← below_at hb hbl] at q0
        have hpk : ps[k].length ≤ 4000000 := by have := sumP_mem (List.getElem_mem hkx); have := HS4.out; omega
        have HSU := Lib.hid (partsL_succ s.data.toList ps k hkx)
        have HPT : Hid ((partsL s.data.toList (ps.take k)).length + 1 + ps[k].length ≤ 4000000) := by
          have h1 := partsL_len s.data.toList (ps.take (k + 1))
          have h2 := sumP_take ps (k + 1)
          have h3 := HS4.out
          show _ ≤ _
          rw [HSU.out, List.length_append, List.length_append, List.length_singleton] at h1
          omega
        have HD5 := Lib.hid hd5
        have HB0 := Lib.hid hb
        have HAC := Lib.hid hac5
        clear hd5 hac5
        cases hf : freeB s.data.toList ps[k]
        · have HP := Lib.hid (joinP_bad (okParts_bad hkx hf))
          have HF := Lib.hid hf
          clear hf
          have HH : Hid (∀ u, RdL u a5 ps[k].length ps[k] → Calls Tryz.prog 156 #[.slice a5 ps[k].length c5, .string s] u fun e w' => e = .returned (.bool true) ∧ Below u.heap.size u w') := fun u h => by
            have := hasMark_any a5 _ c5 ps[k] s u h (by omega) hs6
            rw [HF.out] at this; exact this
          generalize ps[k].length = m at *
          go_wp2_with fail
          refine (HH.out _ (HD5.out.below HB0.out)).mono ?_
          rintro e w3 ⟨rfl, hb3⟩
          go_wp2
          go_ret2
          exact linesRet_none HP.out (nx hb hb3)
        · have HF := Lib.hid hf
          clear hf
          have HH : Hid (∀ u, RdL u a5 ps[k].length ps[k] → Calls Tryz.prog 156 #[.slice a5 ps[k].length c5, .string s] u fun e w' => e = .returned (.bool false) ∧ Below u.heap.size u w') := fun u h => by
            have := hasMark_any a5 _ c5 ps[k] s u h (by omega) hs6
            rw [HF.out] at this; exact this
          have HO := Lib.hid ho
          have hps1 := HPT.out
          clear ho
          obtain ⟨m, hm⟩ : ∃ m, m = ps[k].length := ⟨_, rfl⟩
          have HMM := Lib.hid hm
          rw [← hm] at HH hpk hnc5 HD5 hps1 q0
          obtain ⟨P, hP⟩ : ∃ P, P = partsL s.data.toList (ps.take k) := ⟨_, rfl⟩
          have HPP := Lib.hid hP
          rw [← hP] at HO hlen4 hps1
          clear hm hP
          go_wp2_with fail
          refine (HH.out _ (HD5.out.below HB0.out)).mono ?_
          rintro e w3 ⟨rfl, hb3⟩
          have hb03 := nx hb hb3
          have hbs3 := hb03.size
          have HO3 := Lib.hid (HO.out.keep hb3)
          obtain ⟨a6, c6, rfl, _, _, _, hnc6⟩ := HO3.out.readc
          have HA : Hid (OwnL w.heap.size (.slice a6 P.length c6) P (w3.alloc (.cells #[.string Y1] 9))) := HO3.out.keep ((Below.refl _ _).alloc (Nat.le_refl _) _)
          go_wp2_with (at_builtin; refine wpList_append_1L rfl _ _ rfl w.heap.size _ P Y1 w3.heap.size rfl rfl ?c1 HA.out ?c2 ?c3 ?_)
          case c1 => rw [World.cell?_alloc_at _ _ _ _ rfl]; rfl
          case c2 => simp; omega
          case c3 => omega
          intro v4 w4 hO4 hgr4 _
          have hb4 : Below w.heap.size w w4 := (hb03.alloc hbs3 _).grown hgr4 (by simp; omega) (fun g hg => (HA.out.lt g hg).1)
          have HO4 := Lib.hid hO4
          have HB4 := Lib.hid hb4
          have hbs4 := hb4.size
          clear hO4 hgr4
          go_wp2_with (at_builtin; refine wpList_append_RL rfl _ _ rfl w.heap.size _ (P ++ [Y1.data.toList]) ps[k] a5 m c5 rfl rfl HO4.out (HD5.out.below HB4.out) HAC.out hbs4 ?d1 ?_)
          case d1 => rw [List.length_append, List.length_singleton, ← HMM.out]; omega
          intro v5 w5 hO5 hgr5 _
          have hb5 : Below w.heap.size w w5 := hb4.grown hgr5 hbs4 (fun g hg => (HO4.out.lt g hg).1)
          have HN : Hid (OwnL w.heap.size v5 (partsL s.data.toList (ps.take (k + 1))) w5) := by
            show OwnL _ _ _ _
            rw [HSU.out, ← HPP.out, ← HY1.out, List.append_assoc]; exact hO5
          clear hO5 hgr5
          go_wp2
          go_roundw
          case rel => exact ⟨k + 1, by omega, by go_num, (fun j hj hjx => by
            by_cases e : j = k
            · subst e; exact HF.out
            · exact HALL.out j (by omega) hjx), HN.out, hb5⟩
          case measure => simp [intOf]; omega
      · have hkn : k = ps.length := by rw [HLEN.out]; omega
        have HT : Hid (ps.take k = ps) := by show _ = _; rw [hkn, List.take_length]
        rw [HT.out] at ho hlen4
        have HP : Hid (joinP ps s.data.toList = some (partsL s.data.toList ps ++ [endL s.data.toList])) := by
          show _ = _
          exact joinP_yes HV.out HPN.out (okParts_good fun j hj => HALL.out j (by omega) hj)
        have HO3 := Lib.hid ho
        clear ho hkn
        obtain ⟨P, hP⟩ : ∃ P, P = partsL s.data.toList ps := ⟨_, rfl⟩
        rw [← hP] at HO3 hlen4 HP
        clear hP
        obtain ⟨a6, c6, rfl, _, _, _, hnc6⟩ := HO3.out.readc
        have HA : Hid (OwnL w.heap.size (.slice a6 P.length c6) P (wr.alloc (.cells #[.string Y2] 9))) := HO3.out.keep ((Below.refl _ _).alloc (Nat.le_refl _) _)
        go_wp2_with (at_builtin; refine wpList_append_1L rfl _ _ rfl w.heap.size _ P Y2 wr.heap.size rfl rfl ?c1 HA.out ?c2 ?c3 ?_)
        case c1 => rw [World.cell?_alloc_at _ _ _ _ rfl]; rfl
        case c2 => simp; omega
        case c3 => omega
        intro v4 w4 hO4 hgr4 _
        have hb4 : Below w.heap.size w w4 := (hb.alloc hbs _).grown hgr4 (by simp; omega) (fun g hg => (HA.out.lt g hg).1)
        go_wp2
        go_ret2
        exact linesRet_some HP.out (by rw [← HY2.out]; exact hO4) hb4
end Go.Proofs.YtcdmjckkencgoaaGreatDoor
