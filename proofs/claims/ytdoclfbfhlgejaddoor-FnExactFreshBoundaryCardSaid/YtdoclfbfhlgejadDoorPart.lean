/-
  Parts between boundaries: what the program's functions return. No statement is proved here.
-/
import Derived.Test.YtdoclfbfhlgejadDoorPartN
import Derived.Test.YtdoclfbfhlgejadDoorRowS
import Derived.Test.YtdoclfbfhlgejadDoorAtoms
import Derived.Deep.QuietTactic
import Derived.BigQuiet
import Derived.Test.YtdoclfbfhlgejadDoorShelf
namespace Go.Proofs.YtdoclfbfhlgejadDoor
open Go.RowKit

theorem str_appP (l k : List UInt8) : str l ++ str k = str (l ++ k) := by
  apply bytes_ext; rw [str_list]; simp [str]
theorem beg_str (s : ByteArray) : (⟨#[45, 45]⟩ : ByteArray) ++ s = str (begL s.data.toList) := by
  apply bytes_ext; rw [str_list, Joins.data_append]; rfl
theorem end_str (s : ByteArray) : str (begL s.data.toList) ++ (⟨#[45, 45]⟩ : ByteArray) = str (endL s.data.toList) := by
  apply bytes_ext; rw [Joins.data_append, str_list, str_list]; unfold begL endL; simp
theorem beg_size (b : List UInt8) : (str (begL b)).size = b.length + 2 := by rw [str_size]; simp [begL]
theorem end_size (b : List UInt8) : (str (endL b)).size = b.length + 4 := by rw [str_size]; simp [endL]
theorem last_cases {α : Type} (l : List α) : l = [] ∨ ∃ r c, l = r ++ [c] := by
  rcases List.eq_nil_or_concat l with h | ⟨r, c, h⟩
  · exact .inl h
  · exact .inr ⟨r, c, by simpa using h⟩
theorem str_ne_iff {x : List UInt8} {Y : ByteArray} {y : List UInt8} (h : Y = str y) : (str x = Y) ↔ x = y := by
  subst h; exact ⟨fun e => by rw [← str_list x, e, str_list], fun e => by rw [e]⟩
theorem sb_t {x : List UInt8} {Y : ByteArray} {y : List UInt8} (h : Y = str y) (e : x = y) : ((str x).toList == Y.toList) = true := by rw [beq_dec, decide_eq_true_iff]; exact (str_ne_iff h).2 e
theorem sb_f {x : List UInt8} {Y : ByteArray} {y : List UInt8} (h : Y = str y) (e : x ≠ y) : ((str x).toList == Y.toList) = false := by rw [beq_dec, decide_eq_false_iff_not]; exact fun c => e ((str_ne_iff h).1 c)
theorem isBnd_iff {b : List UInt8} : isBnd b = true ↔ (∀ x ∈ b, alnumB x = true) ∧ 1 ≤ b.length ∧ b.length ≤ 20 := by
  unfold isBnd; simp only [Bool.and_eq_true, decide_eq_true_eq, List.all_eq_true]
theorem isBnd_bad (s : ByteArray) (k : Nat) (hk : k < s.size) (h : alnumB s[k] = false) : isBnd s.data.toList = false := by
  have hm : s[k] ∈ s.data.toList := by simp [ByteArray.getElem_eq_getElem_data]
  have : s.data.toList.all alnumB = false := by rw [List.all_eq_false]; exact ⟨_, hm, by simp [h]⟩
  unfold isBnd; rw [this]; rfl
theorem isBnd_len (s : ByteArray) (h : s.size < 1 ∨ 20 < s.size) : isBnd s.data.toList = false := by
  unfold isBnd; rw [size_list]
  rcases h with h | h
  · rw [decide_eq_false (by omega)]; simp
  · rw [decide_eq_false (p := s.size ≤ 20) (by omega)]; simp
theorem isBnd_good (s : ByteArray) (h1 : 1 ≤ s.size) (h2 : s.size ≤ 20) (h : ∀ j, (h' : j < s.size) → alnumB s[j] = true) : isBnd s.data.toList = true := by
  refine isBnd_iff.2 ⟨fun x hx => ?_, by rw [size_list]; exact h1, by rw [size_list]; exact h2⟩
  obtain ⟨j, hj, rfl⟩ := List.getElem_of_mem hx
  exact h j hj
theorem bnd_size {s : ByteArray} (h : isBnd s.data.toList = true) : 1 ≤ s.size ∧ s.size ≤ 20 := by
  have := isBnd_iff.1 h; rw [size_list] at this; exact this.2
def FreshRet (o : Option (List UInt8)) (w : World) (e : Ending) (w' : World) : Prop := e = .returned (.tuple #[.string (str (o.getD [])), .bool o.isSome]) ∧ Below w.heap.size w w'
theorem freshRet_none {o : Option (List UInt8)} {w w' : World} (h : o = none) (hb : Below w.heap.size w w') : FreshRet o w (.returned (.tuple #[.string ⟨#[]⟩, .bool false])) w' := by
  subst h; exact ⟨rfl, hb⟩
theorem freshRet_some {o : Option (List UInt8)} {b : List UInt8} {X : ByteArray} {w w' : World} (h : o = some b) (hX : X = str b) (hb : Below w.heap.size w w') : FreshRet o w (.returned (.tuple #[.string X, .bool true])) w' := by
  subst h hX; exact ⟨rfl, hb⟩
theorem bName_strP (n : Nat) : (⟨#[98]⟩ : ByteArray) ++ str (Lib.decDigits n) = str (bName n) := by
  apply bytes_ext; rw [str_list, Joins.data_append, str_list]; rfl
theorem decD_smallP {n : Nat} (h : n < 100) : (str (Lib.decDigits n)).size ≤ 2 := by
  have := bName_len h
  unfold bName at this
  rw [str_size]
  rw [List.length_cons] at this
  split at this <;> omega
set_option maxRecDepth 100000 in
set_option maxHeartbeats 400000 in
theorem marksOf_any (s : ByteArray) (w : World) (hs : s.size ≤ 1000000) :
    Calls Tryd.prog 14 #[.string s] w fun e w' => e = .returned (.tuple #[.string (str (begL s.data.toList)), .string (str (endL s.data.toList))]) ∧ w = w' := by
  have HB := Lib.hid (beg_str s)
  have HE := Lib.hid (end_str s)
  have hz := beg_size s.data.toList
  rw [size_list] at hz
  have HB2 : Hid ((⟨#[45, 45]⟩ : ByteArray) ++ s ++ ⟨#[45, 45]⟩ = str (endL s.data.toList)) := by show _ = _; rw [HB.out, HE.out]
  have z2 : (⟨#[45, 45]⟩ : ByteArray).size = 2 := rfl
  clear hz
  go_enter Tryd.func14, Tryd.ntmps14
  go_wp2
  go_ret2
  exact ⟨rfl, rfl⟩
def idxS (xs : List (List UInt8)) (y : List UInt8) : Int := if xs.contains y then ((xs.takeWhile (· != y)).length : Int) else -1
theorem idxS_at {xs : List (List UInt8)} {y : List UInt8} {k : Nat} (hk : k < xs.length) (h : xs[k] = y) (h2 : ∀ j, j < k → (hj : j < xs.length) → xs[j] ≠ y) : idxS xs y = (k : Int) := by
  unfold idxS
  have hm : xs.contains y = true := by rw [List.contains_iff_mem, ← h]; exact List.getElem_mem hk
  rw [if_pos hm]
  have key : ∀ (xs : List (List UInt8)) (k : Nat) (hk : k < xs.length), xs[k] = y → (∀ j, j < k → (hj : j < xs.length) → xs[j] ≠ y) → (xs.takeWhile (· != y)).length = k := by
    intro xs
    induction xs with
    | nil => intro k hk; simp at hk
    | cons x xs ih =>
      intro k hk h h2
      match k, hk, h, h2 with
      | 0, _, h, _ =>
        have h : x = y := h
        rw [List.takeWhile_cons_of_neg (by simp [h])]; rfl
      | k + 1, hk, h, h2 =>
        have h0 : x ≠ y := h2 0 (by omega) (by omega)
        rw [List.takeWhile_cons_of_pos (by simpa using h0), List.length_cons, ih k (by simpa using hk) h (fun j hj hl => h2 (j + 1) (by omega) (by simpa using hl))]
  rw [key xs k hk h h2]
theorem idxS_none {xs : List (List UInt8)} {y : List UInt8} (h2 : ∀ j, (hj : j < xs.length) → xs[j] ≠ y) : idxS xs y = -1 := by
  unfold idxS
  rw [if_neg]
  rw [List.contains_iff_mem]; intro hm
  obtain ⟨j, hj, h⟩ := List.getElem_of_mem hm
  exact h2 j hj h
theorem idxS_has (xs : List (List UInt8)) (y : List UInt8) : decide (0 ≤ idxS xs y) = xs.contains y := by
  unfold idxS
  split
  · rename_i h; rw [h]; simp
  · rename_i h; simp only [Bool.not_eq_true] at h; rw [h]; decide
set_option maxRecDepth 100000 in
set_option maxHeartbeats 1000000 in
theorem indexS_any (a : Option Addr) (n c : Nat) (xs : List (List UInt8)) (y : List UInt8) (w : World) (hr : RdL w a n xs) (hn : n ≤ 1073741824) :
    Calls Tryd.prog 17 #[.slice a n c, .string (str y)] w fun e w' => e = .returned (.int .i64 (idxS xs y)) ∧ Below w.heap.size w w' := by
  obtain ⟨hl, hr2⟩ := hr
  have HLEN := Lib.hid hl
  have HR := Lib.hid hr2
  clear hl hr2
  obtain ⟨Y, hY⟩ : ∃ Y, Y = str y := ⟨_, rfl⟩
  have HY := Lib.hid hY
  rw [← hY]
  clear hY
  go_enter Tryd.func17, Tryd.ntmps17
  go_wp2_with fail
  go_loopw [8] (fun i wr => ∃ (k : Nat), k ≤ n ∧ i = .int .i64 k ∧ Below w.heap.size w wr ∧ ∀ j, j < k → (hj : j < xs.length) → xs[j] ≠ y) (fun i _ => n - (intOf i).toNat)
  case atStart => exact ⟨0, Nat.zero_le _, rfl, Below.refl _ _, fun j h => by omega⟩
  case round =>
    obtain ⟨k, hk, rfl, hb, hall⟩ := hrel
    have HA := Lib.hid hall
    clear hall
    by_cases hlt : k < n
    · have hkx : k < xs.length := by rw [HLEN.out]; exact hlt
      obtain ⟨b, off, rfl, hbl, hcell⟩ := HR.out.resolve_left (by omega)
      have q0 : wr.cell? ⟨b, off + k, none⟩ = some (.string (str xs[k])) := by rw [below_at hb hbl]; exact hcell k hkx
      clear hcell
      have HQ : Hid ((str xs[k] = Y) = (xs[k] = y)) := by
        show _ = _
        rw [HY.out]
        exact propext ⟨fun h => by rw [← str_list xs[k], h, str_list], fun h => by rw [h]⟩
      by_cases hq : xs[k] = y
      · have HF := Lib.hid (idxS_at hkx hq (fun j hj hl => HA.out j hj hl))
        have e1 : (Y.toList == (str xs[k]).toList) = true := by rw [beq_dec, decide_eq_true_iff]; exact (HQ.out.symm ▸ hq : str xs[k] = Y).symm
        have e2 : ((str xs[k]).toList == Y.toList) = true := by rw [beq_dec, decide_eq_true_iff]; exact (HQ.out.symm ▸ hq : str xs[k] = Y)
        clear hq HQ
        generalize str xs[k] = X at *
        go_wp2
        go_ret
        exact ⟨ret_int HF.out.symm, hb⟩
      · have e1 : (Y.toList == (str xs[k]).toList) = false := by rw [beq_dec, decide_eq_false_iff_not]; intro h; exact hq (HQ.out ▸ h.symm)
        have e2 : ((str xs[k]).toList == Y.toList) = false := by rw [beq_dec, decide_eq_false_iff_not]; intro h; exact hq (HQ.out ▸ h)
        have HN := Lib.hid hq
        clear hq HQ
        generalize str xs[k] = X at *
        go_wp2
        go_roundw
        case rel => exact ⟨k + 1, by omega, by go_num, hb, fun j hj hjx => by
          by_cases e : j = k
          · subst e; exact HN.out
          · exact HA.out j (by omega) hjx⟩
        case measure => simp [intOf]; omega
    · have HF := Lib.hid (idxS_none (y := y) (fun j hj => HA.out j (by have := HLEN.out; omega) hj))
      go_wp2
      go_ret
      exact ⟨ret_int HF.out.symm, hb⟩
theorem containsS_any (a : Option Addr) (n c : Nat) (xs : List (List UInt8)) (y : List UInt8) (w : World) (hr : RdL w a n xs) (hn : n ≤ 1073741824) :
    Calls Tryd.prog 15 #[.slice a n c, .string (str y)] w fun e w' => e = .returned (.bool (xs.contains y)) ∧ Below w.heap.size w w' := by
  have HX := Lib.hid (idxS_has xs y)
  have HS : Hid (∀ u, RdL u a n xs → Calls Tryd.prog 17 #[.slice a n c, .string (str y)] u fun e w' => e = .returned (.int .i64 (idxS xs y)) ∧ Below u.heap.size u w') := fun u h => indexS_any a n c xs y u h hn
  generalize idxS xs y = m at *
  generalize xs.contains y = q at *
  generalize str y = Y at *
  have HR := Lib.hid hr
  clear hr
  go_enter Tryd.func15, Tryd.ntmps15
  go_wp2_with fail
  refine (HS.out _ HR.out).mono ?_
  rintro e w1 ⟨rfl, hb1⟩
  go_wp2
  go_ret
  exact ⟨ret_bool HX.out, hb1⟩
set_option maxRecDepth 100000 in
set_option maxHeartbeats 1000000 in
theorem hasMark_any (a : Option Addr) (n c : Nat) (xs : List (List UInt8)) (s : ByteArray) (w : World) (hr : RdL w a n xs) (hn : n ≤ 1073741824) (hs : s.size ≤ 1000000) :
    Calls Tryd.prog 12 #[.slice a n c, .string s] w fun e w' => e = .returned (.bool (!freeB s.data.toList xs)) ∧ Below w.heap.size w w' := by
  have HF : Hid ((!freeB s.data.toList xs) = (xs.contains (begL s.data.toList) || xs.contains (endL s.data.toList))) := by show _ = _; rw [freeB_any, Bool.not_not]
  have H1 : Hid (∀ u, RdL u a n xs → Calls Tryd.prog 15 #[.slice a n c, .string (str (begL s.data.toList))] u fun e w' => e = .returned (.bool (xs.contains (begL s.data.toList))) ∧ Below u.heap.size u w') := fun u h => containsS_any a n c xs _ u h hn
  have H2 : Hid (∀ u, RdL u a n xs → Calls Tryd.prog 15 #[.slice a n c, .string (str (endL s.data.toList))] u fun e w' => e = .returned (.bool (xs.contains (endL s.data.toList))) ∧ Below u.heap.size u w') := fun u h => containsS_any a n c xs _ u h hn
  have HM := Lib.hid (fun u => marksOf_any s u hs)
  generalize xs.contains (begL s.data.toList) = q1 at *
  generalize xs.contains (endL s.data.toList) = q2 at *
  generalize str (begL s.data.toList) = Y1 at *
  generalize str (endL s.data.toList) = Y2 at *
  have HR := Lib.hid hr
  clear hr
  cases q1
  all_goals
    go_enter Tryd.func12, Tryd.ntmps12
    go_wp2_with fail
    refine (HM.out _).mono ?_
    rintro e w1 ⟨rfl, rfl⟩
    go_wp2_with fail
    refine (H1.out _ HR.out).mono ?_
    rintro e w2 ⟨rfl, hb2⟩
    first
      | (go_wp2_with fail
         refine (H2.out _ (HR.out.below hb2)).mono ?_
         rintro e w3 ⟨rfl, hb3⟩
         go_wp2
         go_ret
         exact ⟨ret_bool (by rw [HF.out]; rfl), nx hb2 hb3⟩)
      | (go_wp2
         go_ret
         exact ⟨ret_bool (by rw [HF.out]; rfl), hb2⟩)
set_option maxRecDepth 100000 in
set_option maxHeartbeats 1000000 in
theorem freshBoundary_any (a : Option Addr) (n c : Nat) (xs : List (List UInt8)) (w : World) (hr : RdL w a n xs) (hn : n ≤ 1073741824) :
    Calls Tryd.prog 7 #[.slice a n c] w (FreshRet (freshB xs) w) := by
  have HR := Lib.hid hr
  clear hr
  go_enter Tryd.func7, Tryd.ntmps7
  go_wp2_with fail
  go_loopw [6] (fun i wr => ∃ (k : Nat), k ≤ 100 ∧ i = .int .i64 k ∧ Below w.heap.size w wr ∧ ∀ j, j < k → freeB (bName j) xs = false) (fun i _ => 100 - (intOf i).toNat)
  case atStart => exact ⟨0, Nat.zero_le _, rfl, Below.refl _ _, fun j h => by omega⟩
  case round =>
    obtain ⟨k, hk, rfl, hb, hall⟩ := hrel
    have HA := Lib.hid hall
    clear hall
    by_cases hlt : k < 100
    · have hz := decD_smallP hlt
      have HI : Hid (∀ u, Calls Tryd.prog 11 #[.int .i64 k] u fun e w' => e = .returned (.string (str (Lib.decDigits k))) ∧ w' = u) := fun u => Tryd.strconv_Itoa_small k hlt u
      have HN := Lib.hid (bName_strP k)
      have hz2 : (str (bName k)).size ≤ 1000000 := by rw [str_size, bName_len hlt]; split <;> omega
      have HBL : Hid ((str (bName k)).data.toList = bName k) := str_list _
      have HH : Hid (∀ u, RdL u a n xs → Calls Tryd.prog 12 #[.slice a n c, .string (str (bName k))] u fun e w' => e = .returned (.bool (!freeB (bName k) xs)) ∧ Below u.heap.size u w') := fun u h => by
        have := hasMark_any a n c xs (str (bName k)) u h hn hz2
        rw [HBL.out] at this; exact this
      have z1 : (⟨#[98]⟩ : ByteArray).size = 1 := rfl
      generalize str (Lib.decDigits k) = D at *
      have HX : Hid ((⟨#[98]⟩ : ByteArray) ++ D = str (bName k)) := HN.out
      cases hf : freeB (bName k) xs
      · have HF := Lib.hid hf
        rw [hf] at HH
        clear hf hz2 HBL HN
        go_wp2_with fail
        refine (HI.out _).mono ?_
        rintro e w1 ⟨rfl, rfl⟩
        go_wp2_with fail
        rw [HX.out]
        refine (HH.out _ (HR.out.below hb)).mono ?_
        rintro e w2 ⟨rfl, hb2⟩
        go_wp2
        go_roundw
        case rel => exact ⟨k + 1, by omega, by go_num, nx hb hb2, fun j hj => by
          by_cases e : j = k
          · subst e; exact HF.out
          · exact HA.out j (by omega)⟩
        case measure => simp [intOf]; omega
      · have HF := Lib.hid (freshB_at hlt hf HA.out)
        rw [hf] at HH
        clear hf hz2 HBL HN
        go_wp2_with fail
        refine (HI.out _).mono ?_
        rintro e w1 ⟨rfl, rfl⟩
        go_wp2_with fail
        rw [HX.out]
        refine (HH.out _ (HR.out.below hb)).mono ?_
        rintro e w2 ⟨rfl, hb2⟩
        go_wp2
        go_ret2
        exact freshRet_some HF.out rfl (nx hb hb2)
    · have HF := Lib.hid (freshB_none (fun j hj => HA.out j (by omega)))
      go_wp2
      go_ret2
      exact freshRet_none HF.out hb
end Go.Proofs.YtdoclfbfhlgejadDoor
