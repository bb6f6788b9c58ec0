/-
  Atoms: what the program's functions on the bytes of atoms return; the table of atoms' other bytes is a premise. No statement is proved here.
-/
import Derived.Test.YtbfjbabpeigloabDoorWords
import Derived.Deep.MidRow
namespace Go.Proofs.YtbfjbabpeigloabDoor
open Go.RowKit

def tabL : List Value := [.int .u8 33, .int .u8 33, .int .u8 35, .int .u8 39, .int .u8 42, .int .u8 43, .int .u8 45, .int .u8 45, .int .u8 47, .int .u8 47, .int .u8 61, .int .u8 61, .int .u8 63, .int .u8 63, .int .u8 94, .int .u8 96, .int .u8 123, .int .u8 126]
/-- The package-level table holds what its initialiser lays. -/
def Tab (w : World) : Prop := w.rangeAt 1 0 tabL
theorem Tab.lt {w : World} (h : Tab w) : 1 < w.heap.size := lt_of_cell (h 0 _ rfl)
theorem Tab.below {w w' : World} (h : Tab w) (b : Below w.heap.size w w') : Tab w' := fun j v hj => by
  rw [below_at b h.lt]; exact h j v hj
theorem tab_index (k : Nat) (hk : k < 9) (w : World) : (Instr.index 113 (.agg tabL.toArray) (.int .i64 (k : Int))).run Tryd.prog w = .ok (.agg #[.int .u8 (markLo k : Int), .int .u8 (markHi k : Int)]) w := by
  rcases (by omega : k = 0 ∨ k = 1 ∨ k = 2 ∨ k = 3 ∨ k = 4 ∨ k = 5 ∨ k = 6 ∨ k = 7 ∨ k = 8) with rfl | rfl | rfl | rfl | rfl | rfl | rfl | rfl | rfl <;> kernel_rfl
theorem isSmall_any (c : UInt8) (w : World) : Calls Tryd.prog 97 #[.int .u8 c.toNat] w fun e w' => e = .returned (.bool (smallB c)) ∧ w = w' := by
  by_cases h2 : (97 : Int) ≤ c.toNat
  all_goals
    go_enter Tryd.func97, Tryd.ntmps97
    go_wp2
    go_ret
    exact ⟨ret_bool (by rw [Bool.eq_iff_iff]; simp [smallB]; omega), rfl⟩
theorem isLetter_any (c : UInt8) (w : World) : Calls Tryd.prog 118 #[.int .u8 c.toNat] w fun e w' => e = .returned (.bool (letB c)) ∧ w = w' := by
  cases h : capB c
  · have HB := Lib.hid h
    clear h
    go_enter Tryd.func118, Tryd.ntmps118
    go_wp2_with fail
    refine (isCapital_any _ _).mono ?_
    rintro e w' ⟨rfl, rfl⟩
    rw [HB.out]
    go_wp2_with fail
    refine (isSmall_any _ _).mono ?_
    rintro e w' ⟨rfl, rfl⟩
    go_wp2
    go_ret
    exact ⟨ret_bool (by have := HB.out; unfold letB; rw [this, Bool.false_or]; rfl), rfl⟩
  · have HB := Lib.hid h
    clear h
    go_enter Tryd.func118, Tryd.ntmps118
    go_wp2_with fail
    refine (isCapital_any _ _).mono ?_
    rintro e w' ⟨rfl, rfl⟩
    rw [HB.out]
    go_wp2
    go_ret
    exact ⟨ret_bool (by have := HB.out; unfold letB; rw [this]; rfl), rfl⟩
theorem isDigit_any (c : UInt8) (w : World) : Calls Tryd.prog 98 #[.int .u8 c.toNat] w fun e w' => e = .returned (.bool (digB c)) ∧ w = w' := by
  by_cases h2 : (48 : Int) ≤ c.toNat
  all_goals
    go_enter Tryd.func98, Tryd.ntmps98
    go_wp2
    go_ret
    exact ⟨ret_bool (by rw [Bool.eq_iff_iff]; simp [digB]; omega), rfl⟩
set_option maxRecDepth 100000 in
set_option maxHeartbeats 1000000 in
theorem isAtomByte_any (c : UInt8) (w : World) (ht : Tab w) : Calls Tryd.prog 109 #[.int .u8 c.toNat] w fun e w' => e = .returned (.bool (atomB c)) ∧ Below w.heap.size w w' := by
  cases hl : letB c
  · cases hd : digB c
    · have HL := Lib.hid hl
      have HD := Lib.hid hd
      have HA : Hid (alnumB c = false) := by show alnumB c = false; rw [alnum_eq, hl, hd]; rfl
      clear hl hd
      go_enter Tryd.func109, Tryd.ntmps109
      go_wp2_with fail
      refine (isLetter_any c _).mono ?_
      rintro e w1 ⟨rfl, rfl⟩
      rw [HL.out]
      go_wp2_with fail
      refine (isDigit_any c _).mono ?_
      rintro e w1 ⟨rfl, rfl⟩
      rw [HD.out]
      go_wp2_with (refine wpList_load_mid rfl 113 _ rfl 1 0 rfl tabL _ ht Tryd.underlying113 rfl (by kernel_rfl) ?_)
      generalize htl : tabL.toArray = tl
      have hidx0 := fun (k : Nat) (hk : k < 9) (w : World) => tab_index k hk w
      rw [htl] at hidx0
      have HI := Lib.hid hidx0
      have HT := Lib.hid ht
      clear hidx0 ht htl
      go_loopw [12] (fun i wr => ∃ k : Nat, k ≤ 9 ∧ i = .int .i64 k ∧ Below w.heap.size w wr ∧ ∀ j, j < k → hitB c j = false) (fun i _ => 9 - (intOf i).toNat)
      case atStart => exact ⟨0, by omega, rfl, Below.refl _ _, fun j h => by omega⟩
      case round =>
        obtain ⟨k, hk, rfl, hb, hall⟩ := hrel
        have HH := Lib.hid hall
        clear hall
        by_cases hlt : k < 9
        · have hidx := HI.out k hlt
          have ms := mark_small k
          have HB : Hid (hitB c k = (decide (markLo k ≤ c.toNat) && decide (c.toNat ≤ markHi k))) := rfl
          generalize markLo k = lo at *
          generalize markHi k = hi at *
          by_cases h1 : (lo : Int) ≤ c.toNat
          · have d1 : decide ((lo : Int) ≤ c.toNat) = true := by simpa using h1
            by_cases h2 : (c.toNat : Int) ≤ hi
            · have d2 : decide ((c.toNat : Int) ≤ hi) = true := by simpa using h2
              have HR := Lib.hid (atom_hit (c := c) hlt (by rw [HB.out]; simp; omega))
              go_wp2
              go_ret
              exact ⟨ret_bool HR.out.symm, hb.alloc hb.size _⟩
            · have d2 : decide ((c.toNat : Int) ≤ hi) = false := by simp; omega
              go_wp2
              go_roundw
              case rel => exact ⟨k + 1, by omega, by go_num, hb.alloc hb.size _, fun j h => by
                by_cases e : j = k
                · subst e; rw [HB.out]; simp; omega
                · exact HH.out j (by omega)⟩
              case measure => simp [intOf]; omega
          · have d1 : decide ((lo : Int) ≤ c.toNat) = false := by simp; omega
            go_wp2
            go_roundw
            case rel => exact ⟨k + 1, by omega, by go_num, hb.alloc hb.size _, fun j h => by
              by_cases e : j = k
              · subst e; rw [HB.out]; simp; omega
              · exact HH.out j (by omega)⟩
            case measure => simp [intOf]; omega
        · have HR := Lib.hid (atom_none HA.out (fun j hj => HH.out j (by omega)))
          go_wp2
          go_ret
          exact ⟨ret_bool HR.out.symm, hb⟩
    · have HL := Lib.hid hl
      have HD := Lib.hid hd
      have HR : Hid (atomB c = true) := by show atomB c = true; unfold atomB; rw [alnum_eq, hl, hd]; rfl
      clear hl hd
      go_enter Tryd.func109, Tryd.ntmps109
      go_wp2_with fail
      refine (isLetter_any c _).mono ?_
      rintro e w1 ⟨rfl, rfl⟩
      rw [HL.out]
      go_wp2_with fail
      refine (isDigit_any c _).mono ?_
      rintro e w1 ⟨rfl, rfl⟩
      rw [HD.out]
      go_wp2
      go_ret
      exact ⟨ret_bool HR.out.symm, Below.refl _ _⟩
  · have HL := Lib.hid hl
    have HR : Hid (atomB c = true) := by show atomB c = true; unfold atomB; rw [alnum_eq, hl]; rfl
    clear hl
    go_enter Tryd.func109, Tryd.ntmps109
    go_wp2_with fail
    refine (isLetter_any c _).mono ?_
    rintro e w1 ⟨rfl, rfl⟩
    rw [HL.out]
    go_wp2
    go_ret
    exact ⟨ret_bool HR.out.symm, Below.refl _ _⟩
/-- The first place from k on whose byte is no byte of an atom. -/
def atomTo (s : ByteArray) (k : Nat) : Nat := k + run atomB (s.data.toList.drop k)
theorem run_at (p : UInt8 → Bool) (s : ByteArray) (k : Nat) (h : k < s.size) : run p (s.data.toList.drop k) = if p s[k] then run p (s.data.toList.drop (k + 1)) + 1 else 0 := by
  rw [List.drop_eq_getElem_cons (by rw [size_list]; exact h)]
  rfl
theorem run_out (p : UInt8 → Bool) (s : ByteArray) (k : Nat) (h : s.size ≤ k) : run p (s.data.toList.drop k) = 0 := by
  rw [List.drop_eq_nil_of_le (by rw [size_list]; exact h)]; rfl
set_option maxRecDepth 100000 in
set_option maxHeartbeats 1000000 in
theorem atomEnd_any (s : ByteArray) (k0 : Nat) (w : World) (ht : Tab w) (hk0 : k0 ≤ s.size) (hs : s.size ≤ maxLen) :
    Calls Tryd.prog 96 #[.string s, .int .i64 k0] w fun e w' => e = .returned (.int .i64 (atomTo s k0 : Nat)) ∧ Below w.heap.size w w' := by
  unfold maxLen at hs
  have HT := Lib.hid ht
  clear ht
  go_enter Tryd.func96, Tryd.ntmps96
  go_wp2_with fail
  go_loopw [1] (fun i wr => ∃ k : Nat, k0 ≤ k ∧ k ≤ s.size ∧ i = .int .i64 k ∧ Below w.heap.size w wr ∧ atomTo s k0 = atomTo s k) (fun i _ => s.size - (intOf i).toNat)
  case atStart => exact ⟨k0, Nat.le_refl _, hk0, rfl, Below.refl _ _, rfl⟩
  case round =>
    obtain ⟨k, hk1, hk, rfl, hb, he⟩ := hrel
    have HE := Lib.hid he
    clear he
    by_cases hlt : k < s.size
    · have hr := run_at atomB s k hlt
      cases ha : atomB s[k]
      · have HR : Hid (atomTo s k0 = k) := by rw [ha] at hr; show _ = _; rw [HE.out]; unfold atomTo; rw [hr]; simp
        have HB := Lib.hid ha
        clear ha hr
        go_wp2_with fail
        refine (isAtomByte_any s[k] _ (HT.out.below hb)).mono ?_
        rintro e w1 ⟨rfl, hb1⟩
        rw [HB.out]
        go_wp2
        go_ret
        exact ⟨ret_int (by rw [HR.out]), nx hb hb1⟩
      · have HR : Hid (atomTo s k0 = atomTo s (k + 1)) := by rw [ha] at hr; show _ = _; rw [HE.out]; unfold atomTo; rw [hr]; simp; omega
        have HB := Lib.hid ha
        clear ha hr
        go_wp2_with fail
        refine (isAtomByte_any s[k] _ (HT.out.below hb)).mono ?_
        rintro e w1 ⟨rfl, hb1⟩
        rw [HB.out]
        go_wp2
        go_roundw
        case rel => exact ⟨k + 1, by omega, by omega, by go_num, nx hb hb1, HR.out⟩
        case measure => simp [intOf]; omega
    · have HR : Hid (atomTo s k0 = k) := by show _ = _; rw [HE.out]; unfold atomTo; rw [run_out _ _ _ (by omega)]; rfl
      go_wp2
      go_ret
      exact ⟨ret_int (by rw [HR.out]), hb⟩
theorem run_all (p : UInt8 → Bool) : ∀ l, run p l = l.length ↔ l.all p = true
  | [] => by simp [run]
  | c :: l => by
    unfold run
    have h1 := run_all p l
    cases h : p c
    · simp [h]
    · simp only [List.all_cons, h, Bool.true_and, if_true, List.length_cons]; rw [← h1]; omega
set_option maxRecDepth 100000 in
set_option maxHeartbeats 1000000 in
theorem atomValid_any (s : ByteArray) (w : World) (ht : Tab w) (hs : s.size ≤ maxLen) :
    Calls Tryd.prog 82 #[.string s] w fun e w' => e = .returned (.bool (isAtom s.data.toList)) ∧ Below w.heap.size w w' := by
  have hs' := hs
  unfold maxLen at hs'
  have hln := size_list s
  by_cases h1 : 1 ≤ s.size
  · by_cases h2 : s.size ≤ 40
    · have HR : Hid (isAtom s.data.toList = decide (((atomTo s 0 : Nat) : Int) = s.size)) := by
        show _ = _
        unfold isAtom atomTo; rw [List.drop_zero, Bool.eq_iff_iff]; simp only [Bool.and_eq_true, decide_eq_true_eq, Nat.zero_add]; rw [← run_all, hln]; omega
      have d1 : decide ((1 : Int) ≤ s.size) = true := by simp; omega
      have d2 : decide ((s.size : Int) ≤ 40) = true := by simp; omega
      clear hln
      go_enter Tryd.func82, Tryd.ntmps82
      go_wp2_with fail
      refine (atomEnd_any s 0 w ht (by omega) hs).mono ?_
      rintro e w1 ⟨rfl, hb1⟩
      go_wp2
      go_ret
      exact ⟨ret_bool (by rw [HR.out]; rfl), hb1⟩
    · have HR : Hid (isAtom s.data.toList = false) := by show _ = _; unfold isAtom; rw [hln, decide_eq_false h2]; simp
      have d1 : decide ((1 : Int) ≤ s.size) = true := by simp; omega
      have d2 : decide ((s.size : Int) ≤ 40) = false := by simp; omega
      clear hln
      go_enter Tryd.func82, Tryd.ntmps82
      go_wp2
      go_ret
      exact ⟨ret_bool (HR.out.symm), Below.refl _ _⟩
  · have HR : Hid (isAtom s.data.toList = false) := by show _ = _; unfold isAtom; rw [hln, decide_eq_false h1]; simp
    have d1 : decide ((1 : Int) ≤ s.size) = false := by simp; omega
    clear hln
    go_enter Tryd.func82, Tryd.ntmps82
    go_wp2
    go_ret
    exact ⟨ret_bool (HR.out.symm), Below.refl _ _⟩
theorem l1Letter_any (c : UInt8) (w : World) : Calls Tryd.prog 112 #[.int .u8 c.toNat] w fun e w' => e = .returned (.bool (alnumB c)) ∧ w = w' := by
  rcases (by omega : ((c.toNat : Int) < 48) ∨ ((48 : Int) ≤ c.toNat ∧ (c.toNat : Int) ≤ 57) ∨ ((57 : Int) < c.toNat ∧ (c.toNat : Int) < 65) ∨ ((65 : Int) ≤ c.toNat ∧ (c.toNat : Int) ≤ 90) ∨ ((90 : Int) < c.toNat ∧ (c.toNat : Int) < 97) ∨ ((97 : Int) ≤ c.toNat ∧ (c.toNat : Int) ≤ 122) ∨ ((122 : Int) < c.toNat)) with h | ⟨h, h2⟩ | ⟨h, h2⟩ | ⟨h, h2⟩ | ⟨h, h2⟩ | ⟨h, h2⟩ | h
  all_goals
    go_enter Tryd.func112, Tryd.ntmps112
    go_wp2
    all_goals go_ret
    all_goals exact ⟨ret_bool (by rw [Bool.eq_iff_iff]; simp [alnumB]; omega), rfl⟩
theorem sign_at (k : Nat) (h : k < 19) : signs[k]? = some (signs.getD k 0) := by
  rw [List.getD_eq_getElem?_getD, List.getElem?_eq_getElem (by simpa [signs] using h)]; rfl
set_option maxRecDepth 100000 in
set_option maxHeartbeats 1000000 in
theorem l1Atom_any (c : UInt8) (w : World) : Calls Tryd.prog 119 #[.int .u8 c.toNat] w fun e w' => e = .returned (.bool (atomB c)) ∧ w = w' := by
  go_enter Tryd.func119, Tryd.ntmps119
  go_wp2_with fail
  go_loop [3] (fun i => ∃ k : Nat, k ≤ 19 ∧ i = .int .i64 k ∧ ∀ j, j < k → signs[j]? ≠ some c) (fun i => 19 - (intOf i).toNat)
  case atStart => exact ⟨0, by omega, rfl, fun j h => by omega⟩
  case round =>
    obtain ⟨k, hk, rfl, hall⟩ := hrel
    have HH := Lib.hid hall
    clear hall
    by_cases hlt : k < 19
    · have hsz : k < (ByteArray.mk #[33, 35, 36, 37, 38, 39, 42, 43, 45, 47, 61, 63, 94, 95, 96, 123, 124, 125, 126]).size := hlt
      by_cases hc : (ByteArray.mk #[33, 35, 36, 37, 38, 39, 42, 43, 45, 47, 61, 63, 94, 95, 96, 123, 124, 125, 126])[k] = c
      · have HR : Hid (atomB c = true) := by
          show atomB c = true
          rw [atom_signs, Bool.or_eq_true]; left
          rw [List.contains_iff_mem]
          subst hc; exact List.getElem_mem (l := signs) hlt
        have e1 : ((c.toNat : Int) == ((ByteArray.mk #[33, 35, 36, 37, 38, 39, 42, 43, 45, 47, 61, 63, 94, 95, 96, 123, 124, 125, 126])[k].toNat : Int)) = true := by rw [hc]; simp
        clear hc
        go_wp2
        go_ret
        exact ⟨ret_bool HR.out.symm, rfl⟩
      · have HR : Hid (signs[k]? ≠ some c) := by
          show _ ≠ _
          rw [List.getElem?_eq_getElem (l := signs) hlt]; intro e; injection e with e; exact hc e
        have e1 : ((c.toNat : Int) == ((ByteArray.mk #[33, 35, 36, 37, 38, 39, 42, 43, 45, 47, 61, 63, 94, 95, 96, 123, 124, 125, 126])[k].toNat : Int)) = false := by
          rw [beq_eq_false_iff_ne]; intro e; exact hc (UInt8.toNat_inj.1 (by omega))
        clear hc
        go_wp2
        go_round
        case rel => exact ⟨k + 1, by omega, by go_num, fun j h => by
          by_cases e : j = k
          · subst e; exact HR.out
          · exact HH.out j (by omega)⟩
        case measure => simp [intOf]; omega
    · have HR : Hid (atomB c = alnumB c) := by
        show _ = _
        rw [atom_signs]
        have : signs.contains c = false := by
          rw [Bool.eq_false_iff]; intro h
          rw [List.contains_iff_mem] at h
          obtain ⟨j, hj, he⟩ := List.getElem_of_mem h
          exact HH.out j (by have : signs.length = 19 := rfl; omega) (by rw [List.getElem?_eq_getElem hj, he])
        rw [this]; rfl
      go_wp2_with fail
      refine (l1Letter_any c _).mono ?_
      rintro e w1 ⟨rfl, rfl⟩
      go_wp2
      go_ret
      exact ⟨ret_bool HR.out.symm, rfl⟩
theorem isAtom_bad (s : ByteArray) (k : Nat) (hk : k < s.size) (h : atomB s[k] = false) : isAtom s.data.toList = false := by
  have hm : s[k] ∈ s.data.toList := by simp [ByteArray.getElem_eq_getElem_data]
  unfold isAtom
  rw [Bool.and_eq_false_iff]; right
  rw [Bool.and_eq_false_iff]; right
  rw [List.all_eq_false]; exact ⟨_, hm, by simp [h]⟩
theorem isAtom_good (s : ByteArray) (h1 : 1 ≤ s.size) (h2 : s.size ≤ 40) (h : ∀ j, (h' : j < s.size) → atomB s[j] = true) : isAtom s.data.toList = true := by
  unfold isAtom
  have := size_list s
  rw [Bool.and_eq_true, Bool.and_eq_true]; refine ⟨by simp; omega, by simp; omega, ?_⟩
  rw [List.all_eq_true]; intro x hx
  obtain ⟨j, hj, rfl⟩ := List.getElem_of_mem hx
  exact h j hj
theorem isAtom_size (s : ByteArray) (h : s.size < 1 ∨ 40 < s.size) : isAtom s.data.toList = false := by
  unfold isAtom
  have := size_list s
  rw [Bool.and_eq_false_iff, Bool.and_eq_false_iff, decide_eq_false_iff_not, decide_eq_false_iff_not]; omega
set_option maxRecDepth 100000 in
set_option maxHeartbeats 1000000 in
theorem atomValidS_any (s : ByteArray) (w : World) (hs : s.size ≤ maxLen) :
    Calls Tryd.prog 111 #[.string s] w fun e w' => e = .returned (.bool (isAtom s.data.toList)) ∧ w = w' := by
  unfold maxLen at hs
  go_enter Tryd.func111, Tryd.ntmps111
  go_wp2
  go_loop [3] (fun i => ∃ k : Nat, k ≤ s.size ∧ k ≤ 41 ∧ i = .int .i64 k ∧ ∀ j, (h : j < k) → (h' : j < s.size) → atomB s[j] = true) (fun i => s.size - (intOf i).toNat)
  case atStart => exact ⟨0, Nat.zero_le _, by omega, rfl, fun j h => by omega⟩
  case round =>
    obtain ⟨k, hk, hk2, rfl, hall⟩ := hrel
    have H := Lib.hid hall
    clear hall
    by_cases hlt : k < s.size
    · by_cases hl : k ≤ 40
      · have hd : decide ((k : Int) ≤ 40) = true := by simp; omega
        cases ho : atomB s[k]
        · have HO := Lib.hid (isAtom_bad s k hlt ho)
          have HB := Lib.hid ho
          clear ho
          go_wp2_with fail
          refine (l1Atom_any _ _).mono ?_
          rintro e w1 ⟨rfl, rfl⟩
          rw [HB.out]
          go_wp2
          go_ret
          exact ⟨ret_bool HO.out.symm, rfl⟩
        · have HB := Lib.hid ho
          clear ho
          go_wp2_with fail
          refine (l1Atom_any _ _).mono ?_
          rintro e w1 ⟨rfl, rfl⟩
          rw [HB.out]
          go_wp2
          go_round
          case rel => exact ⟨k + 1, by omega, by omega, by go_num, fun j h h' => by
            by_cases e : j = k
            · subst e; exact HB.out
            · exact H.out j (by omega) h'⟩
          case measure => simp [intOf]; omega
      · have hd : decide ((k : Int) ≤ 40) = false := by simp; omega
        have HO := Lib.hid (isAtom_size s (.inr (by omega)))
        have hq : decide ((s.size : Int) ≤ 40) = false := by simp; omega
        have hq1 : decide ((1 : Int) ≤ s.size) = true := by simp; omega
        go_wp2
        go_ret
        exact ⟨ret_bool HO.out.symm, rfl⟩
    · by_cases h1 : 1 ≤ s.size
      · have hq1 : decide ((1 : Int) ≤ s.size) = true := by simp; omega
        by_cases hl : s.size ≤ 40
        · have HO := Lib.hid (isAtom_good s h1 hl (fun j h' => H.out j (by omega) h'))
          have hq : decide ((s.size : Int) ≤ 40) = true := by simp; omega
          go_wp2
          go_ret
          exact ⟨ret_bool HO.out.symm, rfl⟩
        · have HO := Lib.hid (isAtom_size s (.inr (by omega)))
          have hq : decide ((s.size : Int) ≤ 40) = false := by simp; omega
          go_wp2
          go_ret
          exact ⟨ret_bool HO.out.symm, rfl⟩
      · have hq1 : decide ((1 : Int) ≤ s.size) = false := by simp; omega
        have HO := Lib.hid (isAtom_size s (.inl (by omega)))
        go_wp2
        go_ret
        exact ⟨ret_bool HO.out.symm, rfl⟩
end Go.Proofs.YtbfjbabpeigloabDoor
