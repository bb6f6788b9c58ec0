/-
  Parts between boundaries: what the program's functions return. No statement is proved here.
-/
import Derived.Test.YtdoclfbfhlgejacDoorPartN
import Derived.Test.YtdoclfbfhlgejacDoorRowS
import Derived.Test.YtdoclfbfhlgejacDoorAtoms
import Derived.Deep.QuietTactic
import Derived.BigQuiet
namespace Go.Proofs.YtdoclfbfhlgejacDoor
open Go.RowKit

theorem str_appP (l k : List UInt8) : str l ++ str k = str (l ++ k) := by
  apply bytes_ext; rw [str_list]; simp [str]
theorem beg_str (s : ByteArray) : (⟨#[45, 45]⟩ : ByteArray) ++ s = str (begL s.data.toList) := by
  apply bytes_ext; rw [str_list, Joins.data_append]; rfl
theorem end_str (s : ByteArray) : str (begL s.data.toList) ++ (⟨#[45, 45]⟩ : ByteArray) = str (endL s.data.toList) := by
  apply bytes_ext; rw [Joins.data_append, str_list, str_list]; unfold begL endL; simp
theorem beg_size (b : List UInt8) : (str (begL b)).size = b.length + 2 := by rw [str_size]; simp [begL]
theorem end_size (b : List UInt8) : (str (endL b)).size = b.length + 4 := by rw [str_size]; simp [endL]
theorem last_cases {α : Type} (l : List α) : l = [] ∨ ∃ r c, l = r ++ [c] := by
  rcases List.eq_nil_or_concat l with h | ⟨r, c, h⟩
  · exact .inl h
  · exact .inr ⟨r, c, by simpa using h⟩
theorem str_ne_iff {x : List UInt8} {Y : ByteArray} {y : List UInt8} (h : Y = str y) : (str x = Y) ↔ x = y := by
  subst h; exact ⟨fun e => by rw [← str_list x, e, str_list], fun e => by rw [e]⟩
theorem sb_t {x : List UInt8} {Y : ByteArray} {y : List UInt8} (h : Y = str y) (e : x = y) : ((str x).toList == Y.toList) = true := by rw [beq_dec, decide_eq_true_iff]; exact (str_ne_iff h).2 e
theorem sb_f {x : List UInt8} {Y : ByteArray} {y : List UInt8} (h : Y = str y) (e : x ≠ y) : ((str x).toList == Y.toList) = false := by rw [beq_dec, decide_eq_false_iff_not]; exact fun c => e ((str_ne_iff h).1 c)
theorem isBnd_iff {b : List UInt8} : isBnd b = true ↔ (∀ x ∈ b, alnumB x = true) ∧ 1 ≤ b.length ∧ b.length ≤ 20 := by
  unfold isBnd; simp only [Bool.and_eq_true, decide_eq_true_eq, List.all_eq_true]
theorem isBnd_bad (s : ByteArray) (k : Nat) (hk : k < s.size) (h : alnumB s[k] = false) : isBnd s.data.toList = false := by
  have hm : s[k] ∈ s.data.toList := by simp [ByteArray.getElem_eq_getElem_data]
  have : s.data.toList.all alnumB = false := by rw [List.all_eq_false]; exact ⟨_, hm, by simp [h]⟩
  unfold isBnd; rw [this]; rfl
theorem isBnd_len (s : ByteArray) (h : s.size < 1 ∨ 20 < s.size) : isBnd s.data.toList = false := by
  unfold isBnd; rw [size_list]
  rcases h with h | h
  · rw [decide_eq_false (by omega)]; simp
  · rw [decide_eq_false (p := s.size ≤ 20) (by omega)]; simp
theorem isBnd_good (s : ByteArray) (h1 : 1 ≤ s.size) (h2 : s.size ≤ 20) (h : ∀ j, (h' : j < s.size) → alnumB s[j] = true) : isBnd s.data.toList = true := by
  refine isBnd_iff.2 ⟨fun x hx => ?_, by rw [size_list]; exact h1, by rw [size_list]; exact h2⟩
  obtain ⟨j, hj, rfl⟩ := List.getElem_of_mem hx
  exact h j hj
theorem bnd_size {s : ByteArray} (h : isBnd s.data.toList = true) : 1 ≤ s.size ∧ s.size ≤ 20 := by
  have := isBnd_iff.1 h; rw [size_list] at this; exact this.2
def FreshRet (o : Option (List UInt8)) (w : World) (e : Ending) (w' : World) : Prop := e = .returned (.tuple #[.string (str (o.getD [])), .bool o.isSome]) ∧ Below w.heap.size w w'
theorem freshRet_none {o : Option (List UInt8)} {w w' : World} (h : o = none) (hb : Below w.heap.size w w') : FreshRet o w (.returned (.tuple #[.string ⟨#[]⟩, .bool false])) w' := by
  subst h; exact ⟨rfl, hb⟩
theorem freshRet_some {o : Option (List UInt8)} {b : List UInt8} {X : ByteArray} {w w' : World} (h : o = some b) (hX : X = str b) (hb : Below w.heap.size w w') : FreshRet o w (.returned (.tuple #[.string X, .bool true])) w' := by
  subst h hX; exact ⟨rfl, hb⟩
theorem bName_strP (n : Nat) : (⟨#[98]⟩ : ByteArray) ++ str (Lib.decDigits n) = str (bName n) := by
  apply bytes_ext; rw [str_list, Joins.data_append, str_list]; rfl
theorem decD_smallP {n : Nat} (h : n < 100) : (str (Lib.decDigits n)).size ≤ 2 := by
  have := bName_len h
  unfold bName at this
  rw [str_size]
  rw [List.length_cons] at this
  split at this <;> omega
set_option maxRecDepth 100000 in
set_option maxHeartbeats 2000000 in
theorem boundaryValid_any (s : ByteArray) (w : World) (hs : s.size ≤ 1073741824) :
    Calls Tryd.prog 28 #[.string s] w fun e w' => e = .returned (.bool (isBnd s.data.toList)) ∧ w = w' := by
  go_enter Tryd.func28, Tryd.ntmps28
  go_wp2_with fail
  go_loop [3] (fun i => ∃ k : Nat, k ≤ s.size ∧ i = .int .i64 k ∧ ∀ j, (h : j < k) → (h' : j < s.size) → alnumB s[j] = true) (fun i => s.size - (intOf i).toNat)
  case atStart => exact ⟨0, Nat.zero_le _, rfl, fun j h => by omega⟩
  case round =>
    obtain ⟨k, hk, rfl, hall⟩ := hrel
    have H := Lib.hid hall
    clear hall
    by_cases hlt : k < s.size
    · cases h1 : letB s[k]
      · cases h2 : digB s[k]
        · have HN := Lib.hid (isBnd_bad s k hlt (by rw [alnum_eq, h1, h2]; rfl))
          have H1 := Lib.hid h1
          have H2 := Lib.hid h2
          clear h1 h2
          go_wp2_with fail
          refine (isLetter_any _ _).mono ?_
          rintro e w1 ⟨rfl, rfl⟩
          rw [H1.out]
          go_wp2_with fail
          refine (isDigit_any _ _).mono ?_
          rintro e w1 ⟨rfl, rfl⟩
          rw [H2.out]
          go_wp2
          go_ret
          exact ⟨ret_bool HN.out.symm, rfl⟩
        · have HN : Hid (alnumB s[k] = true) := by show _ = _; rw [alnum_eq, h2]; simp
          have H1 := Lib.hid h1
          have H2 := Lib.hid h2
          clear h1 h2
          go_wp2_with fail
          refine (isLetter_any _ _).mono ?_
          rintro e w1 ⟨rfl, rfl⟩
          rw [H1.out]
          go_wp2_with fail
          refine (isDigit_any _ _).mono ?_
          rintro e w1 ⟨rfl, rfl⟩
          rw [H2.out]
          go_wp2
          go_round
          case rel => exact ⟨k + 1, by omega, by go_num, fun j h h' => by
            by_cases e : j = k
            · subst e; exact HN.out
            · exact H.out j (by omega) h'⟩
          case measure => simp [intOf]; omega
      · have HN : Hid (alnumB s[k] = true) := by show _ = _; rw [alnum_eq, h1]; simp
        have H1 := Lib.hid h1
        clear h1
        go_wp2_with fail
        refine (isLetter_any _ _).mono ?_
        rintro e w1 ⟨rfl, rfl⟩
        rw [H1.out]
        go_wp2
        go_round
        case rel => exact ⟨k + 1, by omega, by go_num, fun j h h' => by
          by_cases e : j = k
          · subst e; exact HN.out
          · exact H.out j (by omega) h'⟩
        case measure => simp [intOf]; omega
    · by_cases h0 : s.size = 0
      · have HN := Lib.hid (isBnd_len s (.inl (by omega)))
        have he := empty_t h0
        have H0 := Lib.hid h0
        clear h0
        go_wp2
        go_ret
        exact ⟨ret_bool HN.out.symm, rfl⟩
      · have he := empty_f (s := s) (by omega)
        by_cases h20 : s.size ≤ 20
        · have HN := Lib.hid (isBnd_good s (by omega) h20 (fun j h' => H.out j (by omega) h'))
          have d1 : decide ((s.size : Int) ≤ 20) = true := by simp; omega
          go_wp2
          go_ret
          exact ⟨ret_bool HN.out.symm, rfl⟩
        · have HN := Lib.hid (isBnd_len s (.inr (by omega)))
          have d1 : decide ((s.size : Int) ≤ 20) = false := by simp; omega
          go_wp2
          go_ret
          exact ⟨ret_bool HN.out.symm, rfl⟩
end Go.Proofs.YtdoclfbfhlgejacDoor
