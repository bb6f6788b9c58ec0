/-
  Words: what the program's functions of chapter 1 return, one theorem a function. No statement is proved here.
-/
import Derived.Test.YtbfjbabpeigloabDoorProg
import Derived.Test.YtbfjbabpeigloabDoorChecked
import Derived.Test.YtbfjbabpeigloabDoorWordsM
namespace Go.Proofs.YtbfjbabpeigloabDoor
open Go.RowKit

set_option maxRecDepth 100000 in
set_option maxHeartbeats 400000 in
theorem textValid_any (s : ByteArray) (w : World) (hs : s.size ≤ maxLen) :
    Calls Tryd.prog 87 #[.string s] w fun e w' => e = .returned (.bool (isText s.data.toList)) ∧ w = w' := by
  unfold maxLen at hs
  by_cases hl : 200 < s.size
  · have H := Lib.hid (isText_long s hl)
    go_enter Tryd.func87, Tryd.ntmps87
    go_wp2
    go_ret
    exact ⟨ret_bool H.out.symm, rfl⟩
  · have hd : decide ((200 : Int) < s.size) = false := by simp; omega
    go_enter Tryd.func87, Tryd.ntmps87
    go_wp2
    go_loop [3] (fun i => ∃ k : Nat, k ≤ s.size ∧ i = .int .i64 k ∧ ∀ j, (h : j < k) → (h' : j < s.size) → okB s[j] = true) (fun i => s.size - (intOf i).toNat)
    case atStart => exact ⟨0, Nat.zero_le _, rfl, fun j h => by omega⟩
    case round =>
      obtain ⟨k, hk, rfl, hall⟩ := hrel
      have H := Lib.hid hall
      clear hall
      by_cases hlt : k < s.size
      · cases ho : okB s[k]
        · have HO := Lib.hid (isText_bad s k hlt ho)
          rcases okB_f ho with h1 | h1
          · clear ho
            go_wp2
            go_ret
            exact ⟨ret_bool HO.out.symm, rfl⟩
          · have h2 : ¬ ((s[k].toNat : Int) < 32) := by omega
            clear ho
            go_wp2
            go_ret
            exact ⟨ret_bool HO.out.symm, rfl⟩
        · have HO := Lib.hid ho
          obtain ⟨h1, h2⟩ := okB_t ho
          clear ho
          go_wp2
          go_round
          case rel => exact ⟨k + 1, by omega, by go_num, fun j h h' => by
            by_cases e : j = k
            · subst e; exact HO.out
            · exact H.out j (by omega) h'⟩
          case measure => simp [intOf]; omega
      · have HO := Lib.hid (isText_good s (by omega) (fun j h' => H.out j (by omega) h'))
        go_wp2
        go_ret
        exact ⟨ret_bool HO.out.symm, rfl⟩
set_option maxRecDepth 100000 in
set_option maxHeartbeats 400000 in
theorem textValidS_any (s : ByteArray) (w : World) (hs : s.size ≤ maxLen) :
    Calls Tryd.prog 92 #[.string s] w fun e w' => e = .returned (.bool (isText s.data.toList)) ∧ w = w' := by
  unfold maxLen at hs
  go_enter Tryd.func92, Tryd.ntmps92
  go_wp2
  go_loop [3] (fun i => ∃ k : Nat, k ≤ s.size ∧ k ≤ 201 ∧ i = .int .i64 k ∧ ∀ j, (h : j < k) → (h' : j < s.size) → okB s[j] = true) (fun i => s.size - (intOf i).toNat)
  case atStart => exact ⟨0, Nat.zero_le _, by omega, rfl, fun j h => by omega⟩
  case round =>
    obtain ⟨k, hk, hk2, rfl, hall⟩ := hrel
    have H := Lib.hid hall
    clear hall
    by_cases hlt : k < s.size
    · by_cases hl : k ≤ 200
      · have hd : decide ((k : Int) ≤ 200) = true := by simp; omega
        cases ho : okB s[k]
        · have HO := Lib.hid (isText_bad s k hlt ho)
          rcases okB_f ho with h1 | h1
          · clear ho
            go_wp2
            go_ret
            exact ⟨ret_bool HO.out.symm, rfl⟩
          · have h2 : ¬ ((s[k].toNat : Int) < 32) := by omega
            clear ho
            go_wp2
            go_ret
            exact ⟨ret_bool HO.out.symm, rfl⟩
        · have HO := Lib.hid ho
          obtain ⟨h1, h2⟩ := okB_t ho
          clear ho
          go_wp2
          go_round
          case rel => exact ⟨k + 1, by omega, by omega, by go_num, fun j h h' => by
            by_cases e : j = k
            · subst e; exact HO.out
            · exact H.out j (by omega) h'⟩
          case measure => simp [intOf]; omega
      · have hd : decide ((k : Int) ≤ 200) = false := by simp; omega
        have HO := Lib.hid (isText_long s (by omega))
        have hq : decide ((s.size : Int) ≤ 200) = false := by simp; omega
        go_wp2
        go_ret
        exact ⟨ret_bool HO.out.symm, rfl⟩
    · by_cases hl : s.size ≤ 200
      · have HO := Lib.hid (isText_good s hl (fun j h' => H.out j (by omega) h'))
        have hq : decide ((s.size : Int) ≤ 200) = true := by simp; omega
        go_wp2
        go_ret
        exact ⟨ret_bool HO.out.symm, rfl⟩
      · have HO := Lib.hid (isText_long s (by omega))
        have hq : decide ((s.size : Int) ≤ 200) = false := by simp; omega
        go_wp2
        go_ret
        exact ⟨ret_bool HO.out.symm, rfl⟩
theorem isCapital_any (c : UInt8) (w : World) : Calls Tryd.prog 123 #[.int .u8 c.toNat] w fun e w' => e = .returned (.bool (capB c)) ∧ w = w' := by
  by_cases h : (65 : Int) ≤ c.toNat
  all_goals
    go_enter Tryd.func123, Tryd.ntmps123
    go_wp2
    go_ret
    exact ⟨ret_bool (by rw [Bool.eq_iff_iff]; simp [capB]; omega), rfl⟩
set_option maxRecDepth 100000 in
set_option maxHeartbeats 400000 in
theorem lowerTextS_any (s : ByteArray) (w : World) (hs : s.size ≤ 1073741824) :
    Calls Tryd.prog 90 #[.string s] w fun e w' => e = .returned (.string (lowS s)) ∧ Below w.heap.size w w' := by
  have hconv := fun w => run_bytes_of_string (P := Tryd.prog) w 9 22 5 s Tryd.underlying9 Tryd.underlying22 Tryd.underlying5
  go_enter Tryd.func90, Tryd.ntmps90
  go_wp2_with fail
  generalize grownCap w s.size 0 5 = cap
  go_loopw [4] (fun i wr => ∃ k : Nat, k ≤ s.size ∧ i = .int .i64 k ∧ Below w.heap.size w wr ∧ w.heap.size < wr.heap.size ∧ lowCells s w.heap.size k wr) (fun i _ => s.size - (intOf i).toNat)
  case atStart =>
    exact ⟨0, Nat.zero_le _, rfl, ((Below.refl _ _).alloc (Nat.le_refl _) _).drew, by simp, lowCells_drew (lowCells_start s w cap _)⟩
  case round =>
    obtain ⟨k, hk, rfl, hb, hz, hc⟩ := hrel
    have HC := Lib.hid hc
    clear hc
    by_cases hlt : k < s.size
    · have c1 : wr.cell? ⟨w.heap.size, k, none⟩ = some (.int .u8 (s[k].toNat : Int)) := by rw [HC.out.1 k hlt, if_neg (Nat.lt_irrefl _)]
      have f1 := HC.out.2 k hlt
      cases h : capB s[k]
      · have HB := Lib.hid h
        rcases capB_f h with h1 | ⟨h0, h1⟩ <;> clear h
        all_goals
          go_wp2
          go_roundw
          case rel => exact ⟨k + 1, by omega, by go_num, hb, hz, lowCells_keep HC.out hlt HB.out⟩
          case measure => simp [intOf]; omega
      · obtain ⟨h1, h2⟩ := capB_t h
        have HB := Lib.hid h
        clear h
        go_wp2
        go_roundw
        case rel => exact ⟨k + 1, by omega, by go_num, hb.setCell (by simp) _, by simpa using hz, lowCells_set HC.out hlt _ (lowB_t HB.out)⟩
        case measure => simp [intOf]; omega
    · have hk2 : k = s.size := by omega
      subst hk2
      have hback := fun c => lowCells_back (P := Tryd.prog) HC.out 22 9 5 c Tryd.underlying22 Tryd.underlying5 Tryd.underlying9
      clear hlt
      go_wp2
      go_ret
      exact ⟨rfl, hb⟩
end Go.Proofs.YtbfjbabpeigloabDoor
