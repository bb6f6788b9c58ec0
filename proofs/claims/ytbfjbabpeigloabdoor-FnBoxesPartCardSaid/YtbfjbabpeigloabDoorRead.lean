/-
  Words in quotes, read: what the program's functions return. No statement is proved here.
-/
import Derived.Test.YtbfjbabpeigloabDoorQuote
namespace Go.Proofs.YtbfjbabpeigloabDoor
open Go.RowKit

/-- Reading from place k on goes on at place j, the bytes acc having been read. -/
def goesOn (s : ByteArray) (k j : Nat) (acc : List UInt8) : Prop := readQ (s.data.toList.drop k) = (readQ (s.data.toList.drop j)).map fun x => (acc ++ x.1, x.2)
theorem goesOn_start (s : ByteArray) (k : Nat) : goesOn s k k [] := by
  unfold goesOn; cases readQ (s.data.toList.drop k) <;> simp
theorem goesOn_plain {s : ByteArray} {k j : Nat} {acc : List UInt8} (h : goesOn s k j acc) (hj : j < s.size) (h1 : s[j] ≠ 34) (h2 : s[j] ≠ 92) : goesOn s k (j + 1) (acc ++ [s[j]]) := by
  unfold goesOn at h ⊢
  rw [h, drop_at s j hj, readQ_plain _ h1 h2]
  cases readQ (s.data.toList.drop (j + 1)) <;> simp
theorem goesOn_slash {s : ByteArray} {k j : Nat} {acc : List UInt8} (h : goesOn s k j acc) (hj : j + 1 < s.size) (h2 : s[j] = 92) : goesOn s k (j + 2) (acc ++ [s[j + 1]]) := by
  unfold goesOn at h ⊢
  rw [h, drop_at s j (by omega), h2, drop_at s (j + 1) hj, readQ_slash]
  cases readQ (s.data.toList.drop (j + 2)) <;> simp
theorem goesOn_end {s : ByteArray} {k j : Nat} {acc : List UInt8} (h : goesOn s k j acc) (hj : j < s.size) (h1 : s[j] = 34) : readQ (s.data.toList.drop k) = some (acc, s.data.toList.drop (j + 1)) := by
  unfold goesOn at h
  rw [h, drop_at s j hj, h1, readQ_end]; simp
theorem goesOn_none {s : ByteArray} {k j : Nat} {acc : List UInt8} (h : goesOn s k j acc) (hj : s.size ≤ j) : readQ (s.data.toList.drop k) = none := by
  unfold goesOn at h
  rw [h, drop_out s j hj]; rfl
theorem goesOn_last {s : ByteArray} {k j : Nat} {acc : List UInt8} (h : goesOn s k j acc) (hj : j + 1 = s.size) (h2 : s[j] = 92) : readQ (s.data.toList.drop k) = none := by
  unfold goesOn at h
  rw [h, drop_at s j (by omega), h2, drop_out s (j + 1) (by omega), readQ_last]; rfl
def RedS (s : ByteArray) (k : Nat) (w : World) (e : Ending) (w' : World) : Prop :=
  (∀ t r, readQ (s.data.toList.drop k) = some (t, r) → e = .returned (.tuple #[.string (str t), .int .i64 ((s.size - r.length : Nat) : Int)])) ∧
  (readQ (s.data.toList.drop k) = none → e = .returned (.tuple #[.string ⟨#[]⟩, .int .i64 (-1)])) ∧ w = w'
theorem redS_some {s : ByteArray} {k : Nat} {w : World} {t r : List UInt8} {o : ByteArray} {q : Int} (h : readQ (s.data.toList.drop k) = some (t, r)) (ho : o.data.toList = t) (hq : q = ((s.size - r.length : Nat) : Int)) : RedS s k w (.returned (.tuple #[.string o, .int .i64 q])) w := by
  refine ⟨fun t' r' h' => ?_, fun h' => ?_, rfl⟩
  · rw [h] at h'; injection h' with h'; injection h' with h1 h2; subst h1 h2; rw [hq, ← ho, str_of]
  · rw [h] at h'; cases h'
theorem redS_none {s : ByteArray} {k : Nat} {w : World} (h : readQ (s.data.toList.drop k) = none) : RedS s k w (.returned (.tuple #[.string ⟨#[]⟩, .int .i64 (-1)])) w := by
  refine ⟨fun t' r' h' => ?_, fun _ => rfl, rfl⟩
  rw [h] at h'; cases h'
theorem ext_one (s : ByteArray) (k : Nat) (h : k < s.size) : (s.extract k (k + 1)).data.toList = [s[k]] := by
  rw [Lib.extract_data, drop_at s k h]; simp
theorem ext_one_size (s : ByteArray) (k : Nat) (h : k < s.size) : (s.extract k (k + 1)).size = 1 := by
  rw [← size_list, ext_one s k h]; rfl
set_option maxRecDepth 100000 in
set_option maxHeartbeats 4000000 in
theorem l1Read_any (s : ByteArray) (a : Nat) (w : World) (ha : a < s.size) (hs : s.size ≤ 1073741824) :
    Calls Tryd.prog 100 #[.string s, .int .i64 a] w (RedS s (a + 1) w) := by
  go_enter Tryd.func100, Tryd.ntmps100
  go_wp2_with fail
  go_loop [6, 7] (fun v i => ∃ (k : Nat) (o : ByteArray), k ≤ s.size ∧ i = .int .i64 k ∧ v = .string o ∧ o.size ≤ k ∧ goesOn s (a + 1) k o.data.toList) (fun _ i => s.size - (intOf i).toNat)
  case atStart => exact ⟨a + 1, ⟨#[]⟩, by omega, by go_num, rfl, Nat.zero_le _, goesOn_start s _⟩
  case round =>
    obtain ⟨k, o, hk, rfl, rfl, hal, hg⟩ := hrel
    have HG := Lib.hid hg
    clear hg
    by_cases hlt : k < s.size
    · by_cases h34 : s[k] = 34
      · have HR := Lib.hid (goesOn_end HG.out hlt h34)
        have e1 := beq_t h34 (n := 34) rfl
        clear h34
        go_wp2
        go_ret2
        exact redS_some HR.out rfl (by rw [List.length_drop, size_list]; omega)
      · have e1 := beq_f h34 (n := 34) rfl
        by_cases h92 : s[k] = 92
        · have e2 := beq_t h92 (n := 92) rfl
          by_cases hl2 : k + 1 < s.size
          · have HN := Lib.hid (goesOn_slash HG.out hl2 h92)
            have e3 : (((k : Int) + 1) == (s.size : Int)) = false := by rw [beq_eq_false_iff_ne]; omega
            have hx1 := ext_one_size s (k + 1) hl2
            have HX := Lib.hid (ext_one s (k + 1) hl2)
            clear h92 h34
            go_wp2
            go_round
            case rel => exact ⟨k + 2, _, by omega, by go_num, rfl, by rw [ByteArray.size_append]; simp only [hx1]; omega, by rw [Joins.data_append, HX.out]; exact HN.out⟩
            case measure => simp [intOf]; omega
          · have HR := Lib.hid (goesOn_last HG.out (by omega) h92)
            have e3 : (((k : Int) + 1) == (s.size : Int)) = true := by rw [beq_iff_eq]; omega
            clear h92 h34
            go_wp2
            go_ret2
            exact redS_none HR.out
        · have e2 := beq_f h92 (n := 92) rfl
          have HN := Lib.hid (goesOn_plain HG.out hlt h34 h92)
          have hx1 := ext_one_size s k hlt
          have HX := Lib.hid (ext_one s k hlt)
          clear h92 h34
          go_wp2
          go_round
          case rel => exact ⟨k + 1, _, by omega, by go_num, rfl, by rw [ByteArray.size_append, hx1]; omega, by rw [Joins.data_append, HX.out]; exact HN.out⟩
          case measure => simp [intOf]; omega
    · have HR := Lib.hid (goesOn_none HG.out (by omega))
      go_wp2
      go_ret2
      exact redS_none HR.out
def uqT (l : List UInt8) : List UInt8 := (unq l).getD []
def uqB (l : List UInt8) : Bool := (unq l).isSome
theorem list_of_size (s : ByteArray) (h : 0 < s.size) : s.data.toList = s[0] :: s.data.toList.drop 1 := by
  have := drop_at s 0 h; simpa using this
theorem empty_f {s : ByteArray} (h : 0 < s.size) : s.toList.isEmpty = false := by
  rw [ByteArray.toList_eq, list_of_size s h]; rfl
theorem empty_t {s : ByteArray} (h : s.size = 0) : s.toList.isEmpty = true := by
  rw [ByteArray.toList_eq, List.isEmpty_iff]; exact List.length_eq_zero_iff.1 (by rw [size_list]; exact h)
theorem empty_list {s : ByteArray} (h : s.size = 0) : s.data.toList = [] := List.length_eq_zero_iff.1 (by rw [size_list]; exact h)
end Go.Proofs.YtbfjbabpeigloabDoor
