/-
  One field in the exact laws: its size, copy, comparison; how a field that came in reads. No statement is proved here.
-/
import Derived.Test.YtbeaaodhcipdgaaGreatDoorLaw0
import Derived.Test.YtbeaaodhcipdgaaGreatDoorFldV
import Derived.Lib.SmallJoins
namespace Go.Proofs.YtbeaaodhcipdgaaGreatDoor
open Go.ChangeShapes Go.WideShapes Go.ChangeAt Go.RowKit
open Go.ChangeMaps (open_string shut_string)

set_option maxRecDepth 100000 in
theorem open_fld {H : Type} {enc : TypeId × Value → H} {W : World} {r : Reach} {b0 : Nat} {v : Value} {d : DataW H} {p : List MemPlace} (hv : Value.okWide Tryz.prog W r b0 74 v)
    (h : DataW.Trod enc Tryz.prog W 0 (fun _ => true) true 74 v d p) : ∃ n l : ByteArray, v = .agg #[.string n, .string l] ∧ n.size ≤ maxLen ∧ l.size ≤ maxLen := by
  obtain ⟨v0, v1, y0, y1, m, rfl, rfl, rfl, t0, t1⟩ := Joins.open_agg2 Tryz.underlying74 (by kernel_rfl) (by kernel_rfl) hv h
  obtain ⟨s0, e0, _, z0⟩ := DataW.trod_string Tryz.underlying9 t0
  obtain ⟨s1, e1, _, z1⟩ := DataW.trod_string Tryz.underlying9 t1
  injection e0 with e0 _
  injection e1 with e1 _
  subst e0 e1
  exact ⟨s0, s1, rfl, z0, z1⟩
/-- A size is what is left, or below 0 where it does not fit. -/
def SizedF (m : Int) (n l : ByteArray) (w : World) (e : Ending) (w' : World) : Prop := ∃ r : Int, e = .returned (.int .i64 r) ∧ -1 ≤ r ∧ r ≤ m ∧ (0 ≤ r → (n.size : Int) ≤ m ∧ (l.size : Int) ≤ m) ∧ Below w.heap.size w w'
set_option maxRecDepth 100000 in
set_option maxHeartbeats 1000000 in
theorem szField_any (n l : ByteArray) (m : Int) (w : World) (hn : n.size ≤ maxLen) (hl : l.size ≤ maxLen) (hm0 : 0 ≤ m) (hm : m ≤ 1073741824) :
    Calls Tryz.prog 59 #[.agg #[.string n, .string l], .int .i64 m] w (SizedF m n l w) := by
  unfold maxLen at hn hl
  have hb0 : Below w.heap.size w (w.alloc (.cells #[.string n, .string l] 74)) := (Below.refl _ _).alloc (Nat.le_refl _) _
  by_cases h1 : m - n.size < 0
  · go_enter Tryz.func59, Tryz.ntmps59
    go_wp2
    go_ret
    exact ⟨-1, rfl, by omega, by omega, fun h => by omega, hb0⟩
  · by_cases h2 : m - n.size - l.size < 0
    · go_enter Tryz.func59, Tryz.ntmps59
      go_wp2
      go_ret
      exact ⟨-1, rfl, by omega, by omega, fun h => by omega, hb0⟩
    · go_enter Tryz.func59, Tryz.ntmps59
      go_wp2
      go_ret
      exact ⟨m - n.size - l.size, rfl, by omega, by omega, fun _ => ⟨by omega, by omega⟩, hb0⟩
set_option maxRecDepth 100000 in
set_option maxHeartbeats 1000000 in
theorem toField_any (n l : ByteArray) (w : World) :
    Calls Tryz.prog 64 #[.agg #[.string n, .string l]] w fun e w' => e = .returned (.agg #[.string n, .string l]) ∧ Below w.heap.size w w' := by
  go_enter Tryz.func64, Tryz.ntmps64
  go_wp2
  refine bodyPost_ret (v := .agg #[.string n, .string l]) (by simp [results, Tryz.results64, go_sem]) rfl ⟨rfl, ?_⟩
  exact (((Below.refl _ _).alloc (Nat.le_refl _) _).alloc (by simp) _).alloc (by simp; omega) _
set_option maxRecDepth 100000 in
set_option maxHeartbeats 1000000 in
theorem eqField_any (n l n2 l2 : ByteArray) (w : World) :
    Calls Tryz.prog 67 #[.agg #[.string n, .string l], .agg #[.string n2, .string l2]] w fun e w' => e = .returned (.bool (decide (fld n l = fld n2 l2))) ∧ Below w.heap.size w w' := by
  have hb0 : Below w.heap.size w ((w.alloc (.cells #[.string n, .string l] 78)).alloc (.cells #[.string n2, .string l2] 78)) := ((Below.refl _ _).alloc (Nat.le_refl _) _).alloc (by simp) _
  have HI : Hid (fld n l = fld n2 l2 ↔ n = n2 ∧ l = l2) := by
    show _ ↔ _
    unfold fld
    constructor
    · intro h; injection h with h1 h2; exact ⟨bytes_ext h1, bytes_ext h2⟩
    · rintro ⟨rfl, rfl⟩; rfl
  by_cases h1 : n = n2
  · have e1 : (n.toList == n2.toList) = true := by rw [h1]; simp
    by_cases h2 : l = l2
    · have e2 : (l.toList == l2.toList) = true := by rw [h2]; simp
      have HV : Hid (decide (fld n l = fld n2 l2) = true) := by show _ = _; rw [decide_eq_true_iff, HI.out]; exact ⟨h1, h2⟩
      clear h1 h2
      go_enter Tryz.func67, Tryz.ntmps67
      go_wp2
      go_ret
      exact ⟨ret_bool HV.out.symm, hb0⟩
    · have e2 : (l.toList == l2.toList) = false := by rw [beq_dec, decide_eq_false h2]
      have HV : Hid (decide (fld n l = fld n2 l2) = false) := by show _ = _; rw [decide_eq_false_iff_not, HI.out]; exact fun h => h2 h.2
      clear h1 h2
      go_enter Tryz.func67, Tryz.ntmps67
      go_wp2
      go_ret
      exact ⟨ret_bool HV.out.symm, hb0⟩
  · have e1 : (n.toList == n2.toList) = false := by rw [beq_dec, decide_eq_false h1]
    have HV : Hid (decide (fld n l = fld n2 l2) = false) := by show _ = _; rw [decide_eq_false_iff_not, HI.out]; exact fun h => h1 h.1
    clear h1
    go_enter Tryz.func67, Tryz.ntmps67
    go_wp2
    go_ret
    exact ⟨ret_bool HV.out.symm, hb0⟩
end Go.Proofs.YtbeaaodhcipdgaaGreatDoor
