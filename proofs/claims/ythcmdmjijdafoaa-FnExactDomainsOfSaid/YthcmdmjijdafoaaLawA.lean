/-
  The exact laws of chapter 2 on one address: how an address that came in reads; its size, its copy, comparisons; each law's walk. For every input of the law: it returns true, and the input reads as it did. Conditions: none but the statement's own.
-/
import Derived.Test.YthcmdmjijdafoaaLaw2
import Derived.Test.YthcmdmjijdafoaaAdrV
import Derived.Test.YthcmdmjijdafoaaBoxA
import Derived.Lib.SmallJoins
namespace Go.Proofs.Ythcmdmjijdafoaa
open Go.ChangeShapes Go.WideShapes Go.ChangeAt Go.RowKit
open Go.ChangeMaps (open_string shut_string)

set_option maxRecDepth 100000 in
theorem open_adr {H : Type} {enc : TypeId × Value → H} {W : World} {r : Reach} {b0 : Nat} {v : Value} {d : DataW H} {p : List MemPlace} (hv : Value.okWide Try.prog W r b0 50 v)
    (h : DataW.Trod enc Try.prog W 0 (fun _ => true) true 50 v d p) : ∃ n l e : ByteArray, v = .agg #[.string n, .string l, .string e] ∧ n.size ≤ maxLen ∧ l.size ≤ maxLen ∧ e.size ≤ maxLen := by
  obtain ⟨v0, v1, v2, y0, y1, y2, m, rfl, rfl, rfl, t0, t1, t2⟩ := Joins.open_agg3 Try.underlying50 (by kernel_rfl) (by kernel_rfl) hv h
  obtain ⟨s0, e0, _, z0⟩ := DataW.trod_string Try.underlying9 t0
  obtain ⟨s1, e1, _, z1⟩ := DataW.trod_string Try.underlying9 t1
  obtain ⟨s2, e2, _, z2⟩ := DataW.trod_string Try.underlying9 t2
  injection e0 with e0 _
  injection e1 with e1 _
  injection e2 with e2 _
  subst e0 e1 e2
  exact ⟨s0, s1, s2, rfl, z0, z1, z2⟩
/-- A size is what is left, or below 0 where it does not fit. -/
def SizedA (m : Int) (n l d : ByteArray) (w : World) (e : Ending) (w' : World) : Prop := ∃ r : Int, e = .returned (.int .i64 r) ∧ -1 ≤ r ∧ r ≤ m ∧ (0 ≤ r → (n.size : Int) ≤ m ∧ (l.size : Int) ≤ m ∧ (d.size : Int) ≤ m) ∧ Below w.heap.size w w'
set_option maxRecDepth 100000 in
set_option maxHeartbeats 1000000 in
theorem szAddress_any (n l d : ByteArray) (m : Int) (w : World) (hn : n.size ≤ maxLen) (hl : l.size ≤ maxLen) (hd : d.size ≤ maxLen) (hm0 : 0 ≤ m) (hm : m ≤ 1073741824) :
    Calls Try.prog 35 #[.agg #[.string n, .string l, .string d], .int .i64 m] w (SizedA m n l d w) := by
  unfold maxLen at hn hl hd
  have hb0 : Below w.heap.size w (w.alloc (.cells #[.string n, .string l, .string d] 50)) := (Below.refl _ _).alloc (Nat.le_refl _) _
  by_cases h1 : m - n.size < 0
  · go_enter Try.func35, Try.ntmps35
    go_wp2
    go_ret
    exact ⟨-1, rfl, by omega, by omega, fun h => by omega, hb0⟩
  · by_cases h2 : m - n.size - l.size < 0
    · go_enter Try.func35, Try.ntmps35
      go_wp2
      go_ret
      exact ⟨-1, rfl, by omega, by omega, fun h => by omega, hb0⟩
    · by_cases h3 : m - n.size - l.size - d.size < 0
      · go_enter Try.func35, Try.ntmps35
        go_wp2
        go_ret
        exact ⟨-1, rfl, by omega, by omega, fun h => by omega, hb0⟩
      · go_enter Try.func35, Try.ntmps35
        go_wp2
        go_ret
        exact ⟨m - n.size - l.size - d.size, rfl, by omega, by omega, fun _ => ⟨by omega, by omega, by omega⟩, hb0⟩
set_option maxRecDepth 100000 in
set_option maxHeartbeats 1000000 in
theorem toAddress_any (n l d : ByteArray) (w : World) :
    Calls Try.prog 36 #[.agg #[.string n, .string l, .string d]] w fun e w' => e = .returned (.agg #[.string n, .string l, .string d]) ∧ Below w.heap.size w w' := by
  go_enter Try.func36, Try.ntmps36
  go_wp2
  refine bodyPost_ret (v := .agg #[.string n, .string l, .string d]) (by simp [results, Try.results36, go_sem]) rfl ⟨rfl, ?_⟩
  exact (((Below.refl _ _).alloc (Nat.le_refl _) _).alloc (by simp) _).alloc (by simp; omega) _
set_option maxRecDepth 100000 in
set_option maxHeartbeats 1000000 in
theorem eqAddress_any (n l d n2 l2 d2 : ByteArray) (w : World) :
    Calls Try.prog 37 #[.agg #[.string n, .string l, .string d], .agg #[.string n2, .string l2, .string d2]] w fun e w' => e = .returned (.bool (decide (adr n l d = adr n2 l2 d2))) ∧ Below w.heap.size w w' := by
  have hb0 : Below w.heap.size w ((w.alloc (.cells #[.string n, .string l, .string d] 29)).alloc (.cells #[.string n2, .string l2, .string d2] 29)) := ((Below.refl _ _).alloc (Nat.le_refl _) _).alloc (by simp) _
  have HI : Hid (adr n l d = adr n2 l2 d2 ↔ n = n2 ∧ l = l2 ∧ d = d2) := by
    show _ ↔ _
    unfold adr
    constructor
    · intro h; injection h with h1 h2 h3; exact ⟨bytes_ext h1, bytes_ext h2, bytes_ext h3⟩
    · rintro ⟨rfl, rfl, rfl⟩; rfl
  by_cases h1 : n = n2
  · have e1 : (n.toList == n2.toList) = true := by rw [h1]; simp
    by_cases h2 : l = l2
    · have e2 : (l.toList == l2.toList) = true := by rw [h2]; simp
      by_cases h3 : d = d2
      · have e3 : (d.toList == d2.toList) = true := by rw [h3]; simp
        have HV : Hid (decide (adr n l d = adr n2 l2 d2) = true) := by show _ = _; rw [decide_eq_true_iff, HI.out]; exact ⟨h1, h2, h3⟩
        clear h1 h2 h3
        go_enter Try.func37, Try.ntmps37
        go_wp2
        go_ret
        exact ⟨ret_bool HV.out.symm, hb0⟩
      · have e3 : (d.toList == d2.toList) = false := by rw [beq_dec, decide_eq_false h3]
        have HV : Hid (decide (adr n l d = adr n2 l2 d2) = false) := by show _ = _; rw [decide_eq_false_iff_not, HI.out]; exact fun h => h3 h.2.2
        clear h1 h2 h3
        go_enter Try.func37, Try.ntmps37
        go_wp2
        go_ret
        exact ⟨ret_bool HV.out.symm, hb0⟩
    · have e2 : (l.toList == l2.toList) = false := by rw [beq_dec, decide_eq_false h2]
      have HV : Hid (decide (adr n l d = adr n2 l2 d2) = false) := by show _ = _; rw [decide_eq_false_iff_not, HI.out]; exact fun h => h2 h.2.1
      clear h1 h2
      go_enter Try.func37, Try.ntmps37
      go_wp2
      go_ret
      exact ⟨ret_bool HV.out.symm, hb0⟩
  · have e1 : (n.toList == n2.toList) = false := by rw [beq_dec, decide_eq_false h1]
    have HV : Hid (decide (adr n l d = adr n2 l2 d2) = false) := by show _ = _; rw [decide_eq_false_iff_not, HI.out]; exact fun h => h1 h.1
    clear h1
    go_enter Try.func37, Try.ntmps37
    go_wp2
    go_ret
    exact ⟨ret_bool HV.out.symm, hb0⟩
theorem eqAddress_adr (a b : Adr) (w : World) :
    Calls Try.prog 37 #[adrV a, adrV b] w fun e w' => e = .returned (.bool (decide (a = b))) ∧ Below w.heap.size w w' := by
  have := eqAddress_any (str a.name) (str a.loc) (str a.dom) (str b.name) (str b.loc) (str b.dom) w
  rw [adr_str, adr_str] at this; exact this
end Go.Proofs.Ythcmdmjijdafoaa
