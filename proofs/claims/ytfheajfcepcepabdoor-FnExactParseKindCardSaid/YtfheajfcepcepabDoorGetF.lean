/-
  Fields by their names: what the program's functions return. No statement is proved here.
-/
import Derived.Test.YtfheajfcepcepabDoorFldV
import Derived.Test.YtfheajfcepcepabDoorWords
import Derived.Deep.QuietTactic
import Derived.BigQuiet
import Derived.Laws.AppendOwn
import Derived.Laws.OwnMore
import Derived.Laws.AppendOwnNone
namespace Go.Proofs.YtfheajfcepcepabDoor
open Go.RowKit

theorem findOne_any (p : Nat) (s n v : ByteArray) (w : World) (hp : w.cell? ⟨p, 0, none⟩ = some (.string s)) (hn : n.size ≤ 1073741824) (hs : s.size ≤ 1073741824) :
    Calls Tryd.prog 76 #[.agg #[.string n, .string v], .pointer (some ⟨p, 0, none⟩)] w fun e w' => e = .returned (.bool (sameN n.data.toList s.data.toList)) ∧ Below w.heap.size w w' := by
  have hb0 : Below w.heap.size w (w.alloc (.cells #[.string n, .string v] 37)) := (Below.refl _ _).alloc (Nat.le_refl _) _
  have hc := (below_at hb0 (lt_of_cell hp)).trans hp
  go_enter Tryd.func76, Tryd.ntmps76
  go_wp2_with fail
  refine (sameText_any n s _ hn hs).mono ?_
  rintro e w1 ⟨rfl, hb1⟩
  go_wp2
  go_ret
  exact ⟨ret_bool (sameS _ _), nx hb0 hb1⟩
set_option maxRecDepth 100000 in
set_option maxHeartbeats 1000000 in
theorem indexFunc_any (a : Option Addr) (n c : Nat) (xs : List Fld) (p : Nat) (s : ByteArray) (w : World) (hr : RdF w a n xs) (hn : n ≤ 1073741824) (hx : ∀ x ∈ xs, SmallF 1073741824 x)
    (hp : w.cell? ⟨p, 0, none⟩ = some (.string s)) (hs : s.size ≤ 1073741824) :
    Calls Tryd.prog 75 #[.slice a n c, .func (.func 76) #[] #[.pointer (some ⟨p, 0, none⟩)]] w fun e w' => e = .returned (.int .i64 (idxI (findN xs s.data.toList))) ∧ Below w.heap.size w w' := by
  obtain ⟨hl, hr2⟩ := hr
  have HLEN := Lib.hid hl
  have HR := Lib.hid hr2
  have HX := Lib.hid hx
  have hpl := lt_of_cell hp
  clear hl hr2 hx
  go_enter Tryd.func75, Tryd.ntmps75
  go_wp2_with fail
  go_loopw [8] (fun i wr => ∃ (k : Nat), k ≤ n ∧ i = .int .i64 k ∧ Below w.heap.size w wr ∧ ∀ j, j < k → (hj : j < xs.length) → sameN xs[j].name s.data.toList = false) (fun i _ => n - (intOf i).toNat)
  case atStart => exact ⟨0, Nat.zero_le _, rfl, Below.refl _ _, fun j h => by omega⟩
  case round =>
    obtain ⟨k, hk, rfl, hb, hall⟩ := hrel
    have HA := Lib.hid hall
    clear hall
    by_cases hlt : k < n
    · have hkx : k < xs.length := by rw [HLEN.out]; exact hlt
      obtain ⟨b, off, rfl, hbl, hcell⟩ := HR.out.resolve_left (by omega)
      obtain ⟨q0, q1⟩ := RdR.fld hcell hkx
      rw [← below_at hb hbl] at q0 q1
      have hp2 : wr.cell? ⟨p, 0, none⟩ = some (.string s) := by rw [below_at hb hpl]; exact hp
      have hz := (HX.out _ (List.getElem_mem hkx)).1
      rw [← str_size] at hz
      have HSL := Lib.hid (str_list xs[k].name)
      have HHIT : Hid (sameN xs[k].name s.data.toList = true → findN xs s.data.toList = some k) := fun h => findN_at xs k hkx h (fun j hj hl => HA.out j hj hl)
      clear hcell
      cases hq : sameN xs[k].name s.data.toList
      · have HQ := Lib.hid hq
        have HQ' : Hid (sameN (str xs[k].name).data.toList s.data.toList = false) := by show _ = _; rw [HSL.out]; exact hq
        generalize str xs[k].name = s0 at *
        generalize str xs[k].val = s1 at *
        clear hq
        go_wp2_with fail
        refine (findOne_any p s s0 s1 _ hp2 hz hs).mono ?_
        rintro e w1 ⟨rfl, hb1⟩
        rw [HQ'.out]
        go_wp2
        go_roundw
        case rel => exact ⟨k + 1, by omega, by go_num, nx hb hb1, fun j hj hjx => by
          by_cases e : j = k
          · subst e; exact HQ.out
          · exact HA.out j (by omega) hjx⟩
        case measure => simp [intOf]; omega
      · have HF := Lib.hid (HHIT.out hq)
        have HQ' : Hid (sameN (str xs[k].name).data.toList s.data.toList = true) := by show _ = _; rw [HSL.out]; exact hq
        generalize str xs[k].name = s0 at *
        generalize str xs[k].val = s1 at *
        clear hq
        go_wp2_with fail
        refine (findOne_any p s s0 s1 _ hp2 hz hs).mono ?_
        rintro e w1 ⟨rfl, hb1⟩
        rw [HQ'.out]
        go_wp2
        go_ret
        exact ⟨ret_int (by rw [HF.out]; rfl), nx hb hb1⟩
    · have HF := Lib.hid (findN_none xs (n := s.data.toList) (fun j hj => HA.out j (by have := HLEN.out; omega) hj))
      go_wp2
      go_ret
      exact ⟨ret_int (by rw [HF.out]; rfl), hb⟩
set_option maxRecDepth 100000 in
set_option maxHeartbeats 400000 in
theorem findField_any (a : Option Addr) (n c : Nat) (xs : List Fld) (s : ByteArray) (w : World) (hr : RdF w a n xs) (hn : n ≤ 1073741824) (hx : ∀ x ∈ xs, SmallF 1073741824 x) (hs : s.size ≤ 1073741824) :
    Calls Tryd.prog 61 #[.slice a n c, .string s] w fun e w' => e = .returned (.int .i64 (idxI (findN xs s.data.toList))) ∧ Below w.heap.size w w' := by
  have hb0 : Below w.heap.size w (w.alloc (.cells #[.string s] 9)) := (Below.refl _ _).alloc (Nat.le_refl _) _
  go_enter Tryd.func61, Tryd.ntmps61
  go_wp2_with fail
  refine (indexFunc_any a n c xs w.heap.size s _ (hr.below hb0) hn hx (by rw [World.cell?_alloc_at _ _ _ _ rfl]; rfl) hs).mono ?_
  rintro e w1 ⟨rfl, hb1⟩
  go_wp2
  go_ret
  exact ⟨rfl, nx hb0 hb1⟩
set_option maxRecDepth 100000 in
set_option maxHeartbeats 1000000 in
theorem l3Find_any (a : Option Addr) (n c : Nat) (xs : List Fld) (s : ByteArray) (w : World) (hr : RdF w a n xs) (hn : n ≤ 1073741824) (hx : ∀ x ∈ xs, SmallF 1073741824 x) (hs : s.size ≤ 1073741824) :
    Calls Tryd.prog 29 #[.slice a n c, .string s] w fun e w' => e = .returned (.int .i64 (idxI (findN xs s.data.toList))) ∧ Below w.heap.size w w' := by
  obtain ⟨hl, hr2⟩ := hr
  have HLEN := Lib.hid hl
  have HR := Lib.hid hr2
  have HX := Lib.hid hx
  clear hl hr2 hx
  go_enter Tryd.func29, Tryd.ntmps29
  go_wp2_with fail
  go_loopw [5] (fun i wr => ∃ (k : Nat), k ≤ n ∧ i = .int .i64 k ∧ Below w.heap.size w wr ∧ ∀ j, j < k → (hj : j < xs.length) → sameN xs[j].name s.data.toList = false) (fun i _ => n - (intOf i).toNat)
  case atStart => exact ⟨0, Nat.zero_le _, rfl, Below.refl _ _, fun j h => by omega⟩
  case round =>
    obtain ⟨k, hk, rfl, hb, hall⟩ := hrel
    have HA := Lib.hid hall
    clear hall
    by_cases hlt : k < n
    · have hkx : k < xs.length := by rw [HLEN.out]; exact hlt
      obtain ⟨b, off, rfl, hbl, hcell⟩ := HR.out.resolve_left (by omega)
      obtain ⟨q0, q1⟩ := RdR.fld hcell hkx
      rw [← below_at hb hbl] at q0 q1
      have hz := (HX.out _ (List.getElem_mem hkx)).1
      rw [← str_size] at hz
      have HSL := Lib.hid (str_list xs[k].name)
      have HHIT : Hid (sameN xs[k].name s.data.toList = true → findN xs s.data.toList = some k) := fun h => findN_at xs k hkx h (fun j hj hl => HA.out j hj hl)
      clear hcell
      cases hq : sameN xs[k].name s.data.toList
      · have HQ := Lib.hid hq
        have HQ' : Hid (decide (lowS (str xs[k].name) = lowS s) = false) := by show _ = _; rw [sameS, HSL.out]; exact hq
        generalize str xs[k].name = s0 at *
        generalize str xs[k].val = s1 at *
        clear hq
        go_wp2_with fail
        refine (sameTextS_any s0 s _ hz hs).mono ?_
        rintro e w1 ⟨rfl, hb1⟩
        rw [HQ'.out]
        go_wp2
        go_roundw
        case rel => exact ⟨k + 1, by omega, by go_num, nx hb hb1, fun j hj hjx => by
          by_cases e : j = k
          · subst e; exact HQ.out
          · exact HA.out j (by omega) hjx⟩
        case measure => simp [intOf]; omega
      · have HF := Lib.hid (HHIT.out hq)
        have HQ' : Hid (decide (lowS (str xs[k].name) = lowS s) = true) := by show _ = _; rw [sameS, HSL.out]; exact hq
        generalize str xs[k].name = s0 at *
        generalize str xs[k].val = s1 at *
        clear hq
        go_wp2_with fail
        refine (sameTextS_any s0 s _ hz hs).mono ?_
        rintro e w1 ⟨rfl, hb1⟩
        rw [HQ'.out]
        go_wp2
        go_ret
        exact ⟨ret_int (by rw [HF.out]; rfl), nx hb hb1⟩
    · have HF := Lib.hid (findN_none xs (n := s.data.toList) (fun j hj => HA.out j (by have := HLEN.out; omega) hj))
      go_wp2
      go_ret
      exact ⟨ret_int (by rw [HF.out]; rfl), hb⟩
end Go.Proofs.YtfheajfcepcepabDoor
