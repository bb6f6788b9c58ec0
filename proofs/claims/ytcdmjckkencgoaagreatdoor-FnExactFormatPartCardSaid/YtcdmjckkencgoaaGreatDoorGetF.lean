/-
  Fields by their names: what the program's functions return. No statement is proved here.
-/
import Derived.Test.YtcdmjckkencgoaaGreatDoorFldV
import Derived.Test.YtcdmjckkencgoaaGreatDoorWords
import Derived.Deep.QuietTactic
import Derived.BigQuiet
import Derived.Laws.AppendOwn
import Derived.Laws.OwnMore
import Derived.Laws.AppendOwnNone
namespace Go.Proofs.YtcdmjckkencgoaaGreatDoor
open Go.RowKit

theorem findOne_any (p : Nat) (s n v : ByteArray) (w : World) (hp : w.cell? ⟨p, 0, none⟩ = some (.string s)) (hn : n.size ≤ 1073741824) (hs : s.size ≤ 1073741824) :
    Calls Tryz.prog 141 #[.agg #[.string n, .string v], .pointer (some ⟨p, 0, none⟩)] w fun e w' => e = .returned (.bool (sameN n.data.toList s.data.toList)) ∧ Below w.heap.size w w' := by
  have hb0 : Below w.heap.size w (w.alloc (.cells #[.string n, .string v] 78)) := (Below.refl _ _).alloc (Nat.le_refl _) _
  have hc := (below_at hb0 (lt_of_cell hp)).trans hp
  go_enter Tryz.func141, Tryz.ntmps141
  go_wp2_with fail
  refine (sameText_any n s _ hn hs).mono ?_
  rintro e w1 ⟨rfl, hb1⟩
  go_wp2
  go_ret
  exact ⟨ret_bool (sameS _ _), nx hb0 hb1⟩
set_option maxRecDepth 100000 in
set_option maxHeartbeats 1000000 in
theorem indexFunc_any (a : Option Addr) (n c : Nat) (xs : List Fld) (p : Nat) (s : ByteArray) (w : World) (hr : RdF w a n xs) (hn : n ≤ 1073741824) (hx : ∀ x ∈ xs, SmallF 1073741824 x)
    (hp : w.cell? ⟨p, 0, none⟩ = some (.string s)) (hs : s.size ≤ 1073741824) :
    Calls Tryz.prog 140 #[.slice a n c, .func (.func 141) #[] #[.pointer (some ⟨p, 0, none⟩)]] w fun e w' => e = .returned (.int .i64 (idxI (findN xs s.data.toList))) ∧ Below w.heap.size w w' := by
  obtain ⟨hl, hr2⟩ := hr
  have HLEN := Lib.hid hl
  have HR := Lib.hid hr2
  have HX := Lib.hid hx
  have hpl := lt_of_cell hp
  clear hl hr2 hx
  go_enter Tryz.func140, Tryz.ntmps140
  go_wp2_with fail
  go_loopw [8] (fun i wr => ∃ (k : Nat), k ≤ n ∧ i = .int .i64 k ∧ Below w.heap.size w wr ∧ ∀ j, j < k → (hj : j < xs.length) → sameN xs[j].name s.data.toList = false) (fun i _ => n - (intOf i).toNat)
  case atStart => exact ⟨0, Nat.zero_le _, rfl, Below.refl _ _, fun j h => by omega⟩
  case round =>
    obtain ⟨k, hk, rfl, hb, hall⟩ := hrel
    have HA := Lib.hid hall
    clear hall
    by_cases hlt : k < n
    · have hkx : k < xs.length := by rw [HLEN.out]; exact hlt
      obtain ⟨b, off, rfl, hbl, hcell⟩ := HR.out.resolve_left (by omega)
      obtain ⟨q0, q1⟩ := RdR.fld hcell hkx
      rw [← below_at hb hbl] at q0 q1
      have hp2 : wr.cell? ⟨p, 0, none⟩ = some (.string s) := by rw [below_at hb hpl]; exact hp
      have hz := (HX.out _ (List.getElem_mem hkx)).1
      rw [← str_size] at hz
      have HSL := Lib.hid (str_list xs[k].name)
      have HHIT : Hid (sameN xs[k].name s.data.toList = true → findN xs s.data.toList = some k) := fun h => findN_at xs k hkx h (fun j hj hl => HA.out j hj hl)
      clear hcell
      cases hq : sameN xs[k].name s.data.toList
      · have HQ := Lib.hid hq
        have HQ' : Hid (sameN (str xs[k].name).data.toList s.data.toList = false) := by show _ = _; rw [HSL.out]; exact hq
        generalize str xs[k].name = s0 at *
        generalize str xs[k].val = s1 at *
        clear hq
        go_wp2_with fail
        refine (findOne_any p s s0 s1 _ hp2 hz hs).mono ?_
        rintro e w1 ⟨rfl, hb1⟩
        rw [HQ'.out]
        go_wp2
        go_roundw
        case rel => exact ⟨k + 1, by omega, by go_num, nx hb hb1, fun j hj hjx => by
          by_cases e : j = k
          · subst e; exact HQ.out
          · exact HA.out j (by omega) hjx⟩
        case measure => simp [intOf]; omega
      · have HF := Lib.hid (HHIT.out hq)
        have HQ' : Hid (sameN (str xs[k].name).data.toList s.data.toList = true) := by show _ = _; rw [HSL.out]; exact hq
        generalize str xs[k].name = s0 at *
        generalize str xs[k].val = s1 at *
        clear hq
        go_wp2_with fail
        refine (findOne_any p s s0 s1 _ hp2 hz hs).mono ?_
        rintro e w1 ⟨rfl, hb1⟩
        rw [HQ'.out]
        go_wp2
        go_ret
        exact ⟨ret_int (by rw [HF.out]; rfl), nx hb hb1⟩
    · have HF := Lib.hid (findN_none xs (n := s.data.toList) (fun j hj => HA.out j (by have := HLEN.out; omega) hj))
      go_wp2
      go_ret
      exact ⟨ret_int (by rw [HF.out]; rfl), hb⟩
set_option maxRecDepth 100000 in
set_option maxHeartbeats 400000 in
theorem findField_any (a : Option Addr) (n c : Nat) (xs : List Fld) (s : ByteArray) (w : World) (hr : RdF w a n xs) (hn : n ≤ 1073741824) (hx : ∀ x ∈ xs, SmallF 1073741824 x) (hs : s.size ≤ 1073741824) :
    Calls Tryz.prog 103 #[.slice a n c, .string s] w fun e w' => e = .returned (.int .i64 (idxI (findN xs s.data.toList))) ∧ Below w.heap.size w w' := by
  have hb0 : Below w.heap.size w (w.alloc (.cells #[.string s] 9)) := (Below.refl _ _).alloc (Nat.le_refl _) _
  go_enter Tryz.func103, Tryz.ntmps103
  go_wp2_with fail
  refine (indexFunc_any a n c xs w.heap.size s _ (hr.below hb0) hn hx (by rw [World.cell?_alloc_at _ _ _ _ rfl]; rfl) hs).mono ?_
  rintro e w1 ⟨rfl, hb1⟩
  go_wp2
  go_ret
  exact ⟨rfl, nx hb0 hb1⟩
set_option maxRecDepth 100000 in
set_option maxHeartbeats 1000000 in
theorem l3Find_any (a : Option Addr) (n c : Nat) (xs : List Fld) (s : ByteArray) (w : World) (hr : RdF w a n xs) (hn : n ≤ 1073741824) (hx : ∀ x ∈ xs, SmallF 1073741824 x) (hs : s.size ≤ 1073741824) :
    Calls Tryz.prog 101 #[.slice a n c, .string s] w fun e w' => e = .returned (.int .i64 (idxI (findN xs s.data.toList))) ∧ Below w.heap.size w w' := by
  obtain ⟨hl, hr2⟩ := hr
  have HLEN := Lib.hid hl
  have HR := Lib.hid hr2
  have HX := Lib.hid hx
  clear hl hr2 hx
  go_enter Tryz.func101, Tryz.ntmps101
  go_wp2_with fail
  go_loopw [5] (fun i wr => ∃ (k : Nat), k ≤ n ∧ i = .int .i64 k ∧ Below w.heap.size w wr ∧ ∀ j, j < k → (hj : j < xs.length) → sameN xs[j].name s.data.toList = false) (fun i _ => n - (intOf i).toNat)
  case atStart => exact ⟨0, Nat.zero_le _, rfl, Below.refl _ _, fun j h => by omega⟩
  case round =>
    obtain ⟨k, hk, rfl, hb, hall⟩ := hrel
    have HA := Lib.hid hall
    clear hall
    by_cases hlt : k < n
    · have hkx : k < xs.length := by rw [HLEN.out]; exact hlt
      obtain ⟨b, off, rfl, hbl, hcell⟩ := HR.out.resolve_left (by omega)
      obtain ⟨q0, q1⟩ := RdR.fld hcell hkx
      rw [← below_at hb hbl] at q0 q1
      have hz := (HX.out _ (List.getElem_mem hkx)).1
      rw [← str_size] at hz
      have HSL := Lib.hid (str_list xs[k].name)
      have HHIT : Hid (sameN xs[k].name s.data.toList = true → findN xs s.data.toList = some k) := fun h => findN_at xs k hkx h (fun j hj hl => HA.out j hj hl)
      clear hcell
      cases hq : sameN xs[k].name s.data.toList
      · have HQ := Lib.hid hq
        have HQ' : Hid (decide (lowS (str xs[k].name) = lowS s) = false) := by show _ = _; rw [sameS, HSL.out]; exact hq
        generalize str xs[k].name = s0 at *
        generalize str xs[k].val = s1 at *
        clear hq
        go_wp2_with fail
        refine (sameTextS_any s0 s _ hz hs).mono ?_
        rintro e w1 ⟨rfl, hb1⟩
        rw [HQ'.out]
        go_wp2
        go_roundw
        case rel => exact ⟨k + 1, by omega, by go_num, nx hb hb1, fun j hj hjx => by
          by_cases e : j = k
          · subst e; exact HQ.out
          · exact HA.out j (by omega) hjx⟩
        case measure => simp [intOf]; omega
      · have HF := Lib.hid (HHIT.out hq)
        have HQ' : Hid (decide (lowS (str xs[k].name) = lowS s) = true) := by show _ = _; rw [sameS, HSL.out]; exact hq
        generalize str xs[k].name = s0 at *
        generalize str xs[k].val = s1 at *
        clear hq
        go_wp2_with fail
        refine (sameTextS_any s0 s _ hz hs).mono ?_
        rintro e w1 ⟨rfl, hb1⟩
        rw [HQ'.out]
        go_wp2
        go_ret
        exact ⟨ret_int (by rw [HF.out]; rfl), nx hb hb1⟩
    · have HF := Lib.hid (findN_none xs (n := s.data.toList) (fun j hj => HA.out j (by have := HLEN.out; omega) hj))
      go_wp2
      go_ret
      exact ⟨ret_int (by rw [HF.out]; rfl), hb⟩
def GetRet (xs : List Fld) (n : List UInt8) (w : World) (e : Ending) (w' : World) : Prop := e = .returned (.tuple #[.string (str (getR xs n)), .bool (getF xs n).isSome]) ∧ Below w.heap.size w w'
theorem getRet_none {xs : List Fld} {n : List UInt8} {w w' : World} (h : getF xs n = none) (hb : Below w.heap.size w w') : GetRet xs n w (.returned (.tuple #[.string ⟨#[]⟩, .bool false])) w' := by
  unfold GetRet getR; rw [h]; exact ⟨rfl, hb⟩
theorem getRet_some {xs : List Fld} {n v : List UInt8} {w w' : World} {s : ByteArray} (h : getF xs n = some v) (hs : s = str v) (hb : Below w.heap.size w w') : GetRet xs n w (.returned (.tuple #[.string s, .bool true])) w' := by
  unfold GetRet getR; rw [h, hs]; exact ⟨rfl, hb⟩
set_option maxRecDepth 100000 in
set_option maxHeartbeats 400000 in
theorem getField_any (a : Option Addr) (n c : Nat) (xs : List Fld) (s : ByteArray) (w : World) (hr : RdF w a n xs) (hn : n ≤ 1073741824) (hx : ∀ x ∈ xs, SmallF 1073741824 x) (hs : s.size ≤ 1073741824) :
    Calls Tryz.prog 75 #[.slice a n c, .string s] w (GetRet xs s.data.toList w) := by
  have hrr := hr
  obtain ⟨hl, hr2⟩ := hr
  rcases findN_cases xs s.data.toList with ⟨hq, hall⟩ | ⟨i, hi, hq, h1, h2⟩
  · have HG := Lib.hid (getF_none hall)
    have HQ := Lib.hid hq
    clear hall hq
    go_enter Tryz.func75, Tryz.ntmps75
    go_wp2_with fail
    refine (findField_any a n c xs s _ hrr hn hx hs).mono ?_
    rintro e w1 ⟨rfl, hb1⟩
    rw [HQ.out, idxI_none]
    go_wp2
    go_ret2
    exact getRet_none HG.out hb1
  · have HG := Lib.hid (getF_at hi h1 h2)
    have HQ := Lib.hid hq
    obtain ⟨b, off, rfl, hbl, hcell⟩ := hr2.resolve_left (by omega)
    have q1 := (RdR.fld hcell hi).2
    have hin : i < n := by omega
    have hi0 : ¬ ((i : Int) < 0) := by omega
    have HRR := Lib.hid hrr
    clear h1 h2 hq hcell hr2 hl hrr
    go_enter Tryz.func75, Tryz.ntmps75
    go_wp2_with fail
    refine (findField_any _ n c xs s _ HRR.out hn hx hs).mono ?_
    rintro e w1 ⟨rfl, hb1⟩
    rw [HQ.out, idxI_some]
    rw [← below_at hb1 hbl] at q1
    generalize hV : str xs[i].val = sv at *
    have HV := Lib.hid hV
    clear hV
    go_wp2
    go_ret2
    exact getRet_some HG.out HV.out.symm hb1
set_option maxRecDepth 100000 in
set_option maxHeartbeats 400000 in
theorem getFieldS_any (a : Option Addr) (n c : Nat) (xs : List Fld) (s : ByteArray) (w : World) (hr : RdF w a n xs) (hn : n ≤ 1073741824) (hx : ∀ x ∈ xs, SmallF 1073741824 x) (hs : s.size ≤ 1073741824) :
    Calls Tryz.prog 73 #[.slice a n c, .string s] w (GetRet xs s.data.toList w) := by
  have hrr := hr
  obtain ⟨hl, hr2⟩ := hr
  rcases findN_cases xs s.data.toList with ⟨hq, hall⟩ | ⟨i, hi, hq, h1, h2⟩
  · have HG := Lib.hid (getF_none hall)
    have HQ := Lib.hid hq
    clear hall hq
    go_enter Tryz.func73, Tryz.ntmps73
    go_wp2_with fail
    refine (l3Find_any a n c xs s _ hrr hn hx hs).mono ?_
    rintro e w1 ⟨rfl, hb1⟩
    rw [HQ.out, idxI_none]
    go_wp2
    go_ret2
    exact getRet_none HG.out hb1
  · have HG := Lib.hid (getF_at hi h1 h2)
    have HQ := Lib.hid hq
    obtain ⟨b, off, rfl, hbl, hcell⟩ := hr2.resolve_left (by omega)
    have q1 := (RdR.fld hcell hi).2
    have hin : i < n := by omega
    have hi0 : ¬ ((i : Int) < 0) := by omega
    have HRR := Lib.hid hrr
    clear h1 h2 hq hcell hr2 hl hrr
    go_enter Tryz.func73, Tryz.ntmps73
    go_wp2_with fail
    refine (l3Find_any _ n c xs s _ HRR.out hn hx hs).mono ?_
    rintro e w1 ⟨rfl, hb1⟩
    rw [HQ.out, idxI_some]
    rw [← below_at hb1 hbl] at q1
    generalize hV : str xs[i].val = sv at *
    have HV := Lib.hid hV
    clear hV
    go_wp2
    go_ret2
    exact getRet_some HG.out HV.out.symm hb1
end Go.Proofs.YtcdmjckkencgoaaGreatDoor
