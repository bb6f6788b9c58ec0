/-
  Fields dropped and counted: what the program's functions return. No statement is proved here.
-/
import Derived.Test.YthcmdmjijdafoaaDoorGetF
namespace Go.Proofs.YthcmdmjijdafoaaDoor
open Go.RowKit

def RowF (xs : List Fld) (w : World) (e : Ending) (w' : World) : Prop := ∃ v, e = .returned v ∧ OwnF w.heap.size v xs w' ∧ Below w.heap.size w w'
theorem drop_step {xs : List Fld} {n : List UInt8} {k : Nat} (h : k < xs.length) : dropF (xs.take (k + 1)) n = if sameN xs[k].name n then dropF (xs.take k) n else dropF (xs.take k) n ++ [xs[k]] := by
  rw [List.take_succ_eq_append_getElem h, dropF_snoc]
set_option maxRecDepth 100000 in
set_option maxHeartbeats 1000000 in
theorem dropField_any (a : Option Addr) (n c : Nat) (xs : List Fld) (s : ByteArray) (w : World) (hr : RdF w a n xs) (hn : n ≤ 1073741824) (hx : ∀ x ∈ xs, SmallF 1073741824 x) (hs : s.size ≤ 1073741824) :
    Calls Tryd.prog 44 #[.slice a n c, .string s] w (RowF (dropF xs s.data.toList) w) := by
  obtain ⟨i0, hi, hz0, hz1, hz2⟩ := info_parts fInfo
  obtain ⟨hl, hr2⟩ := hr
  have HLEN := Lib.hid hl
  have HR := Lib.hid hr2
  have HX := Lib.hid hx
  clear hl hr2 hx
  go_enter Tryd.func44, Tryd.ntmps44
  go_wp2_with fail
  go_loopw [5, 10] (fun v i wr => ∃ (k : Nat) (acc : List Fld), k ≤ n ∧ i = .int .i64 k ∧ acc.length ≤ k ∧ dropF (xs.take k) s.data.toList = acc ∧ OwnF w.heap.size v acc wr ∧ Below w.heap.size w wr) (fun _ i _ => n - (intOf i).toNat)
  case atStart => exact ⟨0, [], Nat.zero_le _, rfl, Nat.le_refl _, rfl, OwnR.nil _ _ _ _ _, Below.refl _ _⟩
  case round =>
    obtain ⟨k, acc, hk, rfl, hal, hacc, hown, hb⟩ := hrel
    have HACC := Lib.hid hacc
    clear hacc
    by_cases hlt : k < n
    · have hkx : k < xs.length := by rw [HLEN.out]; exact hlt
      obtain ⟨b, off, rfl, hbl, hcell⟩ := HR.out.resolve_left (by omega)
      obtain ⟨q0, q1⟩ := RdR.fld hcell hkx
      rw [← below_at hb hbl] at q0 q1
      have hz := (HX.out _ (List.getElem_mem hkx)).1
      rw [← str_size] at hz
      have HST := Lib.hid (drop_step (n := s.data.toList) hkx)
      have HXC : Hid (fldC xs[k] = [.string (str xs[k].name), .string (str xs[k].val)]) := rfl
      have HSN : Hid (decide (lowS (str xs[k].name) = lowS s) = sameN xs[k].name s.data.toList) := by show _ = _; rw [sameS, str_list]
      generalize hq : sameN xs[k].name s.data.toList = q at *
      clear hcell hq
      generalize xs[k] = x at *
      generalize str x.name = s0 at *
      generalize str x.val = s1 at *
      have HOWN := Lib.hid hown
      clear hown
      cases q
      · have HNX : Hid (dropF (xs.take (k + 1)) s.data.toList = acc ++ [x]) := by show _ = _; rw [HST.out, HACC.out]; rfl
        have hbA : Below wr.heap.size wr (wr.alloc (.cells #[.string s0, .string s1] 25)) := (Below.refl _ _).alloc (Nat.le_refl _) _
        go_wp2_with fail
        refine (sameText_any s0 s _ hz hs).mono ?_
        rintro e w1 ⟨rfl, hb1⟩
        rw [HSN.out]
        obtain ⟨cA, fA, zA⟩ := fresh1 hb1
        have hown1 : OwnF w.heap.size _ acc w1 := (HOWN.out.keep (nx hbA hb1))
        unfold OwnF OwnR at hown1
        have hB1 := nx hb (nx hbA hb1)
        have hsz := hB1.size
        have hXC := HXC.out
        go_wp2_with (at_builtin; refine wpList_append_own _ rfl _ _ 23 rfl w.heap.size 25 i0 (.agg #[.string ⟨#[]⟩, .string ⟨#[]⟩]) 2 32 Tryd.underlying23 hi hz0 hz1 hz2 rfl (by decide) _ _ _ rfl (World.ownsRow.alloc hown1 _) ⟨w1.heap.size, 0, none⟩ 1 1 (fldC x) rfl rfl ?c1 ?c2 ?c3 ?c4 ?c5 ?_)
        case c1 => intro u v hu; rw [add0, World.cell?_alloc_at _ _ _ _ (by simp)]; rw [hXC] at hu; simpa using hu
        case c2 => intro u hu; rw [hXC] at hu; simp at hu; rcases hu with rfl | rfl <;> rfl
        case c3 => unfold maxLen; omega
        case c4 => omega
        case c5 => simp; omega
        intro v' w3 hown' hgrow _
        have hO3 : OwnF w.heap.size v' (acc ++ [x]) w3 := OwnR.snoc (f := fldC) (x := x) (by rw [HXC.out]; exact hown')
        have hb3 : Below w.heap.size w1 w3 := ((Below.refl _ _).alloc (by omega) _).grown hgrow (by simp; omega) (fun k hk => (World.ownsRow.lt hown1 k hk).1)
        go_wp2
        go_roundw
        case rel => exact ⟨k + 1, _, by omega, by go_num, by simp; omega, HNX.out, hO3, hB1.trans hb3⟩
        case measure => simp [intOf]; omega
      · have HNX : Hid (dropF (xs.take (k + 1)) s.data.toList = acc) := by show _ = _; rw [HST.out, HACC.out]; rfl
        have hbA : Below wr.heap.size wr (wr.alloc (.cells #[.string s0, .string s1] 25)) := (Below.refl _ _).alloc (Nat.le_refl _) _
        go_wp2_with fail
        refine (sameText_any s0 s _ hz hs).mono ?_
        rintro e w1 ⟨rfl, hb1⟩
        rw [HSN.out]
        go_wp2
        go_roundw
        case rel => exact ⟨k + 1, _, by omega, by go_num, by omega, HNX.out, HOWN.out.keep (nx hbA hb1), nx hb (nx hbA hb1)⟩
        case measure => simp [intOf]; omega
    · have HE : Hid (dropF xs s.data.toList = acc) := by show _ = _; rw [← HACC.out, List.take_of_length_le (by rw [HLEN.out]; omega)]
      go_wp2
      go_ret
      exact ⟨_, rfl, by rw [HE.out]; exact hown, hb⟩
set_option maxRecDepth 100000 in
set_option maxHeartbeats 400000 in
theorem countField_any (a : Option Addr) (n c : Nat) (xs : List Fld) (s : ByteArray) (w : World) (hr : RdF w a n xs) (hn : n ≤ 1073741824) (hx : ∀ x ∈ xs, SmallF 1073741824 x) (hs : s.size ≤ 1073741824) :
    Calls Tryd.prog 15 #[.slice a n c, .string s] w fun e w' => e = .returned (.int .i64 (countF xs s.data.toList : Nat)) ∧ Below w.heap.size w w' := by
  have HL := Lib.hid hr.1
  have HC := Lib.hid (dropF_count xs s.data.toList)
  have HR := Lib.hid hr
  clear hr
  go_enter Tryd.func15, Tryd.ntmps15
  go_wp2_with fail
  refine (dropField_any a n c xs s _ HR.out hn hx hs).mono ?_
  rintro e w1 ⟨v, rfl, ho, hb1⟩
  obtain ⟨a1, c1, rfl, hd, _, _⟩ := ho.read fldC_len
  have hle : (dropF xs s.data.toList).length ≤ n := by have := HC.out; have := HL.out; omega
  go_wp2
  go_ret
  exact ⟨ret_int (by have := HC.out; have := HL.out; omega), hb1⟩
end Go.Proofs.YthcmdmjijdafoaaDoor
