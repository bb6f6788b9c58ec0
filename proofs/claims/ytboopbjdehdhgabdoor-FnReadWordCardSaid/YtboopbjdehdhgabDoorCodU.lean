/-
  Codes of bytes: quoted lines read: what the program's functions return. No statement is proved here.
-/
import Derived.Test.YtboopbjdehdhgabDoorCodR
import Derived.Maps.AppendAt
import Derived.Deep.RegionLaw
import Derived.Deep.RegionHeld3
import Derived.Outline
namespace Go.Proofs.YtboopbjdehdhgabDoor
open Go.RowKit

theorem hexD_eq : (ByteArray.mk #[48, 49, 50, 51, 52, 53, 54, 55, 56, 57, 65, 66, 67, 68, 69, 70]).data.toList = [48, 49, 50, 51, 52, 53, 54, 55, 56, 57, 65, 66, 67, 68, 69, 70] := rfl
theorem bne_t {c d : UInt8} (h : c ≠ d) {n : Int} (hn : (d.toNat : Int) = n) : ((c.toNat : Int) != n) = true := by rw [bne, beq_f h hn]; rfl
theorem bne_f {c d : UInt8} (h : c = d) {n : Int} (hn : (d.toNat : Int) = n) : ((c.toNat : Int) != n) = false := by rw [bne, beq_t h hn]; rfl
theorem okB_in {c : UInt8} (h : okB c = true) : 32 ≤ c.toNat ∧ c.toNat ≤ 126 := by unfold okB at h; simp at h; exact h
theorem okB_out {c : UInt8} (h : okB c = false) : c.toNat < 32 ∨ (32 ≤ c.toNat ∧ 126 < c.toNat) := by unfold okB at h; simp at h; omega
theorem ixI_none {o : Option Nat} (h : o = none) : ixI o = -1 := by rw [h]; rfl
theorem ixI_some {o : Option Nat} {v : Nat} (h : o = some v) : ixI o = (v : Int) := by rw [h]; rfl
theorem own_snocB {B : Nat} {v : Value} {l : List UInt8} {c : UInt8} {w : World} (h : w.ownsRow B 5 1 v (l.length + 1) (Lib.byteCells l ++ [.int .u8 c.toNat])) : OwnBy B v (l ++ [c]) w := by
  unfold OwnBy
  rw [List.length_append, show Lib.byteCells (l ++ [c]) = Lib.byteCells l ++ [.int .u8 c.toNat] by simp [Lib.byteCells]]
  exact h
/-- One byte appended to a row of the call's own, as a step of a region. -/
theorem step_append_B {ops : Array Oper} {o : Oper} {Q : Exit → Act → World → Prop} {K : Act → World → Prop} {E : Prop} {a : Act} {w : World} (hgd : o.guard = none) (s x : Operand)
    (ho : o.op = .call { callee := .builtin .append, args := #[s, x], argTypes := #[22, 22] })
    (B : Nat) (v : Value) (l : List UInt8) (c : UInt8) (g : Nat) (hs : a.eval s = v) (hx : a.eval x = .slice (some ⟨g, 0, none⟩) 1 1) (hown : OwnBy B v l w)
    (hy : w.cell? ⟨g, 0, none⟩ = some (.int .u8 c.toNat)) (hB : B ≤ w.heap.size) (hl : l.length ≤ 1073741824)
    (h : ∀ v' w', OwnBy B v' (l ++ [c]) w' → Below B w w' → K (a.put o.dst v') w') : if Region.wanted o (yielded ops a.tmps) = true then Oper.wp Tryd.prog o a w K Q else E := by
  rw [if_pos (by simp [Region.wanted, hgd])]
  obtain ⟨i0, hi, hz0, hz1, hz2⟩ := info_parts bInfo
  have hown1 := hown
  unfold OwnBy at hown1
  refine wp_append_own w s x 22 ho B 5 i0 (.int .u8 0) 1 1 Tryd.underlying22 hi hz0 hz1 hz2 rfl (by decide) v l.length (Lib.byteCells l) hs hown1 ⟨g, 0, none⟩ 1 1 [.int .u8 c.toNat] hx rfl ?_ ?_ ?_ ?_ hB ?_
  · intro j u hj
    match j, hj with
    | 0, hj => simp at hj; subst hj; simpa [Addr.add] using hy
  · intro u hu; simp at hu; subst hu; rfl
  · unfold maxLen; omega
  · omega
  · intro v' w' h2 h3 _
    exact h v' w' (own_snocB h2) ((Below.refl _ _).grown h3 hB (fun k hk => (World.ownsRow.lt hown1 k hk).1))
theorem hex_index (c : UInt8) : Lib.indexByte [48, 49, 50, 51, 52, 53, 54, 55, 56, 57, 65, 66, 67, 68, 69, 70] c = ixI (hexV c) := by
  have key : ∀ n, n < 256 → Lib.indexByte [48, 49, 50, 51, 52, 53, 54, 55, 56, 57, 65, 66, 67, 68, 69, 70] (UInt8.ofNat n) = ixI (hexV (UInt8.ofNat n)) := by decide +kernel
  have := key c.toNat c.toNat_lt
  rw [UInt8.ofNat_toNat] at this; exact this
theorem indexHex_any (c : UInt8) (w : World) : Calls Tryd.prog 65 #[.string (ByteArray.mk #[48, 49, 50, 51, 52, 53, 54, 55, 56, 57, 65, 66, 67, 68, 69, 70]), .int .u8 c.toNat] w fun e w' => e = .returned (.int .i64 (ixI (hexV c))) ∧ w' = w := by
  refine (Tryd.strings_IndexByte (ByteArray.mk #[48, 49, 50, 51, 52, 53, 54, 55, 56, 57, 65, 66, 67, 68, 69, 70]) (c.toNat : Int) w).mono ?_
  rintro e w' ⟨rfl, rfl⟩
  refine ⟨ret_int ?_, rfl⟩
  rw [hexD_eq, ← hex_index]
  congr 1
  simp
/-- The byte that '=' and two digits stand for. -/
def esc? (l : List UInt8) : Option UInt8 := match l with
  | _ :: x :: y :: _ => (match hexV x, hexV y with | some a, some b => some (UInt8.ofNat (16 * a + b)) | _, _ => none)
  | _ => none
def EscRet (o : Option UInt8) (w : World) (e : Ending) (w' : World) : Prop := e = .returned (.tuple #[.int .u8 ((o.getD 0).toNat : Int), .bool o.isSome]) ∧ w = w'
theorem escRet_none {o : Option UInt8} {w : World} (h : o = none) : EscRet o w (.returned (.tuple #[.int .u8 0, .bool false])) w := by subst h; exact ⟨rfl, rfl⟩
theorem escRet_some {o : Option UInt8} {c : UInt8} {x : Int} {w : World} (h : o = some c) (hx : x = (c.toNat : Int)) : EscRet o w (.returned (.tuple #[.int .u8 x, .bool true])) w := by subst h hx; exact ⟨rfl, rfl⟩
theorem list3 (s : ByteArray) (h : 3 ≤ s.size) : s.data.toList = s[0] :: s[1] :: s[2] :: s.data.toList.drop 3 := by
  conv => lhs; rw [← List.drop_zero (l := s.data.toList)]
  rw [drop_at s 0 (by omega), drop_at s 1 (by omega), drop_at s 2 (by omega)]
theorem esc_short (s : ByteArray) (h : s.size < 3) : esc? s.data.toList = none := by
  have hl : s.data.toList.length < 3 := by rw [size_list]; exact h
  match hs : s.data.toList, hl with
  | [], _ => rfl
  | [_], _ => rfl
  | [_, _], _ => rfl
set_option maxRecDepth 100000 in
set_option maxHeartbeats 1000000 in
theorem readEscape_any (s : ByteArray) (w : World) (hs : s.size ≤ 1073741000) :
    Calls Tryd.prog 52 #[.string s] w (EscRet (esc? s.data.toList) w) := by
  by_cases h3 : s.size < 3
  · have HN := Lib.hid (esc_short s h3)
    go_enter Tryd.func52, Tryd.ntmps52
    go_wp2
    go_ret2
    exact escRet_none HN.out
  · have h1 : 1 < s.size := by omega
    have h2 : 2 < s.size := by omega
    have HL : Hid (esc? s.data.toList = match hexV s[1], hexV s[2] with | some a, some b => some (UInt8.ofNat (16 * a + b)) | _, _ => none) := by show _ = _; rw [list3 s (by omega)]; rfl
    cases ha : hexV s[1] with
    | none =>
      have HI := Lib.hid (ixI_none ha)
      have HN : Hid (esc? s.data.toList = none) := by show _ = _; rw [HL.out, ha]
      clear ha
      go_enter Tryd.func52, Tryd.ntmps52
      go_wp2_with fail
      refine (indexHex_any s[1] _).mono ?_
      rintro e w1 ⟨rfl, rfl⟩
      rw [HI.out]
      go_wp2_with fail
      refine (indexHex_any s[2] _).mono ?_
      rintro e w1 ⟨rfl, rfl⟩
      go_wp2
      go_ret2
      exact escRet_none HN.out
    | some a =>
      have HI := Lib.hid (ixI_some ha)
      have ha16 := hexV_lt ha
      cases hb : hexV s[2] with
      | none =>
        have HJ := Lib.hid (ixI_none hb)
        have HN : Hid (esc? s.data.toList = none) := by show _ = _; rw [HL.out, ha, hb]
        clear ha hb
        go_enter Tryd.func52, Tryd.ntmps52
        go_wp2_with fail
        refine (indexHex_any s[1] _).mono ?_
        rintro e w1 ⟨rfl, rfl⟩
        rw [HI.out]
        go_wp2_with fail
        refine (indexHex_any s[2] _).mono ?_
        rintro e w1 ⟨rfl, rfl⟩
        rw [HJ.out]
        go_wp2
        go_ret2
        exact escRet_none HN.out
      | some b =>
        have HJ := Lib.hid (ixI_some hb)
        have hb16 := hexV_lt hb
        have HN : Hid (esc? s.data.toList = some (UInt8.ofNat (16 * a + b))) := by show _ = _; rw [HL.out, ha, hb]
        clear ha hb
        go_enter Tryd.func52, Tryd.ntmps52
        go_wp2_with fail
        refine (indexHex_any s[1] _).mono ?_
        rintro e w1 ⟨rfl, rfl⟩
        rw [HI.out]
        go_wp2_with fail
        refine (indexHex_any s[2] _).mono ?_
        rintro e w1 ⟨rfl, rfl⟩
        rw [HJ.out]
        go_wp2
        go_ret2
        exact escRet_some HN.out (by rw [UInt8.toNat_ofNat']; omega)
theorem l5Value_any (c : UInt8) (w : World) : Calls Tryd.prog 57 #[.int .u8 c.toNat] w fun e w' => e = .returned (.int .i64 (ixI (hexV c))) ∧ w' = w := by
  by_cases h1 : 48 ≤ c.toNat ∧ c.toNat ≤ 57
  · have HV : Hid (ixI (hexV c) = (c.toNat : Int) - 48) := by show _ = _; unfold hexV; rw [if_pos h1]; show ((c.toNat - 48 : Nat) : Int) = _; omega
    obtain ⟨h2, h3⟩ := h1
    go_enter Tryd.func57, Tryd.ntmps57
    go_wp2
    go_ret
    exact ⟨ret_int HV.out.symm, rfl⟩
  · by_cases h2 : 65 ≤ c.toNat ∧ c.toNat ≤ 70
    · have HV : Hid (ixI (hexV c) = (c.toNat : Int) - 65 + 10) := by show _ = _; unfold hexV; rw [if_neg h1, if_pos h2]; show ((c.toNat - 55 : Nat) : Int) = _; omega
      obtain ⟨h3, h4⟩ := h2
      clear h1
      go_enter Tryd.func57, Tryd.ntmps57
      go_wp2
      go_ret
      exact ⟨ret_int HV.out.symm, rfl⟩
    · have HV : Hid (ixI (hexV c) = -1) := by show _ = _; unfold hexV; rw [if_neg h1, if_neg h2]; rfl
      rcases (by omega : c.toNat < 48 ∨ (57 < c.toNat ∧ c.toNat < 65) ∨ 70 < c.toNat) with h3 | h3 | h3
      all_goals
        clear h1 h2
        go_enter Tryd.func57, Tryd.ntmps57
        go_wp2
        go_ret
        exact ⟨ret_int HV.out.symm, rfl⟩
end Go.Proofs.YtboopbjdehdhgabDoor
