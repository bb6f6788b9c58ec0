/-
  Codes of bytes: quoted lines read: what the program's functions return. No statement is proved here.
-/
import Derived.Test.YtdaoeoociamdnabDoorCodR
import Derived.Maps.AppendAt
import Derived.Deep.RegionLaw
import Derived.Deep.RegionHeld3
import Derived.Outline
namespace Go.Proofs.YtdaoeoociamdnabDoor
open Go.RowKit

theorem hexD_eq : (ByteArray.mk #[48, 49, 50, 51, 52, 53, 54, 55, 56, 57, 65, 66, 67, 68, 69, 70]).data.toList = [48, 49, 50, 51, 52, 53, 54, 55, 56, 57, 65, 66, 67, 68, 69, 70] := rfl
theorem bne_t {c d : UInt8} (h : c ≠ d) {n : Int} (hn : (d.toNat : Int) = n) : ((c.toNat : Int) != n) = true := by rw [bne, beq_f h hn]; rfl
theorem bne_f {c d : UInt8} (h : c = d) {n : Int} (hn : (d.toNat : Int) = n) : ((c.toNat : Int) != n) = false := by rw [bne, beq_t h hn]; rfl
theorem okB_in {c : UInt8} (h : okB c = true) : 32 ≤ c.toNat ∧ c.toNat ≤ 126 := by unfold okB at h; simp at h; exact h
theorem okB_out {c : UInt8} (h : okB c = false) : c.toNat < 32 ∨ (32 ≤ c.toNat ∧ 126 < c.toNat) := by unfold okB at h; simp at h; omega
theorem ixI_none {o : Option Nat} (h : o = none) : ixI o = -1 := by rw [h]; rfl
theorem ixI_some {o : Option Nat} {v : Nat} (h : o = some v) : ixI o = (v : Int) := by rw [h]; rfl
theorem hex_index (c : UInt8) : Lib.indexByte [48, 49, 50, 51, 52, 53, 54, 55, 56, 57, 65, 66, 67, 68, 69, 70] c = ixI (hexV c) := by
  have key : ∀ n, n < 256 → Lib.indexByte [48, 49, 50, 51, 52, 53, 54, 55, 56, 57, 65, 66, 67, 68, 69, 70] (UInt8.ofNat n) = ixI (hexV (UInt8.ofNat n)) := by decide +kernel
  have := key c.toNat c.toNat_lt
  rw [UInt8.ofNat_toNat] at this; exact this
theorem indexHex_any (c : UInt8) (w : World) : Calls Tryd.prog 106 #[.string (ByteArray.mk #[48, 49, 50, 51, 52, 53, 54, 55, 56, 57, 65, 66, 67, 68, 69, 70]), .int .u8 c.toNat] w fun e w' => e = .returned (.int .i64 (ixI (hexV c))) ∧ w' = w := by
  refine (Tryd.strings_IndexByte (ByteArray.mk #[48, 49, 50, 51, 52, 53, 54, 55, 56, 57, 65, 66, 67, 68, 69, 70]) (c.toNat : Int) w).mono ?_
  rintro e w' ⟨rfl, rfl⟩
  refine ⟨ret_int ?_, rfl⟩
  rw [hexD_eq, ← hex_index]
  congr 1
  simp
/-- The byte that '=' and two digits stand for. -/
def esc? (l : List UInt8) : Option UInt8 := match l with
  | _ :: x :: y :: _ => (match hexV x, hexV y with | some a, some b => some (UInt8.ofNat (16 * a + b)) | _, _ => none)
  | _ => none
def EscRet (o : Option UInt8) (w : World) (e : Ending) (w' : World) : Prop := e = .returned (.tuple #[.int .u8 ((o.getD 0).toNat : Int), .bool o.isSome]) ∧ w = w'
theorem escRet_none {o : Option UInt8} {w : World} (h : o = none) : EscRet o w (.returned (.tuple #[.int .u8 0, .bool false])) w := by subst h; exact ⟨rfl, rfl⟩
theorem escRet_some {o : Option UInt8} {c : UInt8} {x : Int} {w : World} (h : o = some c) (hx : x = (c.toNat : Int)) : EscRet o w (.returned (.tuple #[.int .u8 x, .bool true])) w := by subst h hx; exact ⟨rfl, rfl⟩
theorem list3 (s : ByteArray) (h : 3 ≤ s.size) : s.data.toList = s[0] :: s[1] :: s[2] :: s.data.toList.drop 3 := by
  conv => lhs; rw [← List.drop_zero (l := s.data.toList)]
  rw [drop_at s 0 (by omega), drop_at s 1 (by omega), drop_at s 2 (by omega)]
theorem esc_short (s : ByteArray) (h : s.size < 3) : esc? s.data.toList = none := by
  have hl : s.data.toList.length < 3 := by rw [size_list]; exact h
  match hs : s.data.toList, hl with
  | [], _ => rfl
  | [_], _ => rfl
  | [_, _], _ => rfl
set_option maxRecDepth 100000 in
set_option maxHeartbeats 1000000 in
theorem readEscape_any (s : ByteArray) (w : World) (hs : s.size ≤ 1073741000) :
    Calls Tryd.prog 105 #[.string s] w (EscRet (esc? s.data.toList) w) := by
  by_cases h3 : s.size < 3
  · have HN := Lib.hid (esc_short s h3)
    go_enter Tryd.func105, Tryd.ntmps105
    go_wp2
    go_ret2
    exact escRet_none HN.out
  · have h1 : 1 < s.size := by omega
    have h2 : 2 < s.size := by omega
    have HL : Hid (esc? s.data.toList = match hexV s[1], hexV s[2] with | some a, some b => some (UInt8.ofNat (16 * a + b)) | _, _ => none) := by show _ = _; rw [list3 s (by omega)]; rfl
    cases ha : hexV s[1] with
    | none =>
      have HI := Lib.hid (ixI_none ha)
      have HN : Hid (esc? s.data.toList = none) := by show _ = _; rw [HL.out, ha]
      clear ha
      go_enter Tryd.func105, Tryd.ntmps105
      go_wp2_with fail
      refine (indexHex_any s[1] _).mono ?_
      rintro e w1 ⟨rfl, rfl⟩
      rw [HI.out]
      go_wp2_with fail
      refine (indexHex_any s[2] _).mono ?_
      rintro e w1 ⟨rfl, rfl⟩
      go_wp2
      go_ret2
      exact escRet_none HN.out
    | some a =>
      have HI := Lib.hid (ixI_some ha)
      have ha16 := hexV_lt ha
      cases hb : hexV s[2] with
      | none =>
        have HJ := Lib.hid (ixI_none hb)
        have HN : Hid (esc? s.data.toList = none) := by show _ = _; rw [HL.out, ha, hb]
        clear ha hb
        go_enter Tryd.func105, Tryd.ntmps105
        go_wp2_with fail
        refine (indexHex_any s[1] _).mono ?_
        rintro e w1 ⟨rfl, rfl⟩
        rw [HI.out]
        go_wp2_with fail
        refine (indexHex_any s[2] _).mono ?_
        rintro e w1 ⟨rfl, rfl⟩
        rw [HJ.out]
        go_wp2
        go_ret2
        exact escRet_none HN.out
      | some b =>
        have HJ := Lib.hid (ixI_some hb)
        have hb16 := hexV_lt hb
        have HN : Hid (esc? s.data.toList = some (UInt8.ofNat (16 * a + b))) := by show _ = _; rw [HL.out, ha, hb]
        clear ha hb
        go_enter Tryd.func105, Tryd.ntmps105
        go_wp2_with fail
        refine (indexHex_any s[1] _).mono ?_
        rintro e w1 ⟨rfl, rfl⟩
        rw [HI.out]
        go_wp2_with fail
        refine (indexHex_any s[2] _).mono ?_
        rintro e w1 ⟨rfl, rfl⟩
        rw [HJ.out]
        go_wp2
        go_ret2
        exact escRet_some HN.out (by rw [UInt8.toNat_ofNat']; omega)
theorem rq_esc (c : UInt8) (l : List UInt8) (h : c = 61) : rq (c :: l) = match esc? (c :: l) with | none => none | some b => (rq (l.drop 2)).map (b :: ·) := by
  subst h
  match l with
  | [] => rw [rq_end]; rfl
  | [x] => rw [rq_short]; rfl
  | x :: y :: m =>
    cases hx : hexV x with
    | none => rw [rq_nohex _ (.inl hx)]; unfold esc?; dsimp only; rw [hx]
    | some a =>
      cases hy : hexV y with
      | none => rw [rq_nohex _ (.inr hy)]; unfold esc?; dsimp only; rw [hx, hy]
      | some b => rw [rq_hex _ hx hy]; unfold esc?; dsimp only; rw [hx, hy]; rfl
theorem escQ_len {l : List UInt8} {b : UInt8} (h : esc? l = some b) : 3 ≤ l.length := by
  match l, h with
  | _ :: _ :: _ :: _, _ => simp
set_option maxRecDepth 100000 in
set_option maxHeartbeats 4000000 in
theorem readQuotedLine_any (s : ByteArray) (w : World) (hs : s.size ≤ 1073741000) :
    Calls Tryd.prog 70 #[.string s] w (DecRet (rq s.data.toList) w) := by
  go_enter Tryd.func70, Tryd.ntmps70
  go_wp2_with fail
  go_loopw [5] (fun i wr => ∃ (k : Nat) (acc : List UInt8), k ≤ s.size ∧ i = .int .i64 k ∧ acc.length ≤ k ∧ rq s.data.toList = (rq (s.data.toList.drop k)).map (acc ++ ·) ∧ Bld w.heap.size w.heap.size acc wr ∧ Below w.heap.size w wr) (fun i _ => s.size - (intOf i).toNat)
  case atStart => exact ⟨0, [], by omega, rfl, by simp, by rw [List.drop_zero]; cases rq s.data.toList <;> simp, bld_fresh w, (Below.refl _ _).alloc (Nat.le_refl _) _⟩
  case round =>
    obtain ⟨k, acc, hk, rfl, hal, hg, hB, hb⟩ := hrel
    have HG := Lib.hid hg
    clear hg
    by_cases hlt : k < s.size
    · have HD := Lib.hid (drop_at s k hlt)
      cases ho : okB s[k]
      · have HN : Hid (rq s.data.toList = none) := by show _ = _; rw [HG.out, HD.out, rq_bad _ ho]; rfl
        rcases okB_out ho with h1 | ⟨h1, h2⟩ <;> clear ho
        all_goals
          go_wp2
          go_ret2
          exact decRet_none HN.out rfl hb
      · obtain ⟨h1, h2⟩ := okB_in ho
        by_cases h61 : s[k] = 61
        · have e61 := beq_t h61 (n := 61) rfl
          have hxs : (s.extract k s.size).size = s.size - k := by rw [ByteArray.size_extract]; omega
          have HXL : Hid ((s.extract k s.size).data.toList = s[k] :: s.data.toList.drop (k + 1)) := by show _ = _; rw [ext_drop, str_list, HD.out]
          have HRE := Lib.hid (rq_esc s[k] (s.data.toList.drop (k + 1)) h61)
          clear ho h61
          go_wp2_with fail
          refine (readEscape_any _ _ (by omega)).mono ?_
          rintro e w1 ⟨rfl, rfl⟩
          rw [HXL.out]
          cases he : esc? (s[k] :: s.data.toList.drop (k + 1)) with
          | none =>
            have HN : Hid (rq s.data.toList = none) := by show _ = _; rw [HG.out, HD.out, HRE.out, he]; rfl
            clear he
            go_wp2
            go_ret2
            exact decRet_none HN.out rfl hb
          | some b =>
            have h3 := escQ_len he
            rw [List.length_cons, List.length_drop, size_list] at h3
            have HN : Hid (rq s.data.toList = (rq (s.data.toList.drop (k + 3))).map ((acc ++ [b]) ++ ·)) := by
              show _ = _; rw [HG.out, HD.out, HRE.out, he, List.drop_drop]
              cases rq (s.data.toList.drop (k + 1 + 2)) <;> simp
            clear he
            go_wp2_with fail
            refine (writeByte_any _ _ _ b _ hB (by omega)).mono ?_
            rintro e w3 ⟨rfl, hB3, hb3⟩
            go_wp2
            go_roundw
            case rel => exact ⟨k + 3, _, by omega, by go_num, by rw [List.length_append, List.length_singleton]; omega, HN.out, hB3, hb.trans hb3⟩
            case measure => simp [intOf]; omega
        · have e61 := beq_f h61 (n := 61) rfl
          have HN : Hid (rq s.data.toList = (rq (s.data.toList.drop (k + 1))).map ((acc ++ [s[k]]) ++ ·)) := by
            show _ = _; rw [HG.out, HD.out, rq_plain _ h61 ho]
            cases rq (s.data.toList.drop (k + 1)) <;> simp
          clear ho h61
          go_wp2_with fail
          refine (writeByte_any _ _ _ s[k] _ hB (by omega)).mono ?_
          rintro e w3 ⟨rfl, hB3, hb3⟩
          go_wp2
          go_roundw
          case rel => exact ⟨k + 1, _, by omega, by go_num, by rw [List.length_append, List.length_singleton]; omega, HN.out, hB3, hb.trans hb3⟩
          case measure => simp [intOf]; omega
    · have HN : Hid (rq s.data.toList = some acc) := by show _ = _; rw [HG.out, drop_out s k (by omega)]; simp [rq]
      go_wp2_with fail
      refine (bString_any _ _ _ _ hB).mono ?_
      rintro e w5 ⟨rfl, hb5⟩
      go_wp2
      go_ret2
      exact decRet_some HN.out rfl (hb.trans hb5)
end Go.Proofs.YtdaoeoociamdnabDoor
