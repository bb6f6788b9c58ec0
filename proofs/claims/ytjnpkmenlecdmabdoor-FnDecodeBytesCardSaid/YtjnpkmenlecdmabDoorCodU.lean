/-
  Codes of bytes: quoted lines read: what the program's functions return. No statement is proved here.
-/
import Derived.Test.YtjnpkmenlecdmabDoorCodR
import Derived.Test.YtjnpkmenlecdmabDoorNamM
import Derived.Maps.AppendAt
import Derived.Deep.RegionLaw
import Derived.Deep.RegionHeld3
import Derived.Outline
namespace Go.Proofs.YtjnpkmenlecdmabDoor
open Go.RowKit

theorem hexD_eq : (ByteArray.mk #[48, 49, 50, 51, 52, 53, 54, 55, 56, 57, 65, 66, 67, 68, 69, 70]).data.toList = [48, 49, 50, 51, 52, 53, 54, 55, 56, 57, 65, 66, 67, 68, 69, 70] := rfl
theorem bne_t {c d : UInt8} (h : c ≠ d) {n : Int} (hn : (d.toNat : Int) = n) : ((c.toNat : Int) != n) = true := by rw [bne, beq_f h hn]; rfl
theorem bne_f {c d : UInt8} (h : c = d) {n : Int} (hn : (d.toNat : Int) = n) : ((c.toNat : Int) != n) = false := by rw [bne, beq_t h hn]; rfl
theorem okB_in {c : UInt8} (h : okB c = true) : 32 ≤ c.toNat ∧ c.toNat ≤ 126 := by unfold okB at h; simp at h; exact h
theorem okB_out {c : UInt8} (h : okB c = false) : c.toNat < 32 ∨ (32 ≤ c.toNat ∧ 126 < c.toNat) := by unfold okB at h; simp at h; omega
theorem ixI_none {o : Option Nat} (h : o = none) : ixI o = -1 := by rw [h]; rfl
theorem ixI_some {o : Option Nat} {v : Nat} (h : o = some v) : ixI o = (v : Int) := by rw [h]; rfl
theorem own_snocB {B : Nat} {v : Value} {l : List UInt8} {c : UInt8} {w : World} (h : w.ownsRow B 5 1 v (l.length + 1) (Lib.byteCells l ++ [.int .u8 c.toNat])) : OwnBy B v (l ++ [c]) w := by
  unfold OwnBy
  rw [List.length_append, show Lib.byteCells (l ++ [c]) = Lib.byteCells l ++ [.int .u8 c.toNat] by simp [Lib.byteCells]]
  exact h
/-- One byte appended to a row of the call's own, as a step of a region. -/
theorem step_append_B {ops : Array Oper} {o : Oper} {Q : Exit → Act → World → Prop} {K : Act → World → Prop} {E : Prop} {a : Act} {w : World} (hgd : o.guard = none) (s x : Operand)
    (ho : o.op = .call { callee := .builtin .append, args := #[s, x], argTypes := #[31, 31] })
    (B : Nat) (v : Value) (l : List UInt8) (c : UInt8) (g : Nat) (hs : a.eval s = v) (hx : a.eval x = .slice (some ⟨g, 0, none⟩) 1 1) (hown : OwnBy B v l w)
    (hy : w.cell? ⟨g, 0, none⟩ = some (.int .u8 c.toNat)) (hB : B ≤ w.heap.size) (hl : l.length ≤ 1073741824)
    (h : ∀ v' w', OwnBy B v' (l ++ [c]) w' → Below B w w' → K (a.put o.dst v') w') : if Region.wanted o (yielded ops a.tmps) = true then Oper.wp Tryd.prog o a w K Q else E := by
  rw [if_pos (by simp [Region.wanted, hgd])]
  obtain ⟨i0, hi, hz0, hz1, hz2⟩ := info_parts bInfo
  have hown1 := hown
  unfold OwnBy at hown1
  refine wp_append_own w s x 31 ho B 5 i0 (.int .u8 0) 1 1 Tryd.underlying31 hi hz0 hz1 hz2 rfl (by decide) v l.length (Lib.byteCells l) hs hown1 ⟨g, 0, none⟩ 1 1 [.int .u8 c.toNat] hx rfl ?_ ?_ ?_ ?_ hB ?_
  · intro j u hj
    match j, hj with
    | 0, hj => simp at hj; subst hj; simpa [Addr.add] using hy
  · intro u hu; simp at hu; subst hu; rfl
  · unfold maxLen; omega
  · omega
  · intro v' w' h2 h3 _
    exact h v' w' (own_snocB h2) ((Below.refl _ _).grown h3 hB (fun k hk => (World.ownsRow.lt hown1 k hk).1))
theorem hex_index (c : UInt8) : Lib.indexByte [48, 49, 50, 51, 52, 53, 54, 55, 56, 57, 65, 66, 67, 68, 69, 70] c = ixI (hexV c) := by
  have key : ∀ n, n < 256 → Lib.indexByte [48, 49, 50, 51, 52, 53, 54, 55, 56, 57, 65, 66, 67, 68, 69, 70] (UInt8.ofNat n) = ixI (hexV (UInt8.ofNat n)) := by decide +kernel
  have := key c.toNat c.toNat_lt
  rw [UInt8.ofNat_toNat] at this; exact this
theorem indexHex_any (c : UInt8) (w : World) : Calls Tryd.prog 103 #[.string (ByteArray.mk #[48, 49, 50, 51, 52, 53, 54, 55, 56, 57, 65, 66, 67, 68, 69, 70]), .int .u8 c.toNat] w fun e w' => e = .returned (.int .i64 (ixI (hexV c))) ∧ w' = w := by
  refine (Tryd.strings_IndexByte (ByteArray.mk #[48, 49, 50, 51, 52, 53, 54, 55, 56, 57, 65, 66, 67, 68, 69, 70]) (c.toNat : Int) w).mono ?_
  rintro e w' ⟨rfl, rfl⟩
  refine ⟨ret_int ?_, rfl⟩
  rw [hexD_eq, ← hex_index]
  congr 1
  simp
/-- The byte that '=' and two digits stand for. -/
def esc? (l : List UInt8) : Option UInt8 := match l with
  | _ :: x :: y :: _ => (match hexV x, hexV y with | some a, some b => some (UInt8.ofNat (16 * a + b)) | _, _ => none)
  | _ => none
def EscRet (o : Option UInt8) (w : World) (e : Ending) (w' : World) : Prop := e = .returned (.tuple #[.int .u8 ((o.getD 0).toNat : Int), .bool o.isSome]) ∧ w = w'
theorem escRet_none {o : Option UInt8} {w : World} (h : o = none) : EscRet o w (.returned (.tuple #[.int .u8 0, .bool false])) w := by subst h; exact ⟨rfl, rfl⟩
theorem escRet_some {o : Option UInt8} {c : UInt8} {x : Int} {w : World} (h : o = some c) (hx : x = (c.toNat : Int)) : EscRet o w (.returned (.tuple #[.int .u8 x, .bool true])) w := by subst h hx; exact ⟨rfl, rfl⟩
theorem list3 (s : ByteArray) (h : 3 ≤ s.size) : s.data.toList = s[0] :: s[1] :: s[2] :: s.data.toList.drop 3 := by
  conv => lhs; rw [← List.drop_zero (l := s.data.toList)]
  rw [drop_at s 0 (by omega), drop_at s 1 (by omega), drop_at s 2 (by omega)]
theorem esc_short (s : ByteArray) (h : s.size < 3) : esc? s.data.toList = none := by
  have hl : s.data.toList.length < 3 := by rw [size_list]; exact h
  match hs : s.data.toList, hl with
  | [], _ => rfl
  | [_], _ => rfl
  | [_, _], _ => rfl
set_option maxRecDepth 100000 in
set_option maxHeartbeats 1000000 in
theorem readEscape_any (s : ByteArray) (w : World) (hs : s.size ≤ 1073741000) :
    Calls Tryd.prog 100 #[.string s] w (EscRet (esc? s.data.toList) w) := by
  by_cases h3 : s.size < 3
  · have HN := Lib.hid (esc_short s h3)
    go_enter Tryd.func100, Tryd.ntmps100
    go_wp2
    go_ret2
    exact escRet_none HN.out
  · have h1 : 1 < s.size := by omega
    have h2 : 2 < s.size := by omega
    have HL : Hid (esc? s.data.toList = match hexV s[1], hexV s[2] with | some a, some b => some (UInt8.ofNat (16 * a + b)) | _, _ => none) := by show _ = _; rw [list3 s (by omega)]; rfl
    cases ha : hexV s[1] with
    | none =>
      have HI := Lib.hid (ixI_none ha)
      have HN : Hid (esc? s.data.toList = none) := by show _ = _; rw [HL.out, ha]
      clear ha
      go_enter Tryd.func100, Tryd.ntmps100
      go_wp2_with fail
      refine (indexHex_any s[1] _).mono ?_
      rintro e w1 ⟨rfl, rfl⟩
      rw [HI.out]
      go_wp2_with fail
      refine (indexHex_any s[2] _).mono ?_
      rintro e w1 ⟨rfl, rfl⟩
      go_wp2
      go_ret2
      exact escRet_none HN.out
    | some a =>
      have HI := Lib.hid (ixI_some ha)
      have ha16 := hexV_lt ha
      cases hb : hexV s[2] with
      | none =>
        have HJ := Lib.hid (ixI_none hb)
        have HN : Hid (esc? s.data.toList = none) := by show _ = _; rw [HL.out, ha, hb]
        clear ha hb
        go_enter Tryd.func100, Tryd.ntmps100
        go_wp2_with fail
        refine (indexHex_any s[1] _).mono ?_
        rintro e w1 ⟨rfl, rfl⟩
        rw [HI.out]
        go_wp2_with fail
        refine (indexHex_any s[2] _).mono ?_
        rintro e w1 ⟨rfl, rfl⟩
        rw [HJ.out]
        go_wp2
        go_ret2
        exact escRet_none HN.out
      | some b =>
        have HJ := Lib.hid (ixI_some hb)
        have hb16 := hexV_lt hb
        have HN : Hid (esc? s.data.toList = some (UInt8.ofNat (16 * a + b))) := by show _ = _; rw [HL.out, ha, hb]
        clear ha hb
        go_enter Tryd.func100, Tryd.ntmps100
        go_wp2_with fail
        refine (indexHex_any s[1] _).mono ?_
        rintro e w1 ⟨rfl, rfl⟩
        rw [HI.out]
        go_wp2_with fail
        refine (indexHex_any s[2] _).mono ?_
        rintro e w1 ⟨rfl, rfl⟩
        rw [HJ.out]
        go_wp2
        go_ret2
        exact escRet_some HN.out (by rw [UInt8.toNat_ofNat']; omega)
theorem escN_eq (l : List UInt8) : escN l = esc? l := rfl
set_option maxRecDepth 100000 in
set_option maxHeartbeats 2000000 in
theorem readEscapes_any (s : ByteArray) (w : World) (hs : s.size ≤ 1073741000) :
    Calls Tryd.prog 83 #[.string s] w (DecRet (unE id s.data.toList) w) := by
  go_enter Tryd.func83, Tryd.ntmps83
  go_wp2_with fail
  go_loopw [5] (fun i wr => ∃ (k : Nat) (acc : List UInt8), k ≤ s.size ∧ i = .int .i64 k ∧ acc.length ≤ k ∧ unE id s.data.toList = (unE id (s.data.toList.drop k)).map (acc ++ ·) ∧ Bld w.heap.size w.heap.size acc wr ∧ Below w.heap.size w wr) (fun i _ => s.size - (intOf i).toNat)
  case atStart => exact ⟨0, [], by omega, rfl, by simp, by rw [List.drop_zero]; cases unE id s.data.toList <;> simp, bld_fresh w, (Below.refl _ _).alloc (Nat.le_refl _) _⟩
  case round =>
    obtain ⟨k, acc, hk, rfl, hal, hg, hB, hb⟩ := hrel
    have HG := Lib.hid hg
    clear hg
    by_cases hlt : k < s.size
    · have HD := Lib.hid (drop_at s k hlt)
      by_cases h61 : s[k] = 61
      · have e61 := beq_t h61 (n := 61) rfl
        have hxs : (s.extract k s.size).size = s.size - k := by rw [ByteArray.size_extract]; omega
        have HXL : Hid ((s.extract k s.size).data.toList = s[k] :: s.data.toList.drop (k + 1)) := by show _ = _; rw [ext_drop, str_list, HD.out]
        have HRE := Lib.hid (unE_esc id (s.data.toList.drop (k + 1)) h61)
        clear h61
        go_wp2_with fail
        refine (readEscape_any _ _ (by omega)).mono ?_
        rintro e w1 ⟨rfl, rfl⟩
        rw [HXL.out]
        cases he : esc? (s[k] :: s.data.toList.drop (k + 1)) with
        | none =>
          have HN : Hid (unE id s.data.toList = none) := by show _ = _; rw [HG.out, HD.out, HRE.out, escN_eq, he]; rfl
          clear he
          go_wp2
          go_ret2
          exact decRet_none HN.out rfl hb
        | some b =>
          have h3 := escN_len he
          rw [List.length_cons, List.length_drop, size_list] at h3
          have HN : Hid (unE id s.data.toList = (unE id (s.data.toList.drop (k + 3))).map ((acc ++ [b]) ++ ·)) := by
            show _ = _; rw [HG.out, HD.out, HRE.out, escN_eq, he, List.drop_drop]
            cases unE id (s.data.toList.drop (k + 1 + 2)) <;> simp
          clear he
          go_wp2_with fail
          refine (writeByte_any _ _ _ b _ hB (by omega)).mono ?_
          rintro e w3 ⟨rfl, hB3, hb3⟩
          go_wp2
          go_roundw
          case rel => exact ⟨k + 3, _, by omega, by go_num, by rw [List.length_append, List.length_singleton]; omega, HN.out, hB3, hb.trans hb3⟩
          case measure => simp [intOf]; omega
      · have e61 := beq_f h61 (n := 61) rfl
        have HN : Hid (unE id s.data.toList = (unE id (s.data.toList.drop (k + 1))).map ((acc ++ [s[k]]) ++ ·)) := by
          show _ = _; rw [HG.out, HD.out, unE_plain id _ h61]
          cases unE id (s.data.toList.drop (k + 1)) <;> simp
        clear h61
        go_wp2_with fail
        refine (writeByte_any _ _ _ s[k] _ hB (by omega)).mono ?_
        rintro e w3 ⟨rfl, hB3, hb3⟩
        go_wp2
        go_roundw
        case rel => exact ⟨k + 1, _, by omega, by go_num, by rw [List.length_append, List.length_singleton]; omega, HN.out, hB3, hb.trans hb3⟩
        case measure => simp [intOf]; omega
    · have HN : Hid (unE id s.data.toList = some acc) := by show _ = _; rw [HG.out, drop_out s k (by omega)]; simp [unE]
      go_wp2_with fail
      refine (bString_any _ _ _ _ hB).mono ?_
      rintro e w5 ⟨rfl, hb5⟩
      go_wp2
      go_ret2
      exact decRet_some HN.out rfl (hb.trans hb5)
theorem rq_esc (c : UInt8) (l : List UInt8) (h : c = 61) : rq (c :: l) = match esc? (c :: l) with | none => none | some b => (rq (l.drop 2)).map (b :: ·) := by
  subst h
  match l with
  | [] => rw [rq_end]; rfl
  | [x] => rw [rq_short]; rfl
  | x :: y :: m =>
    cases hx : hexV x with
    | none => rw [rq_nohex _ (.inl hx)]; unfold esc?; dsimp only; rw [hx]
    | some a =>
      cases hy : hexV y with
      | none => rw [rq_nohex _ (.inr hy)]; unfold esc?; dsimp only; rw [hx, hy]
      | some b => rw [rq_hex _ hx hy]; unfold esc?; dsimp only; rw [hx, hy]; rfl
theorem escQ_len {l : List UInt8} {b : UInt8} (h : esc? l = some b) : 3 ≤ l.length := by
  match l, h with
  | _ :: _ :: _ :: _, _ => simp
theorem hexV_okB_nat : ∀ n, n < 256 → (hexV (UInt8.ofNat n)).isSome = true → okB (UInt8.ofNat n) = true := by decide +kernel
theorem hexV_okB {c : UInt8} {a : Nat} (h : hexV c = some a) : okB c = true := by
  have := hexV_okB_nat c.toNat c.toNat_lt
  rw [UInt8.ofNat_toNat, h] at this; exact this rfl
theorem rq_foul : ∀ (n : Nat) (l : List UInt8), l.length ≤ n → (∃ x ∈ l, okB x = false) → rq l = none := by
  intro n
  induction n with
  | zero => intro l hl ⟨x, hx, _⟩; rw [List.length_eq_zero_iff.1 (by omega : l.length = 0)] at hx; cases hx
  | succ n ih =>
    intro l hl ⟨x, hx, hb⟩
    cases l with
    | nil => cases hx
    | cons c l =>
      rw [List.length_cons] at hl
      cases hc : okB c
      · exact rq_bad l hc
      · have hxl : x ∈ l := by
          rcases List.mem_cons.1 hx with rfl | h
          · rw [hc] at hb; cases hb
          · exact h
        by_cases h61 : c = 61
        · subst h61
          match l, hl, hxl with
          | [], _, hxl => cases hxl
          | [y], _, _ => exact rq_short y
          | y :: z :: m, hl, hxl =>
            cases hy : hexV y with
            | none => exact rq_nohex m (.inl hy)
            | some p =>
              cases hz : hexV z with
              | none => exact rq_nohex m (.inr hz)
              | some q =>
                rw [rq_hex m hy hz, ih m (by simp only [List.length_cons] at hl; omega) ⟨x, by
                  rcases List.mem_cons.1 hxl with rfl | h
                  · rw [hexV_okB hy] at hb; cases hb
                  · rcases List.mem_cons.1 h with rfl | h
                    · rw [hexV_okB hz] at hb; cases hb
                    · exact h, hb⟩]; rfl
        · rw [rq_plain l h61 hc, ih l (by omega) ⟨x, hxl, hb⟩]; rfl
theorem rq_clean : ∀ (n : Nat) (l : List UInt8), l.length ≤ n → (∀ x ∈ l, okB x = true) → rq l = unE id l := by
  intro n
  induction n with
  | zero => intro l hl _; rw [List.length_eq_zero_iff.1 (by omega : l.length = 0)]; rfl
  | succ n ih =>
    intro l hl ho
    cases l with
    | nil => rfl
    | cons c l =>
      rw [List.length_cons] at hl
      have hc := ho c (List.mem_cons_self ..)
      have hol : ∀ x ∈ l, okB x = true := fun x h => ho x (List.mem_cons_of_mem _ h)
      by_cases h61 : c = 61
      · rw [rq_esc c l h61, unE_esc id l h61]
        show _ = match esc? (c :: l) with | none => none | some b => (unE id (l.drop 2)).map (b :: ·)
        rw [ih (l.drop 2) (by rw [List.length_drop]; omega) (fun x h => hol x (List.mem_of_mem_drop h))]
      · rw [rq_plain l h61 hc, unE_plain id l h61, ih l (by omega) hol]; rfl
set_option maxRecDepth 100000 in
set_option maxHeartbeats 2000000 in
theorem readQuotedLine_any (s : ByteArray) (w : World) (hs : s.size ≤ 1073741000) :
    Calls Tryd.prog 55 #[.string s] w (DecRet (rq s.data.toList) w) := by
  go_enter Tryd.func55, Tryd.ntmps55
  go_wp2_with fail
  go_loop [4] (fun i => ∃ k : Nat, k ≤ s.size ∧ i = .int .i64 k ∧ ∀ j, (h : j < k) → (h' : j < s.size) → okB s[j] = true) (fun i => s.size - (intOf i).toNat)
  case atStart => exact ⟨0, Nat.zero_le _, rfl, fun j h => by omega⟩
  case round =>
    obtain ⟨k, hk, rfl, hall⟩ := hrel
    have H := Lib.hid hall
    clear hall
    by_cases hlt : k < s.size
    · cases ho : okB s[k]
      · have hm : s[k] ∈ s.data.toList := by simp [ByteArray.getElem_eq_getElem_data]
        have HN := Lib.hid (rq_foul _ s.data.toList (Nat.le_refl _) ⟨_, hm, ho⟩)
        rcases okB_out ho with h1 | ⟨h1, h2⟩ <;> clear ho hm
        all_goals
          go_wp2
          go_ret2
          exact decRet_none HN.out rfl (Below.refl _ _)
      · obtain ⟨h1, h2⟩ := okB_in ho
        have HO := Lib.hid ho
        clear ho
        go_wp2
        go_round
        case rel => exact ⟨k + 1, by omega, by go_num, fun j h h' => by
          by_cases e : j = k
          · subst e; exact HO.out
          · exact H.out j (by omega) h'⟩
        case measure => simp [intOf]; omega
    · have HE : Hid (rq s.data.toList = unE id s.data.toList) := rq_clean _ _ (Nat.le_refl _) fun x hx => by
        obtain ⟨j, hj, rfl⟩ := List.getElem_of_mem hx
        exact H.out j (by rw [size_list] at hj; omega) (by rw [size_list] at hj; exact hj)
      have HR := Lib.hid (readEscapes_any s w hs)
      rw [← HE.out] at HR
      clear HE
      generalize rq s.data.toList = o at *
      go_wp2_with fail
      refine HR.out.mono ?_
      rintro e w1 ⟨rfl, hb⟩
      go_wp2
      go_ret2
      exact ⟨rfl, hb⟩
theorem l5Value_any (c : UInt8) (w : World) : Calls Tryd.prog 84 #[.int .u8 c.toNat] w fun e w' => e = .returned (.int .i64 (ixI (hexV c))) ∧ w' = w := by
  by_cases h1 : 48 ≤ c.toNat ∧ c.toNat ≤ 57
  · have HV : Hid (ixI (hexV c) = (c.toNat : Int) - 48) := by show _ = _; unfold hexV; rw [if_pos h1]; show ((c.toNat - 48 : Nat) : Int) = _; omega
    obtain ⟨h2, h3⟩ := h1
    go_enter Tryd.func84, Tryd.ntmps84
    go_wp2
    go_ret
    exact ⟨ret_int HV.out.symm, rfl⟩
  · by_cases h2 : 65 ≤ c.toNat ∧ c.toNat ≤ 70
    · have HV : Hid (ixI (hexV c) = (c.toNat : Int) - 65 + 10) := by show _ = _; unfold hexV; rw [if_neg h1, if_pos h2]; show ((c.toNat - 55 : Nat) : Int) = _; omega
      obtain ⟨h3, h4⟩ := h2
      clear h1
      go_enter Tryd.func84, Tryd.ntmps84
      go_wp2
      go_ret
      exact ⟨ret_int HV.out.symm, rfl⟩
    · have HV : Hid (ixI (hexV c) = -1) := by show _ = _; unfold hexV; rw [if_neg h1, if_neg h2]; rfl
      rcases (by omega : c.toNat < 48 ∨ (57 < c.toNat ∧ c.toNat < 65) ∨ 70 < c.toNat) with h3 | h3 | h3
      all_goals
        clear h1 h2
        go_enter Tryd.func84, Tryd.ntmps84
        go_wp2
        go_ret
        exact ⟨ret_int HV.out.symm, rfl⟩
def UqRet (o : Option (List UInt8 × Bool)) (w : World) (e : Ending) (w' : World) : Prop := e = .returned (.tuple #[.string (str (o.getD ([], false)).1), .bool (o.getD ([], false)).2, .bool o.isSome]) ∧ Below w.heap.size w w'
theorem uqRet_none {o : Option (List UInt8 × Bool)} {w w' : World} (h : o = none) (hb : Below w.heap.size w w') : UqRet o w (.returned (.tuple #[.string ⟨#[]⟩, .bool false, .bool false])) w' := by subst h; exact ⟨rfl, hb⟩
theorem uqRet_some {o : Option (List UInt8 × Bool)} {l : List UInt8} {g : Bool} {w w' : World} (h : o = some (l, g)) (hb : Below w.heap.size w w') : UqRet o w (.returned (.tuple #[.string (str l), .bool g, .bool true])) w' := by subst h; exact ⟨rfl, hb⟩
set_option maxRecDepth 100000 in
set_option maxHeartbeats 1000000 in
theorem l5Unquote_any (s : ByteArray) (w : World) (hs : s.size ≤ 1073741000) :
    Calls Tryd.prog 58 #[.string s] w (UqRet (uq s.data.toList) w) := by
  obtain ⟨i0, hi, hz0, hz1, hz2⟩ := info_parts bInfo
  go_enter Tryd.func58, Tryd.ntmps58
  go_wp2_with fail
  go_loopw [5, 6] (fun v i wr => ∃ (k : Nat) (acc : List UInt8), k ≤ s.size ∧ i = .int .i64 k ∧ acc.length ≤ k ∧ uq s.data.toList = (uq (s.data.toList.drop k)).map (fun r => (acc ++ r.1, r.2)) ∧ OwnBy w.heap.size v acc wr ∧ Below w.heap.size w wr) (fun _ i _ => s.size - (intOf i).toNat)
  case atStart => exact ⟨0, [], by omega, rfl, by simp, by rw [List.drop_zero]; cases uq s.data.toList <;> simp, OwnBy.empty w, (Below.refl _ _).alloc (Nat.le_refl _) _⟩
  case round =>
    obtain ⟨k, acc, hk, rfl, hal, hg, hown, hb⟩ := hrel
    have HG := Lib.hid hg
    have HB := Lib.hid hb
    have HOWN := Lib.hid hown
    have hbs := hb.size
    clear hg
    by_cases hlt : k < s.size
    · have HD := Lib.hid (drop_at s k hlt)
      have hown1 := hown
      unfold OwnBy at hown1
      by_cases h61 : s[k] = 61
      · have e61 := bne_f h61 (n := 61) rfl
        by_cases hend : k + 1 = s.size
        · have HN : Hid (uq s.data.toList = some (acc, true)) := by show _ = _; rw [HG.out, HD.out, h61, drop_out s (k + 1) (by omega), uq_end]; simp
          have el : (((k : Int) + 1) == (s.size : Int)) = true := by rw [beq_iff_eq]; omega
          have hback := OwnBy.back hown 31 9 5 Tryd.underlying31 Tryd.underlying5 Tryd.underlying9
          clear h61 hend
          go_wp2
          go_ret3
          exact uqRet_some HN.out hb
        · have el : (((k : Int) + 1) == (s.size : Int)) = false := by rw [beq_eq_false_iff_ne]; omega
          by_cases h2 : k + 2 < s.size
          · have h1 : k + 1 < s.size := by omega
            have HD3 : Hid (s.data.toList.drop (k + 1) = s[k + 1] :: s[k + 2] :: s.data.toList.drop (k + 3)) := by show _ = _; rw [drop_at s (k + 1) h1, drop_at s (k + 2) h2]
            have hge : ¬ ((s.size : Int) ≤ (k : Int) + 2) := by omega
            have hw1 : IntKind.i64.wrap ((k : Int) + 1) = (k : Int) + 1 := IntWalk.i64_in _ (by omega)
            have hw2 : 0 ≤ (k : Int) + 1 := by omega
            have hw3 : ((k : Int) + 1).toNat = k + 1 := by omega
            have hw4 : (k : Int) + 1 < (s.size : Int) := by omega
            have hv1 : IntKind.i64.wrap ((k : Int) + 2) = (k : Int) + 2 := IntWalk.i64_in _ (by omega)
            have hv2 : 0 ≤ (k : Int) + 2 := by omega
            have hv3 : ((k : Int) + 2).toNat = k + 2 := by omega
            have hv4 : (k : Int) + 2 < (s.size : Int) := by omega
            cases ha : hexV s[k + 1] with
            | none =>
              have HI := Lib.hid (ixI_none ha)
              have HN : Hid (uq s.data.toList = none) := by show _ = _; rw [HG.out, HD.out, h61, HD3.out, uq_nohex _ (.inl ha)]; rfl
              clear ha h61 hend
              go_wp2_with fail
              refine (l5Value_any s[k + 1] _).mono ?_
              rintro e w1 ⟨rfl, rfl⟩
              rw [HI.out]
              go_wp2
              go_ret3
              exact uqRet_none HN.out hb
            | some a =>
              have HI := Lib.hid (ixI_some ha)
              have ha16 := hexV_lt ha
              cases hbv : hexV s[k + 2] with
              | none =>
                have HJ := Lib.hid (ixI_none hbv)
                have HN : Hid (uq s.data.toList = none) := by show _ = _; rw [HG.out, HD.out, h61, HD3.out, uq_nohex _ (.inr hbv)]; rfl
                clear ha hbv h61 hend
                go_wp2_with fail
                refine (l5Value_any s[k + 1] _).mono ?_
                rintro e w1 ⟨rfl, rfl⟩
                rw [HI.out]
                go_wp2_with fail
                refine (l5Value_any s[k + 2] _).mono ?_
                rintro e w1 ⟨rfl, rfl⟩
                rw [HJ.out]
                go_wp2
                go_ret3
                exact uqRet_none HN.out hb
              | some b =>
                have HJ := Lib.hid (ixI_some hbv)
                have hb16 := hexV_lt hbv
                have HN : Hid (uq s.data.toList = (uq (s.data.toList.drop (k + 3))).map (fun r => ((acc ++ [UInt8.ofNat (16 * a + b)]) ++ r.1, r.2))) := by
                  show _ = _; rw [HG.out, HD.out, h61, HD3.out, uq_hex _ ha hbv]
                  cases uq (s.data.toList.drop (k + 3)) <;> simp
                have HV1 : Hid (∀ u : World, Calls Tryd.prog 84 #[.int .u8 s[k + 1].toNat] u fun e w' => e = .returned (.int .i64 (a : Int)) ∧ w' = u) := fun u => by rw [← HI.out]; exact l5Value_any s[k + 1] u
                have HV2 : Hid (∀ u : World, Calls Tryd.prog 84 #[.int .u8 s[k + 2].toNat] u fun e w' => e = .returned (.int .i64 (b : Int)) ∧ w' = u) := fun u => by rw [← HJ.out]; exact l5Value_any s[k + 2] u
                obtain ⟨cb, hcb, hce⟩ : ∃ cb : UInt8, (16 * (a : Int) + b) = (cb.toNat : Int) ∧ cb = UInt8.ofNat (16 * a + b) := ⟨_, by rw [UInt8.toNat_ofNat']; omega, rfl⟩
                rw [← hce] at HN
                have hcb256 := cb.toNat_lt
                clear ha hbv h61 hend hce
                go_wp2_with fail
                refine (HV1.out _).mono ?_
                rintro e w1 ⟨rfl, rfl⟩
                go_wp2_with fail
                refine (HV2.out _).mono ?_
                rintro e w1 ⟨rfl, rfl⟩
                go_wp2_with fail
                have hwx : (IntKind.u8.wrap (IntKind.i64.wrap (IntKind.i64.wrap (16 * (a : Int)) + (b : Int)))) = (cb.toNat : Int) := by rw [IntWalk.i64_in (16 * (a : Int)) (by omega), IntWalk.i64_in _ (by omega), IntWalk.u8_in _ (by omega)]; exact hcb
                have HA := Lib.hid (show OwnBy w.heap.size _ acc (w1.alloc (.cells #[.int .u8 (IntKind.u8.wrap (IntKind.i64.wrap (IntKind.i64.wrap (16 * (a : Int)) + (b : Int))))] 5)).drew from World.ownsRow.alloc (w := w1) hown1 _)
                have HCN : Hid ((w1.alloc (.cells #[.int .u8 (IntKind.u8.wrap (IntKind.i64.wrap (IntKind.i64.wrap (16 * (a : Int)) + (b : Int))))] 5)).drew.cell? ⟨w1.heap.size, 0, none⟩ = some (.int .u8 (cb.toNat : Int))) := by show (w1.alloc _).cell? _ = _; rw [World.cell?_alloc_at _ _ _ _ rfl, hwx]; rfl
                have HBD : Hid (Below w.heap.size w (w1.alloc (.cells #[.int .u8 (IntKind.u8.wrap (IntKind.i64.wrap (IntKind.i64.wrap (16 * (a : Int)) + (b : Int))))] 5)).drew) := (HB.out.alloc hbs _).drew
                clear hwx hcb
                go_region_law (first
                  | (refine step_append_B (by rfl) _ _ (by rfl) w.heap.size _ acc cb w1.heap.size (by rfl) (by rfl) HA.out HCN.out HBD.out.size (by omega) ?_
                     intro v3 w3 hO3 hb3)
                  | (go_simp
                     go_at_call 84
                     refine (l5Value_any _ _).mono ?_
                     rintro e w6 ⟨rfl, rfl⟩
                     first | rw [HI.out] | rw [HJ.out]))
                all_goals
                  have hb4 := HBD.out.trans hb3
                  go_wp2
                  go_roundw
                  case rel => exact ⟨k + 3, _, by omega, by go_num, by rw [List.length_append, List.length_singleton]; omega, HN.out, hO3, hb4⟩
                  case measure => simp [intOf]; omega
          · have HN : Hid (uq s.data.toList = none) := by
              show _ = _; rw [HG.out, HD.out, h61, drop_at s (k + 1) (by omega), drop_out s (k + 1 + 1) (by omega), uq_short]; rfl
            have hge : ((s.size : Int) ≤ (k : Int) + 2) := by omega
            clear h61 hend
            go_wp2
            go_ret3
            exact uqRet_none HN.out hb
      · have e61 := bne_t h61 (n := 61) rfl
        cases ho : okB s[k]
        · have HN : Hid (uq s.data.toList = none) := by show _ = _; rw [HG.out, HD.out, uq_bad _ ho]; rfl
          rcases okB_out ho with h1 | ⟨h1, h2⟩ <;> clear ho h61
          all_goals
            go_wp2
            go_ret3
            exact uqRet_none HN.out hb
        · obtain ⟨h1, h2⟩ := okB_in ho
          have HN : Hid (uq s.data.toList = (uq (s.data.toList.drop (k + 1))).map (fun r => ((acc ++ [s[k]]) ++ r.1, r.2))) := by
            show _ = _; rw [HG.out, HD.out, uq_plain _ h61 ho]
            cases uq (s.data.toList.drop (k + 1)) <;> simp
          clear ho h61
          go_wp2_with (at_builtin; refine wpList_append_own _ rfl _ _ 31 rfl w.heap.size 5 i0 (.int .u8 0) 1 1 Tryd.underlying31 hi hz0 hz1 hz2 rfl (by decide) _ _ _ rfl (hown1.alloc _) ⟨wr.heap.size, 0, none⟩ 1 1 [.int .u8 s[k].toNat] rfl rfl ?c1 ?c2 ?c3 ?c4 ?c5 ?_)
          case c1 =>
            intro j u hj
            match j, hj with
            | 0, hj => simp at hj; subst hj; simp [Addr.add]
          case c2 => intro u hu; simp at hu; subst hu; rfl
          case c3 => unfold maxLen; omega
          case c4 => omega
          case c5 => simp; omega
          intro v' w3 hown' hgrow _
          have hO3 := own_snocB hown'
          have hb3 : Below w.heap.size wr w3 := ((Below.refl _ _).alloc (by omega) _).grown hgrow (by simp; omega) (fun k hk => (World.ownsRow.lt hown1 k hk).1)
          go_wp2
          go_roundw
          case rel => exact ⟨k + 1, _, by omega, by go_num, by rw [List.length_append, List.length_singleton]; omega, HN.out, hO3, HB.out.trans hb3⟩
          case measure => simp [intOf]; omega
    · have HN : Hid (uq s.data.toList = some (acc, false)) := by show _ = _; rw [HG.out, drop_out s k (by omega)]; simp [uq]
      have hback := OwnBy.back hown 31 9 5 Tryd.underlying31 Tryd.underlying5 Tryd.underlying9
      go_wp2
      go_ret3
      exact uqRet_some HN.out hb
end Go.Proofs.YtjnpkmenlecdmabDoor
