/-
  Codes of bytes: quoted lines written: what the program's functions return. No statement is proved here.
-/
import Derived.Test.YtjnpkmenlecdmabDoorCodR
import Derived.Test.YtjnpkmenlecdmabDoorRowL
import Derived.Test.YtjnpkmenlecdmabDoorQuietB
import Derived.RegionTactic
import Derived.ChangeAlike
import Derived.Outline
namespace Go.Proofs.YtjnpkmenlecdmabDoor
open Go.RowKit

theorem hex_at {n : Nat} (h : n < 16) (h' : n < (ByteArray.mk #[48, 49, 50, 51, 52, 53, 54, 55, 56, 57, 65, 66, 67, 68, 69, 70]).size) : (ByteArray.mk #[48, 49, 50, 51, 52, 53, 54, 55, 56, 57, 65, 66, 67, 68, 69, 70])[n] = hexC n := by
  have key : ∀ n, (h : n < 16) → (ByteArray.mk #[48, 49, 50, 51, 52, 53, 54, 55, 56, 57, 65, 66, 67, 68, 69, 70])[n]'h = hexC n := by decide +kernel
  exact key n h
theorem plainB_t {c : UInt8} {last : Bool} (h : (33 ≤ c.toNat ∧ c.toNat ≤ 126 ∧ c ≠ 61) ∨ (c = 32 ∧ last = false)) : plainB c last = true := by
  unfold plainB; simp only [Bool.or_eq_true, Bool.and_eq_true, decide_eq_true_eq, Bool.not_eq_true']
  rcases h with ⟨a, b, c⟩ | h
  · exact .inl ⟨⟨a, b⟩, c⟩
  · exact .inr h
theorem plainB_f {c : UInt8} {last : Bool} (h : ¬ ((33 ≤ c.toNat ∧ c.toNat ≤ 126 ∧ c ≠ 61) ∨ (c = 32 ∧ last = false))) : plainB c last = false := by
  cases hp : plainB c last
  · rfl
  · exfalso; apply h
    unfold plainB at hp; simp only [Bool.or_eq_true, Bool.and_eq_true, decide_eq_true_eq, Bool.not_eq_true'] at hp
    rcases hp with ⟨⟨a, b⟩, c⟩ | h
    · exact .inl ⟨a, b, c⟩
    · exact .inr h
theorem conv_oneC (w : World) (c : UInt8) : (convert 31 9 (.slice (some ⟨w.heap.size, 0, none⟩) 1 1)).run Tryd.prog (w.alloc (.cells #[.int .u8 c.toNat] 5)) = .ok (.string ⟨#[c]⟩) (w.alloc (.cells #[.int .u8 c.toNat] 5)) :=
  run_convert_bytes_back (P := Tryd.prog) (w.alloc (.cells #[.int .u8 (c.toNat : Int)] 5)) 31 9 5 ⟨w.heap.size, 0, none⟩ 1 [c] Tryd.underlying31 Tryd.underlying5 Tryd.underlying9 (fun j hj => by
    obtain rfl : j = 0 := by simpa using hj
    rw [add0, World.cell?_alloc_at _ _ _ _ rfl]; rfl)
theorem conv_threeC (w : World) (l : List UInt8) (h3 : l.length = 3) {x y z : Int} (hc : Lib.byteCells l = [.int .u8 x, .int .u8 y, .int .u8 z]) : (convert 31 9 (.slice (some ⟨w.heap.size, 0, none⟩) 3 3)).run Tryd.prog (w.alloc (.cells #[.int .u8 x, .int .u8 y, .int .u8 z] 5)).drew = .ok (.string (str l)) (w.alloc (.cells #[.int .u8 x, .int .u8 y, .int .u8 z] 5)).drew := by
  have := run_convert_bytes_back (P := Tryd.prog) (w.alloc (.cells #[.int .u8 x, .int .u8 y, .int .u8 z] 5)).drew 31 9 5 ⟨w.heap.size, 0, none⟩ 3 l Tryd.underlying31 Tryd.underlying5 Tryd.underlying9 (fun j hj => by
    show (w.alloc _).cell? _ = _
    rw [add0, World.cell?_alloc_at _ _ _ _ rfl]
    have h2 : (Lib.byteCells l)[j]? = some (.int .u8 (l[j].toNat : Int)) := by simp [Lib.byteCells, hj]
    rw [hc] at h2
    rw [← h2]
    simp)
  rw [h3] at this
  exact this
theorem escapeByte_any (c : UInt8) (w : World) : Calls Tryd.prog 80 #[.int .u8 c.toNat] w fun e w' => e = .returned (.string (str (hexL c))) ∧ Below w.heap.size w w' := by
  have hc := c.toNat_lt
  have HCV : Hid (∀ x y : Int, x = ((hexC (c.toNat / 16)).toNat : Int) → y = ((hexC (c.toNat % 16)).toNat : Int) → (convert 31 9 (.slice (some ⟨w.heap.size, 0, none⟩) 3 3)).run Tryd.prog (w.alloc (.cells #[.int .u8 61, .int .u8 x, .int .u8 y] 5)).drew = .ok (.string (str (hexL c))) (w.alloc (.cells #[.int .u8 61, .int .u8 x, .int .u8 y] 5)).drew) :=
    fun x y hx hy => conv_threeC w (hexL c) rfl (by subst hx hy; rfl)
  have hcv := HCV.out _ _ (by rw [← hex_at (show c.toNat / 16 < 16 by omega) (by show _ < 16; omega)]) (by rw [← hex_at (show c.toNat % 16 < 16 by omega) (by show _ < 16; omega)])
  have b1 : (c.toNat : Int) / 16 < 16 := by omega
  have b2 : 0 ≤ (c.toNat : Int) / 16 := by omega
  have b3 : (c.toNat : Int) % 16 < 16 := by omega
  have b4 : 0 ≤ (c.toNat : Int) % 16 := by omega
  have b5 : IntKind.u8.wrap ((c.toNat : Int) / 16) = (c.toNat : Int) / 16 := IntWalk.u8_in _ (by omega)
  have b6 : IntKind.u8.wrap ((c.toNat : Int) % 16) = (c.toNat : Int) % 16 := IntWalk.u8_in _ (by omega)
  go_enter Tryd.func80, Tryd.ntmps80
  go_wp2
  go_region
  all_goals
    go_wp2
    go_ret
    exact ⟨rfl, ((Below.refl _ _).alloc (Nat.le_refl _) _).drew⟩
set_option maxRecDepth 100000 in
set_option maxHeartbeats 1000000 in
theorem standsForItself_any (s : ByteArray) (k : Nat) (w : World) (hk : k < s.size) (hs : s.size ≤ 1073741000) :
    Calls Tryd.prog 79 #[.string s, .int .i64 k] w fun e w' => e = .returned (.bool (plainB s[k] (decide (k + 1 = s.size)))) ∧ w = w' := by
  by_cases h33 : 33 ≤ s[k].toNat
  · have d1 : ((32 : Int) < s[k].toNat) := by omega
    have h32 : s[k] ≠ 32 := by intro e; rw [e] at h33; exact absurd h33 (by decide)
    have e32 := beq_f h32 (n := 32) rfl
    by_cases h126 : s[k].toNat ≤ 126
    · have d2 : ¬ ((126 : Int) < s[k].toNat) := by omega
      by_cases h61 : s[k] = 61
      · have e61 := bneq_f h61 (n := 61) rfl
        have HP := Lib.hid (plainB_f (c := s[k]) (last := decide (k + 1 = s.size)) (by rintro (h | h); exact h.2.2 h61; exact h32 h.1))
        clear h61 h32
        go_enter Tryd.func79, Tryd.ntmps79
        go_wp2
        go_ret
        exact ⟨ret_bool HP.out.symm, rfl⟩
      · have e61 := bneq_t h61 (n := 61) rfl
        have HP := Lib.hid (plainB_t (c := s[k]) (last := decide (k + 1 = s.size)) (.inl ⟨h33, h126, h61⟩))
        clear h61 h32
        go_enter Tryd.func79, Tryd.ntmps79
        go_wp2
        go_ret
        exact ⟨ret_bool HP.out.symm, rfl⟩
    · have d2 : ((126 : Int) < s[k].toNat) := by omega
      have HP := Lib.hid (plainB_f (c := s[k]) (last := decide (k + 1 = s.size)) (by rintro (h | h); exact h126 h.2.1; exact h32 h.1))
      clear h32
      go_enter Tryd.func79, Tryd.ntmps79
      go_wp2
      go_ret
      exact ⟨ret_bool HP.out.symm, rfl⟩
  · have d1 : ¬ ((32 : Int) < s[k].toNat) := by omega
    by_cases h32 : s[k] = 32
    · have e32 := beq_t h32 (n := 32) rfl
      by_cases hl : k + 1 = s.size
      · have HP := Lib.hid (plainB_f (c := s[k]) (last := decide (k + 1 = s.size)) (by rintro (h | h); exact h33 h.1; rw [decide_eq_true hl] at h; cases h.2))
        have d3 : ¬ ((k : Int) < s.size - 1) := by omega
        clear h32 hl
        go_enter Tryd.func79, Tryd.ntmps79
        go_wp2
        go_ret
        exact ⟨ret_bool HP.out.symm, rfl⟩
      · have HP := Lib.hid (plainB_t (c := s[k]) (last := decide (k + 1 = s.size)) (.inr ⟨h32, decide_eq_false hl⟩))
        have d3 : ((k : Int) < s.size - 1) := by omega
        clear h32 hl
        go_enter Tryd.func79, Tryd.ntmps79
        go_wp2
        go_ret
        exact ⟨ret_bool HP.out.symm, rfl⟩
    · have e32 := beq_f h32 (n := 32) rfl
      have HP := Lib.hid (plainB_f (c := s[k]) (last := decide (k + 1 = s.size)) (by rintro (h | h); exact h33 h.1; exact h32 h.1))
      clear h32
      go_enter Tryd.func79, Tryd.ntmps79
      go_wp2
      go_ret
      exact ⟨ret_bool HP.out.symm, rfl⟩
theorem hexD_ext {n : Nat} (h : n < 16) : (ByteArray.mk #[48, 49, 50, 51, 52, 53, 54, 55, 56, 57, 65, 66, 67, 68, 69, 70]).extract n (n + 1) = str [hexC n] := by
  have key : ∀ n, n < 16 → ((ByteArray.mk #[48, 49, 50, 51, 52, 53, 54, 55, 56, 57, 65, 66, 67, 68, 69, 70]).extract n (n + 1)).data.toList = [hexC n] := by decide +kernel
  apply bytes_ext; rw [key n h, str_list]
theorem l5Hex_any (c : UInt8) (w : World) : Calls Tryd.prog 81 #[.int .u8 c.toNat] w fun e w' => e = .returned (.string (str (hexL c))) ∧ Below w.heap.size w w' := by
  have hc := c.toNat_lt
  have HX : Hid ((ByteArray.mk #[61]) ++ (ByteArray.mk #[48, 49, 50, 51, 52, 53, 54, 55, 56, 57, 65, 66, 67, 68, 69, 70]).extract (c.toNat / 16) (c.toNat / 16 + 1) ++ (ByteArray.mk #[48, 49, 50, 51, 52, 53, 54, 55, 56, 57, 65, 66, 67, 68, 69, 70]).extract (c.toNat % 16) (c.toNat % 16 + 1) = str (hexL c)) := by
    show _ = _
    rw [hexD_ext (by omega), hexD_ext (by omega), show (ByteArray.mk #[61]) = str [61] from rfl, str_app, str_app]; rfl
  have hz : (ByteArray.mk #[48, 49, 50, 51, 52, 53, 54, 55, 56, 57, 65, 66, 67, 68, 69, 70]).size = 16 := rfl
  have hz1 : (ByteArray.mk #[61]).size = 1 := rfl
  have b1 : (c.toNat : Int) / 16 < 16 := by omega
  have b2 : 0 ≤ (c.toNat : Int) / 16 := by omega
  have b3 : (c.toNat : Int) % 16 < 16 := by omega
  have b4 : 0 ≤ (c.toNat : Int) % 16 := by omega
  have b7 : bits .and .u8 (c.toNat : Int) 15 = (c.toNat : Int) % 16 := bits_mask .u8 8 (by decide) wraps_u8 4 (by decide) _ (by omega) (by omega)
  go_enter Tryd.func81, Tryd.ntmps81
  go_wp2
  go_quiet (fail)
  go_wp2
  go_ret
  exact ⟨ret_str HX.out, below_drewN (Below.refl _ _) _⟩
theorem lastB_free (s : ByteArray) (k : Nat) (hf : ∀ x ∈ s.data.toList, x ≠ 10) (hk : k ≤ s.size) : lastB (s.data.toList.drop k) = decide (k = s.size) := by
  by_cases h : k < s.size
  · rw [drop_at s k h, decide_eq_false (by omega)]
    have hm : s[k] ∈ s.data.toList := by simp [ByteArray.getElem_eq_getElem_data]
    show decide (s[k] = 10) = false
    exact decide_eq_false (hf _ hm)
  · rw [drop_out s k (by omega), decide_eq_true (by omega)]; rfl
theorem one_at (s : ByteArray) (k : Nat) (h : k < s.size) : s.extract k (k + 1) = str [s[k]] := by
  apply bytes_ext
  rw [Lib.extract_data, str_list, drop_at s k h]; simp
def LettersRet' (xs : List (List UInt8)) (w : World) (e : Ending) (w' : World) : Prop := ∃ v, e = .returned v ∧ OwnL w.heap.size v xs w' ∧ Below w.heap.size w w'
set_option maxRecDepth 100000 in
set_option maxHeartbeats 4000000 in
theorem quotedLines_any (s : ByteArray) (w : World) (hf : ∀ x ∈ s.data.toList, x ≠ 10) (hs : s.size ≤ 1000) :
    Calls Tryd.prog 52 #[.string s] w (LettersRet' (qgo [] s.data.toList) w) := by
  obtain ⟨i0, hi, hz0, hz1, hz2⟩ := info_parts sInfo
  have HFR := Lib.hid hf
  clear hf
  go_enter Tryd.func52, Tryd.ntmps52
  go_wp2_with fail
  go_loopw [3, 4, 5] (fun v l i wr => ∃ (k : Nat) (acc : List (List UInt8)) (line : List UInt8), k ≤ s.size ∧ i = .int .i64 k ∧ l = .string (str line) ∧ line.length ≤ 39 ∧ acc.length ≤ k ∧ qgo [] s.data.toList = acc ++ qgo line (s.data.toList.drop k) ∧ OwnL w.heap.size v acc wr ∧ Below w.heap.size w wr) (fun _ _ i _ => s.size - (intOf i).toNat)
  case atStart => exact ⟨0, [], [], by omega, rfl, rfl, by simp, by simp, rfl, OwnL.nil _ _, Below.refl _ _⟩
  case round =>
    obtain ⟨k, acc, line, hk, rfl, rfl, hll, hal, hg, hown, hb⟩ := hrel
    have HG := Lib.hid hg
    have HOWN := Lib.hid hown
    have HB := Lib.hid hb
    have hbs := hb.size
    have hlz := str_size line
    clear hg hown hb
    by_cases hlt : k < s.size
    · have HN10 : Hid (s[k] ≠ 10) := HFR.out _ (by simp [ByteArray.getElem_eq_getElem_data])
      have HLB : Hid (lastB (s.data.toList.drop (k + 1)) = decide (k + 1 = s.size)) := lastB_free s (k + 1) HFR.out (by omega)
      have HGK : Hid (qgo [] s.data.toList = acc ++ qgo line (s[k] :: s.data.toList.drop (k + 1))) := by show _ = _; rw [HG.out, drop_at s k hlt]
      cases hp : plainB s[k] (decide (k + 1 = s.size))
      · have HQ : Hid (qb s[k] (lastB (s.data.toList.drop (k + 1))) = hexL s[k]) := by show _ = _; rw [HLB.out]; unfold qb; rw [hp]; rfl
        have HP := Lib.hid hp
        have hwl := str_size (hexL s[k])
        have hwz : (hexL s[k]).length = 3 := rfl
        have HES := Lib.hid (escapeByte_any s[k])
        generalize hexL s[k] = wl at *
        have HEM : Hid ((ByteArray.mk #[]) ++ str wl = str wl) := by show _ = _; rw [show (ByteArray.mk #[]) = str [] from rfl, str_app]; simp
        have hw3 : wl.length ≤ 3 := by omega
        clear hp hwz
        go_wp2_with fail
        refine (standsForItself_any s k _ hlt (by omega)).mono ?_
        rintro e w1 ⟨rfl, rfl⟩
        rw [HP.out]
        go_wp2_with fail
        refine (HES.out _).mono ?_
        rintro e w2 ⟨rfl, hb2⟩
        have hO2 := HOWN.out.keep hb2
        have hB2 := nx HB.out hb2
        by_cases hfull : 39 < line.length + wl.length
        · have HE : Hid (qgo [] s.data.toList = (acc ++ [(str line ++ (ByteArray.mk #[61])).data.toList]) ++ qgo wl (s.data.toList.drop (k + 1))) := by
            show _ = _
            rw [HGK.out, qgo_full HN10.out (by rw [HQ.out]; exact hfull), HQ.out, Joins.data_append, str_list]; simp
          have hown2 := hO2
          unfold OwnL at hown2
          have hb2s := hB2.size
          go_wp2_with (at_builtin; refine wpList_append_own _ rfl _ _ 22 rfl w.heap.size 9 i0 (.string ⟨#[]⟩) 1 16 Tryd.underlying22 hi hz0 hz1 hz2 rfl (by decide) _ _ _ rfl (World.ownsRow.alloc hown2 _) ⟨w2.heap.size, 0, none⟩ 1 1 [.string (str line ++ (ByteArray.mk #[61]))] rfl rfl ?c1 ?c2 ?c3 ?c4 ?c5 ?_)
          case c1 =>
            intro u v hj
            match u, hj with
            | 0, hj => simp at hj; subst hj; simp [Addr.add]
          case c2 => intro u hu; simp at hu; subst hu; rfl
          case c3 => unfold maxLen; omega
          case c4 => omega
          case c5 => simp; omega
          intro v' w3 hown' hgrow _
          have hO3 := own_snoc hown'
          have hb3 : Below w.heap.size w2 w3 := ((Below.refl _ _).alloc (by omega) _).grown hgrow (by simp; omega) (fun k hk => (World.ownsRow.lt hown2 k hk).1)
          go_wp2
          go_roundw
          case rel => exact ⟨k + 1, _, wl, by omega, by go_num, by first | rfl | (rw [HEM.out]), by omega, by simp only [List.length_append, List.length_singleton]; omega, HE.out, hO3, hB2.trans hb3⟩
          case measure => simp [intOf]; omega
        · have HE : Hid (qgo [] s.data.toList = acc ++ qgo (line ++ wl) (s.data.toList.drop (k + 1))) := by
            show _ = _
            rw [HGK.out, qgo_more HN10.out (by rw [HQ.out]; exact hfull), HQ.out]
          go_wp2
          go_roundw
          case rel => exact ⟨k + 1, _, line ++ wl, by omega, by go_num, by rw [← str_app], by rw [List.length_append]; omega, by omega, HE.out, hO2, hB2⟩
          case measure => simp [intOf]; omega
      · have HQ : Hid (qb s[k] (lastB (s.data.toList.drop (k + 1))) = [s[k]]) := by show _ = _; rw [HLB.out]; unfold qb; rw [hp]; rfl
        have HP := Lib.hid hp
        have hwl := str_size [s[k]]
        have hw3 : [s[k]].length ≤ 3 := by simp
        have hone := one_at s k hlt
        generalize hgw : [s[k]] = wl at *
        have HEM : Hid ((ByteArray.mk #[]) ++ str wl = str wl) := by show _ = _; rw [show (ByteArray.mk #[]) = str [] from rfl, str_app]; simp
        have hO2 := HOWN.out
        have hB2 := HB.out
        clear hp hgw
        go_wp2_with fail
        refine (standsForItself_any s k _ hlt (by omega)).mono ?_
        rintro e w1 ⟨rfl, rfl⟩
        rw [HP.out]
        by_cases hfull : 39 < line.length + wl.length
        · have HE : Hid (qgo [] s.data.toList = (acc ++ [(str line ++ (ByteArray.mk #[61])).data.toList]) ++ qgo wl (s.data.toList.drop (k + 1))) := by
            show _ = _
            rw [HGK.out, qgo_full HN10.out (by rw [HQ.out]; exact hfull), HQ.out, Joins.data_append, str_list]; simp
          have hown2 := hO2
          unfold OwnL at hown2
          have hb2s := hB2.size
          go_wp2_with (at_builtin; refine wpList_append_own _ rfl _ _ 22 rfl w.heap.size 9 i0 (.string ⟨#[]⟩) 1 16 Tryd.underlying22 hi hz0 hz1 hz2 rfl (by decide) _ _ _ rfl (World.ownsRow.alloc hown2 _) ⟨wr.heap.size, 0, none⟩ 1 1 [.string (str line ++ (ByteArray.mk #[61]))] rfl rfl ?c1 ?c2 ?c3 ?c4 ?c5 ?_)
          case c1 =>
            intro u v hj
            match u, hj with
            | 0, hj => simp at hj; subst hj; simp [Addr.add]
          case c2 => intro u hu; simp at hu; subst hu; rfl
          case c3 => unfold maxLen; omega
          case c4 => omega
          case c5 => simp; omega
          intro v' w3 hown' hgrow _
          have hO3 := own_snoc hown'
          have hb3 : Below w.heap.size wr w3 := ((Below.refl _ _).alloc (by omega) _).grown hgrow (by simp; omega) (fun k hk => (World.ownsRow.lt hown2 k hk).1)
          go_wp2
          go_roundw
          case rel => exact ⟨k + 1, _, wl, by omega, by go_num, by first | rfl | (rw [HEM.out]), by omega, by simp only [List.length_append, List.length_singleton]; omega, HE.out, hO3, hB2.trans hb3⟩
          case measure => simp [intOf]; omega
        · have HE : Hid (qgo [] s.data.toList = acc ++ qgo (line ++ wl) (s.data.toList.drop (k + 1))) := by
            show _ = _
            rw [HGK.out, qgo_more HN10.out (by rw [HQ.out]; exact hfull), HQ.out]
          go_wp2
          go_roundw
          case rel => exact ⟨k + 1, _, line ++ wl, by omega, by go_num, by rw [← str_app], by rw [List.length_append]; omega, by omega, HE.out, hO2, hB2⟩
          case measure => simp [intOf]; omega
    · have HE : Hid (qgo [] s.data.toList = acc ++ [(str line).data.toList]) := by show _ = _; rw [HG.out, drop_out s k (by omega), qgo_nil, str_list]
      have hown2 := HOWN.out
      unfold OwnL at hown2
      have HB2 := Lib.hid HB.out
      generalize str line = px at *
      go_wp2_with (at_builtin; refine wpList_append_own _ rfl _ _ 22 rfl w.heap.size 9 i0 (.string ⟨#[]⟩) 1 16 Tryd.underlying22 hi hz0 hz1 hz2 rfl (by decide) _ _ _ rfl (World.ownsRow.alloc hown2 _) ⟨wr.heap.size, 0, none⟩ 1 1 [.string px] rfl rfl ?r1 ?r2 ?r3 ?r4 ?r5 ?_)
      case r1 =>
        intro u v hj
        match u, hj with
        | 0, hj => simp at hj; subst hj; simp [Addr.add]
      case r2 => intro u hu; simp at hu; subst hu; rfl
      case r3 => unfold maxLen; omega
      case r4 => omega
      case r5 => simp; omega
      intro v' w3 hown' hgrow _
      have hO3 := own_snoc hown'
      have hb3 : Below w.heap.size wr w3 := ((Below.refl _ _).alloc (by omega) _).grown hgrow (by simp; omega) (fun k hk => (World.ownsRow.lt hown2 k hk).1)
      go_wp2
      go_ret
      exact ⟨v', rfl, by rw [HE.out]; exact hO3, HB2.out.trans hb3⟩
theorem flatMap_take (f : List UInt8 → List (List UInt8)) (xs : List (List UInt8)) (k : Nat) (h : k < xs.length) : (xs.take (k + 1)).flatMap f = (xs.take k).flatMap f ++ f xs[k] := by
  rw [List.take_succ_eq_append_getElem h, List.flatMap_append]; simp
set_option maxRecDepth 100000 in
set_option maxHeartbeats 2000000 in
theorem encodeQuoted_any (s : ByteArray) (w : World) (hmx : ∃ m, w.cell? ⟨1, 0, none⟩ = some (.int .i64 m)) (hs : s.size ≤ 1073741000) :
    Calls Tryd.prog 20 #[.string s] w (EncRet (encQ s.data.toList) w) := by
  by_cases h300 : 300 < s.size
  · have HN : Hid (encQ s.data.toList = none) := encQ_out (by rw [size_list]; exact h300)
    go_enter Tryd.func20, Tryd.ntmps20
    go_wp2
    go_ret2
    exact encRet_none HN.out (OwnL.nil _ _) (Below.refl _ _)
  · have HN : Hid (encQ s.data.toList = some ((splitC 10 s.data.toList).flatMap (qgo []))) := by
      show _ = _; rw [encQ_in (by rw [size_list]; omega), qgo_split _ _ (Nat.le_refl _)]
    have HSM := Lib.hid (splitC_small 10 s.data.toList)
    have HFR := Lib.hid (splitC_free 10 s.data.toList)
    go_enter Tryd.func20, Tryd.ntmps20
    go_wp2_with fail
    refine (splitMx_any s 10 _ hmx (by omega)).mono ?_
    rintro e w1 ⟨b, rfl, hr1, hb1⟩
    generalize splitC 10 s.data.toList = ps at *
    have hpl : ps.length ≤ 301 := by have := HSM.out.1; rw [size_list] at this; omega
    have HPS : Hid (∀ p ∈ ps, p.length ≤ 300) := fun p hp => by have := HSM.out.2 p hp; rw [size_list] at this; omega
    have HR := Lib.hid hr1
    have HLEN := Lib.hid hr1.1
    clear hr1
    have HRC := Lib.hid (HR.out.2)
    have HB1 := Lib.hid hb1
    go_wp2_with fail
    go_loopw [4, 13] (fun v i wr => ∃ (k : Nat) (acc : List (List UInt8)), k ≤ ps.length ∧ i = .int .i64 k ∧ acc.length ≤ 301 * k ∧ acc = (ps.take k).flatMap (qgo []) ∧ OwnL w1.heap.size v acc wr ∧ Below w1.heap.size w1 wr) (fun _ i _ => ps.length - (intOf i).toNat)
    case atStart => exact ⟨0, [], by omega, rfl, by simp, rfl, OwnL.nil _ _, Below.refl _ _⟩
    case round =>
      obtain ⟨k, acc, hk, rfl, hal, hacc, hown, hb⟩ := hrel
      have HACC := Lib.hid hacc
      have HOWN := Lib.hid hown
      have HB := Lib.hid hb
      clear hacc hown hb
      by_cases hlt : k < ps.length
      · obtain ⟨bb, oo, hbe, hbl, hcell⟩ := HRC.out.resolve_left (by omega)
        injection hbe with hbe
        injection hbe with h1 h2 h3
        subst h1 h2
        have c0 : wr.cell? ⟨b, 0 + k, none⟩ = some (.string (str ps[k])) := by rw [below_at HB.out hbl]; exact hcell k hlt
        rw [Nat.zero_add] at c0
        have HST : Hid ((ps.take (k + 1)).flatMap (qgo []) = acc ++ qgo [] ps[k]) := by show _ = _; rw [flatMap_take _ _ _ hlt, HACC.out]
        have hpk := HPS.out _ (List.getElem_mem hlt)
        have HQL : Hid (∀ u : World, Calls Tryd.prog 52 #[.string (str ps[k])] u (LettersRet' (qgo [] ps[k]) u)) := fun u => by
          have := quotedLines_any (str ps[k]) u (by rw [str_list]; exact HFR.out _ (List.getElem_mem hlt)) (by rw [str_size]; omega)
          rw [str_list] at this; exact this
        have hql := (qgo_count ps[k] []).1
        clear hcell
        generalize qgo [] ps[k] = ls at *
        generalize str ps[k] = x at *
        go_wp2_with fail
        refine (HQL.out _).mono ?_
        rintro e w2 ⟨v2, rfl, ho2, hb2⟩
        have hO2 := HOWN.out.keep hb2
        have hB2 := nx HB.out hb2
        have hsz := hB2.size
        go_wp2_with (at_builtin; refine wpList_append_LL rfl _ _ rfl w1.heap.size _ _ _ acc ls rfl rfl hO2 ho2 hsz (by omega) ?_)
        intro v' w3 ho3 hb3
        go_wp2
        go_roundw
        case rel => exact ⟨k + 1, _, by omega, by go_num, by rw [List.length_append]; omega, HST.out.symm, ho3, hB2.trans hb3⟩
        case measure => simp [intOf]; omega
      · have HE : Hid (encQ s.data.toList = some acc) := by show _ = _; rw [HN.out, HACC.out, List.take_of_length_le (by omega)]
        go_wp2
        go_ret2
        exact encRet_some HE.out (HOWN.out.base HB1.out.size) (nx HB1.out HB.out)
set_option maxRecDepth 100000 in
set_option maxHeartbeats 1000000 in
theorem l5Byte_any (c : UInt8) (last : Bool) (w : World) : Calls Tryd.prog 53 #[.int .u8 c.toNat, .bool last] w fun e w' => e = .returned (.string (str (qb c last))) ∧ Below w.heap.size w w' := by
  have hcv := conv_oneC w c
  have HC1 : Hid (plainB c last = true → (ByteArray.mk #[c]) = str (qb c last)) := fun h => by unfold qb; rw [h]; rfl
  have HC2 : Hid (plainB c last = false → hexL c = qb c last) := fun h => by unfold qb; rw [h]; rfl
  by_cases h33 : 33 ≤ c.toNat
  · have h32 : c ≠ 32 := by intro e; rw [e] at h33; exact absurd h33 (by decide)
    have e32 := beq_f h32 (n := 32) rfl
    by_cases h126 : c.toNat ≤ 126
    · by_cases h61 : c = 61
      · have e61 := bneq_f h61 (n := 61) rfl
        have HP := Lib.hid (HC2.out (plainB_f (c := c) (last := last) (by rintro (h | h); exact h.2.2 h61; exact h32 h.1)))
        clear h61 h32 hcv
        go_enter Tryd.func53, Tryd.ntmps53
        go_wp2_with fail
        refine (l5Hex_any c _).mono ?_
        rintro e w1 ⟨rfl, hb1⟩
        go_wp2
        go_ret
        exact ⟨ret_str (by rw [HP.out]), hb1⟩
      · have e61 := bneq_t h61 (n := 61) rfl
        have HP := Lib.hid (HC1.out (plainB_t (c := c) (last := last) (.inl ⟨h33, h126, h61⟩)))
        clear h61 h32
        go_enter Tryd.func53, Tryd.ntmps53
        go_wp2
        go_ret
        exact ⟨ret_str HP.out, (Below.refl _ _).alloc (Nat.le_refl _) _⟩
    · have HP := Lib.hid (HC2.out (plainB_f (c := c) (last := last) (by rintro (h | h); exact h126 h.2.1; exact h32 h.1)))
      clear h32 hcv
      go_enter Tryd.func53, Tryd.ntmps53
      go_wp2_with fail
      refine (l5Hex_any c _).mono ?_
      rintro e w1 ⟨rfl, hb1⟩
      go_wp2
      go_ret
      exact ⟨ret_str (by rw [HP.out]), hb1⟩
  · by_cases h32 : c = 32
    · have e32 := beq_t h32 (n := 32) rfl
      cases last
      · have HP := Lib.hid (HC1.out (plainB_t (c := c) (last := false) (.inr ⟨h32, rfl⟩)))
        clear h32
        go_enter Tryd.func53, Tryd.ntmps53
        go_wp2
        go_ret
        exact ⟨ret_str HP.out, (Below.refl _ _).alloc (Nat.le_refl _) _⟩
      · have HP := Lib.hid (HC2.out (plainB_f (c := c) (last := true) (by rintro (h | h); exact h33 h.1; cases h.2)))
        clear h32 hcv
        go_enter Tryd.func53, Tryd.ntmps53
        go_wp2_with fail
        refine (l5Hex_any c _).mono ?_
        rintro e w1 ⟨rfl, hb1⟩
        go_wp2
        go_ret
        exact ⟨ret_str (by rw [HP.out]), hb1⟩
    · have e32 := beq_f h32 (n := 32) rfl
      have HP := Lib.hid (HC2.out (plainB_f (c := c) (last := last) (by rintro (h | h); exact h33 h.1; exact h32 h.1)))
      clear h32 hcv
      go_enter Tryd.func53, Tryd.ntmps53
      go_wp2_with fail
      refine (l5Hex_any c _).mono ?_
      rintro e w1 ⟨rfl, hb1⟩
      go_wp2
      go_ret
      exact ⟨ret_str (by rw [HP.out]), hb1⟩
theorem lastB_at (s : ByteArray) (k : Nat) (hk : k < s.size) : lastB (s.data.toList.drop (k + 1)) = (decide (k + 1 = s.size) || if h : k + 1 < s.size then decide (s[k + 1] = 10) else false) := by
  by_cases h : k + 1 < s.size
  · rw [drop_at s (k + 1) h, decide_eq_false (by omega), dif_pos h]; rfl
  · rw [drop_out s (k + 1) (by omega), decide_eq_true (by omega)]; rfl
set_option maxRecDepth 100000 in
set_option maxHeartbeats 4000000 in
theorem encodeQuotedS_any (s : ByteArray) (w : World) (hs : s.size ≤ 1073741000) :
    Calls Tryd.prog 21 #[.string s] w (EncRet (encQ s.data.toList) w) := by
  obtain ⟨i0, hi, hz0, hz1, hz2⟩ := info_parts sInfo
  by_cases h300 : 300 < s.size
  · have HN : Hid (encQ s.data.toList = none) := encQ_out (by rw [size_list]; exact h300)
    go_enter Tryd.func21, Tryd.ntmps21
    go_wp2
    go_ret2
    exact encRet_none HN.out (OwnL.empty w) ((Below.refl _ _).alloc (Nat.le_refl _) _)
  · have HN : Hid (encQ s.data.toList = some (qgo [] s.data.toList)) := encQ_in (by rw [size_list]; omega)
    have h300' : s.size ≤ 300 := by omega
    go_enter Tryd.func21, Tryd.ntmps21
    go_wp2_with fail
    go_loopw [4, 5, 6] (fun v l i wr => ∃ (k : Nat) (acc : List (List UInt8)) (line : List UInt8), k ≤ s.size ∧ i = .int .i64 k ∧ l = .string (str line) ∧ line.length ≤ 39 ∧ acc.length ≤ k ∧ qgo [] s.data.toList = acc ++ qgo line (s.data.toList.drop k) ∧ OwnL w.heap.size v acc wr ∧ Below w.heap.size w wr) (fun _ _ i _ => s.size - (intOf i).toNat)
    case atStart => exact ⟨0, [], [], by omega, rfl, rfl, by simp, by simp, rfl, OwnL.empty w, (Below.refl _ _).alloc (Nat.le_refl _) _⟩
    case round =>
      obtain ⟨k, acc, line, hk, rfl, rfl, hll, hal, hg, hown, hb⟩ := hrel
      have HG := Lib.hid hg
      have HOWN := Lib.hid hown
      have HB := Lib.hid hb
      have hbs := hb.size
      have hlz := str_size line
      clear hg hown hb
      by_cases hlt : k < s.size
      · have HGK : Hid (qgo [] s.data.toList = acc ++ qgo line (s[k] :: s.data.toList.drop (k + 1))) := by show _ = _; rw [HG.out, drop_at s k hlt]
        by_cases h10 : s[k] = 10
        · have e10 := beq_t h10 (n := 10) rfl
          have HE : Hid (qgo [] s.data.toList = (acc ++ [(str line).data.toList]) ++ qgo [] (s.data.toList.drop (k + 1))) := by
            show _ = _; rw [HGK.out, h10, qgo_line, str_list]; simp
          have hown2 := HOWN.out
          unfold OwnL at hown2
          clear h10
          generalize str line = px at *
          go_wp2_with (at_builtin; refine wpList_append_own _ rfl _ _ 22 rfl w.heap.size 9 i0 (.string ⟨#[]⟩) 1 16 Tryd.underlying22 hi hz0 hz1 hz2 rfl (by decide) _ _ _ rfl (World.ownsRow.alloc hown2 _) ⟨wr.heap.size, 0, none⟩ 1 1 [.string px] rfl rfl ?r1 ?r2 ?r3 ?r4 ?r5 ?_)
          case r1 =>
            intro u v hj
            match u, hj with
            | 0, hj => simp at hj; subst hj; simp [Addr.add]
          case r2 => intro u hu; simp at hu; subst hu; rfl
          case r3 => unfold maxLen; omega
          case r4 => omega
          case r5 => simp; omega
          intro v' w3 hown' hgrow _
          have hO3 := own_snoc hown'
          have hb3 : Below w.heap.size wr w3 := ((Below.refl _ _).alloc (by omega) _).grown hgrow (by simp; omega) (fun k hk => (World.ownsRow.lt hown2 k hk).1)
          go_wp2
          go_roundw
          case rel => exact ⟨k + 1, _, [], by omega, by go_num, rfl, by simp, by simp only [List.length_append, List.length_singleton]; omega, HE.out, hO3, HB.out.trans hb3⟩
          case measure => simp [intOf]; omega
        · have e10 := beq_f h10 (n := 10) rfl
          have HN10 := Lib.hid h10
          have HLA := Lib.hid (lastB_at s k hlt)
          clear h10
          by_cases hl : k + 1 = s.size
          · have HLT : Hid (lastB (s.data.toList.drop (k + 1)) = true) := by show _ = _; rw [HLA.out, decide_eq_true hl]; rfl
            have el : (((k : Int) + 1) == (s.size : Int)) = true := by rw [beq_iff_eq]; omega
            clear hl
            have HL5 := Lib.hid (l5Byte_any s[k] true)
            have HQ : Hid (qb s[k] (lastB (s.data.toList.drop (k + 1))) = qb s[k] true) := by show _ = _; rw [HLT.out]
            have hw3 := (qb_len s[k] true).2
            have hwl := str_size (qb s[k] true)
            generalize qb s[k] true = wl at *
            have HEM : Hid ((ByteArray.mk #[]) ++ str wl = str wl) := by show _ = _; rw [show (ByteArray.mk #[]) = str [] from rfl, str_app]; simp
            go_wp2_with fail
            refine wp_region_quietB (W := wr) (by kernel_rfl) (by kernel_rfl) (Below.refl _ _) ?_
            repeat (go_big_quiet_step ((go_at_call 53; exact calls_belowT (HL5.out _))))
            refine wpQuiet_nil ?_
            intro wz hwz
            obtain ⟨x, rfl⟩ := hwz
            have hbx := x.below
            generalize x.val = w9 at *
            have hO2 := HOWN.out.keep hbx
            have hB2 := nx HB.out hbx
            by_cases hfull : 39 < line.length + wl.length
            · have HE : Hid (qgo [] s.data.toList = (acc ++ [(str line ++ (ByteArray.mk #[61])).data.toList]) ++ qgo wl (s.data.toList.drop (k + 1))) := by
                show _ = _
                rw [HGK.out, qgo_full HN10.out (by rw [HQ.out]; exact hfull), HQ.out, Joins.data_append, str_list]; simp
              have hown2 := hO2
              unfold OwnL at hown2
              have hb2s := hB2.size
              go_wp2_with (at_builtin; refine wpList_append_own _ rfl _ _ 22 rfl w.heap.size 9 i0 (.string ⟨#[]⟩) 1 16 Tryd.underlying22 hi hz0 hz1 hz2 rfl (by decide) _ _ _ rfl (World.ownsRow.alloc hown2 _) ⟨w9.heap.size, 0, none⟩ 1 1 [.string (str line ++ (ByteArray.mk #[61]))] rfl rfl ?c1 ?c2 ?c3 ?c4 ?c5 ?_)
              case c1 =>
                intro u v hj
                match u, hj with
                | 0, hj => simp at hj; subst hj; simp [Addr.add]
              case c2 => intro u hu; simp at hu; subst hu; rfl
              case c3 => unfold maxLen; omega
              case c4 => omega
              case c5 => simp; omega
              intro v' w3 hown' hgrow _
              have hO3 := own_snoc hown'
              have hb3 : Below w.heap.size w9 w3 := ((Below.refl _ _).alloc (by omega) _).grown hgrow (by simp; omega) (fun k hk => (World.ownsRow.lt hown2 k hk).1)
              go_wp2
              go_roundw
              case rel => exact ⟨k + 1, _, wl, by omega, by go_num, by first | rfl | (rw [HEM.out]), by omega, by simp only [List.length_append, List.length_singleton]; omega, HE.out, hO3, hB2.trans hb3⟩
              case measure => simp [intOf]; omega
            · have HE : Hid (qgo [] s.data.toList = acc ++ qgo (line ++ wl) (s.data.toList.drop (k + 1))) := by
                show _ = _
                rw [HGK.out, qgo_more HN10.out (by rw [HQ.out]; exact hfull), HQ.out]
              go_wp2
              go_roundw
              case rel => exact ⟨k + 1, _, line ++ wl, by omega, by go_num, by rw [← str_app], by rw [List.length_append]; omega, by omega, HE.out, hO2, hB2⟩
              case measure => simp [intOf]; omega
          · have hl1 : k + 1 < s.size := by omega
            have el : (((k : Int) + 1) == (s.size : Int)) = false := by rw [beq_eq_false_iff_ne]; omega
            have hw1 : IntKind.i64.wrap ((k : Int) + 1) = (k : Int) + 1 := IntWalk.i64_in _ (by omega)
            have hw2 : 0 ≤ (k : Int) + 1 := by omega
            have hw3' : ((k : Int) + 1).toNat = k + 1 := by omega
            have hw4 : (k : Int) + 1 < (s.size : Int) := by omega
            by_cases h11 : s[k + 1] = 10
            · have HLT : Hid (lastB (s.data.toList.drop (k + 1)) = true) := by show _ = _; rw [HLA.out, decide_eq_false hl, dif_pos hl1, decide_eq_true h11]; rfl
              have e11 := beq_t h11 (n := 10) rfl
              clear hl h11
              have HL5 := Lib.hid (l5Byte_any s[k] true)
              have HQ : Hid (qb s[k] (lastB (s.data.toList.drop (k + 1))) = qb s[k] true) := by show _ = _; rw [HLT.out]
              have hw3 := (qb_len s[k] true).2
              have hwl := str_size (qb s[k] true)
              generalize qb s[k] true = wl at *
              have HEM : Hid ((ByteArray.mk #[]) ++ str wl = str wl) := by show _ = _; rw [show (ByteArray.mk #[]) = str [] from rfl, str_app]; simp
              go_wp2_with fail
              refine wp_region_quietB (W := wr) (by kernel_rfl) (by kernel_rfl) (Below.refl _ _) ?_
              repeat (go_big_quiet_step ((go_at_call 53; exact calls_belowT (HL5.out _))))
              refine wpQuiet_nil ?_
              intro wz hwz
              obtain ⟨x, rfl⟩ := hwz
              have hbx := x.below
              generalize x.val = w9 at *
              have hO2 := HOWN.out.keep hbx
              have hB2 := nx HB.out hbx
              by_cases hfull : 39 < line.length + wl.length
              · have HE : Hid (qgo [] s.data.toList = (acc ++ [(str line ++ (ByteArray.mk #[61])).data.toList]) ++ qgo wl (s.data.toList.drop (k + 1))) := by
                  show _ = _
                  rw [HGK.out, qgo_full HN10.out (by rw [HQ.out]; exact hfull), HQ.out, Joins.data_append, str_list]; simp
                have hown2 := hO2
                unfold OwnL at hown2
                have hb2s := hB2.size
                go_wp2_with (at_builtin; refine wpList_append_own _ rfl _ _ 22 rfl w.heap.size 9 i0 (.string ⟨#[]⟩) 1 16 Tryd.underlying22 hi hz0 hz1 hz2 rfl (by decide) _ _ _ rfl (World.ownsRow.alloc hown2 _) ⟨w9.heap.size, 0, none⟩ 1 1 [.string (str line ++ (ByteArray.mk #[61]))] rfl rfl ?c1 ?c2 ?c3 ?c4 ?c5 ?_)
                case c1 =>
                  intro u v hj
                  match u, hj with
                  | 0, hj => simp at hj; subst hj; simp [Addr.add]
                case c2 => intro u hu; simp at hu; subst hu; rfl
                case c3 => unfold maxLen; omega
                case c4 => omega
                case c5 => simp; omega
                intro v' w3 hown' hgrow _
                have hO3 := own_snoc hown'
                have hb3 : Below w.heap.size w9 w3 := ((Below.refl _ _).alloc (by omega) _).grown hgrow (by simp; omega) (fun k hk => (World.ownsRow.lt hown2 k hk).1)
                go_wp2
                go_roundw
                case rel => exact ⟨k + 1, _, wl, by omega, by go_num, by first | rfl | (rw [HEM.out]), by omega, by simp only [List.length_append, List.length_singleton]; omega, HE.out, hO3, hB2.trans hb3⟩
                case measure => simp [intOf]; omega
              · have HE : Hid (qgo [] s.data.toList = acc ++ qgo (line ++ wl) (s.data.toList.drop (k + 1))) := by
                  show _ = _
                  rw [HGK.out, qgo_more HN10.out (by rw [HQ.out]; exact hfull), HQ.out]
                go_wp2
                go_roundw
                case rel => exact ⟨k + 1, _, line ++ wl, by omega, by go_num, by rw [← str_app], by rw [List.length_append]; omega, by omega, HE.out, hO2, hB2⟩
                case measure => simp [intOf]; omega
            · have HLT : Hid (lastB (s.data.toList.drop (k + 1)) = false) := by show _ = _; rw [HLA.out, decide_eq_false hl, dif_pos hl1, decide_eq_false h11]; rfl
              have e11 := beq_f h11 (n := 10) rfl
              clear hl h11
              have HL5 := Lib.hid (l5Byte_any s[k] false)
              have HQ : Hid (qb s[k] (lastB (s.data.toList.drop (k + 1))) = qb s[k] false) := by show _ = _; rw [HLT.out]
              have hw3 := (qb_len s[k] false).2
              have hwl := str_size (qb s[k] false)
              generalize qb s[k] false = wl at *
              have HEM : Hid ((ByteArray.mk #[]) ++ str wl = str wl) := by show _ = _; rw [show (ByteArray.mk #[]) = str [] from rfl, str_app]; simp
              go_wp2_with fail
              refine wp_region_quietB (W := wr) (by kernel_rfl) (by kernel_rfl) (Below.refl _ _) ?_
              repeat (go_big_quiet_step ((go_at_call 53; exact calls_belowT (HL5.out _))))
              refine wpQuiet_nil ?_
              intro wz hwz
              obtain ⟨x, rfl⟩ := hwz
              have hbx := x.below
              generalize x.val = w9 at *
              have hO2 := HOWN.out.keep hbx
              have hB2 := nx HB.out hbx
              by_cases hfull : 39 < line.length + wl.length
              · have HE : Hid (qgo [] s.data.toList = (acc ++ [(str line ++ (ByteArray.mk #[61])).data.toList]) ++ qgo wl (s.data.toList.drop (k + 1))) := by
                  show _ = _
                  rw [HGK.out, qgo_full HN10.out (by rw [HQ.out]; exact hfull), HQ.out, Joins.data_append, str_list]; simp
                have hown2 := hO2
                unfold OwnL at hown2
                have hb2s := hB2.size
                go_wp2_with (at_builtin; refine wpList_append_own _ rfl _ _ 22 rfl w.heap.size 9 i0 (.string ⟨#[]⟩) 1 16 Tryd.underlying22 hi hz0 hz1 hz2 rfl (by decide) _ _ _ rfl (World.ownsRow.alloc hown2 _) ⟨w9.heap.size, 0, none⟩ 1 1 [.string (str line ++ (ByteArray.mk #[61]))] rfl rfl ?c1 ?c2 ?c3 ?c4 ?c5 ?_)
                case c1 =>
                  intro u v hj
                  match u, hj with
                  | 0, hj => simp at hj; subst hj; simp [Addr.add]
                case c2 => intro u hu; simp at hu; subst hu; rfl
                case c3 => unfold maxLen; omega
                case c4 => omega
                case c5 => simp; omega
                intro v' w3 hown' hgrow _
                have hO3 := own_snoc hown'
                have hb3 : Below w.heap.size w9 w3 := ((Below.refl _ _).alloc (by omega) _).grown hgrow (by simp; omega) (fun k hk => (World.ownsRow.lt hown2 k hk).1)
                go_wp2
                go_roundw
                case rel => exact ⟨k + 1, _, wl, by omega, by go_num, by first | rfl | (rw [HEM.out]), by omega, by simp only [List.length_append, List.length_singleton]; omega, HE.out, hO3, hB2.trans hb3⟩
                case measure => simp [intOf]; omega
              · have HE : Hid (qgo [] s.data.toList = acc ++ qgo (line ++ wl) (s.data.toList.drop (k + 1))) := by
                  show _ = _
                  rw [HGK.out, qgo_more HN10.out (by rw [HQ.out]; exact hfull), HQ.out]
                go_wp2
                go_roundw
                case rel => exact ⟨k + 1, _, line ++ wl, by omega, by go_num, by rw [← str_app], by rw [List.length_append]; omega, by omega, HE.out, hO2, hB2⟩
                case measure => simp [intOf]; omega
      · have HE : Hid (encQ s.data.toList = some (acc ++ [(str line).data.toList])) := by show _ = _; rw [HN.out, HG.out, drop_out s k (by omega), qgo_nil, str_list]
        have hown2 := HOWN.out
        unfold OwnL at hown2
        have HB2 := Lib.hid HB.out
        generalize str line = px at *
        go_wp2_with (at_builtin; refine wpList_append_own _ rfl _ _ 22 rfl w.heap.size 9 i0 (.string ⟨#[]⟩) 1 16 Tryd.underlying22 hi hz0 hz1 hz2 rfl (by decide) _ _ _ rfl (World.ownsRow.alloc hown2 _) ⟨wr.heap.size, 0, none⟩ 1 1 [.string px] rfl rfl ?r1 ?r2 ?r3 ?r4 ?r5 ?_)
        case r1 =>
          intro u v hj
          match u, hj with
          | 0, hj => simp at hj; subst hj; simp [Addr.add]
        case r2 => intro u hu; simp at hu; subst hu; rfl
        case r3 => unfold maxLen; omega
        case r4 => omega
        case r5 => simp; omega
        intro v' w3 hown' hgrow _
        have hO3 := own_snoc hown'
        have hb3 : Below w.heap.size wr w3 := ((Below.refl _ _).alloc (by omega) _).grown hgrow (by simp; omega) (fun k hk => (World.ownsRow.lt hown2 k hk).1)
        go_wp2
        go_ret2
        exact encRet_some HE.out hO3 (HB2.out.trans hb3)
end Go.Proofs.YtjnpkmenlecdmabDoor
