/-
  Codes of bytes: quoted lines written: what the program's functions return. No statement is proved here.
-/
import Derived.Test.YtjnpkmenlecdmabCodR
import Derived.Test.YtjnpkmenlecdmabRowL
import Derived.Test.YtjnpkmenlecdmabQuietB
import Derived.RegionTactic
import Derived.ChangeAlike
import Derived.Outline
namespace Go.Proofs.Ytjnpkmenlecdmab
open Go.RowKit

theorem hex_at {n : Nat} (h : n < 16) (h' : n < (ByteArray.mk #[48, 49, 50, 51, 52, 53, 54, 55, 56, 57, 65, 66, 67, 68, 69, 70]).size) : (ByteArray.mk #[48, 49, 50, 51, 52, 53, 54, 55, 56, 57, 65, 66, 67, 68, 69, 70])[n] = hexC n := by
  have key : ∀ n, (h : n < 16) → (ByteArray.mk #[48, 49, 50, 51, 52, 53, 54, 55, 56, 57, 65, 66, 67, 68, 69, 70])[n]'h = hexC n := by decide +kernel
  exact key n h
theorem plainB_t {c : UInt8} {last : Bool} (h : (33 ≤ c.toNat ∧ c.toNat ≤ 126 ∧ c ≠ 61) ∨ (c = 32 ∧ last = false)) : plainB c last = true := by
  unfold plainB; simp only [Bool.or_eq_true, Bool.and_eq_true, decide_eq_true_eq, Bool.not_eq_true']
  rcases h with ⟨a, b, c⟩ | h
  · exact .inl ⟨⟨a, b⟩, c⟩
  · exact .inr h
theorem plainB_f {c : UInt8} {last : Bool} (h : ¬ ((33 ≤ c.toNat ∧ c.toNat ≤ 126 ∧ c ≠ 61) ∨ (c = 32 ∧ last = false))) : plainB c last = false := by
  cases hp : plainB c last
  · rfl
  · exfalso; apply h
    unfold plainB at hp; simp only [Bool.or_eq_true, Bool.and_eq_true, decide_eq_true_eq, Bool.not_eq_true'] at hp
    rcases hp with ⟨⟨a, b⟩, c⟩ | h
    · exact .inl ⟨a, b, c⟩
    · exact .inr h
theorem conv_oneC (w : World) (c : UInt8) : (convert 22 9 (.slice (some ⟨w.heap.size, 0, none⟩) 1 1)).run Try.prog (w.alloc (.cells #[.int .u8 c.toNat] 5)) = .ok (.string ⟨#[c]⟩) (w.alloc (.cells #[.int .u8 c.toNat] 5)) :=
  run_convert_bytes_back (P := Try.prog) (w.alloc (.cells #[.int .u8 (c.toNat : Int)] 5)) 22 9 5 ⟨w.heap.size, 0, none⟩ 1 [c] Try.underlying22 Try.underlying5 Try.underlying9 (fun j hj => by
    obtain rfl : j = 0 := by simpa using hj
    rw [add0, World.cell?_alloc_at _ _ _ _ rfl]; rfl)
theorem hexD_ext {n : Nat} (h : n < 16) : (ByteArray.mk #[48, 49, 50, 51, 52, 53, 54, 55, 56, 57, 65, 66, 67, 68, 69, 70]).extract n (n + 1) = str [hexC n] := by
  have key : ∀ n, n < 16 → ((ByteArray.mk #[48, 49, 50, 51, 52, 53, 54, 55, 56, 57, 65, 66, 67, 68, 69, 70]).extract n (n + 1)).data.toList = [hexC n] := by decide +kernel
  apply bytes_ext; rw [key n h, str_list]
theorem l5Hex_any (c : UInt8) (w : World) : Calls Try.prog 42 #[.int .u8 c.toNat] w fun e w' => e = .returned (.string (str (hexL c))) ∧ Below w.heap.size w w' := by
  have hc := c.toNat_lt
  have HX : Hid ((ByteArray.mk #[61]) ++ (ByteArray.mk #[48, 49, 50, 51, 52, 53, 54, 55, 56, 57, 65, 66, 67, 68, 69, 70]).extract (c.toNat / 16) (c.toNat / 16 + 1) ++ (ByteArray.mk #[48, 49, 50, 51, 52, 53, 54, 55, 56, 57, 65, 66, 67, 68, 69, 70]).extract (c.toNat % 16) (c.toNat % 16 + 1) = str (hexL c)) := by
    show _ = _
    rw [hexD_ext (by omega), hexD_ext (by omega), show (ByteArray.mk #[61]) = str [61] from rfl, str_app, str_app]; rfl
  have hz : (ByteArray.mk #[48, 49, 50, 51, 52, 53, 54, 55, 56, 57, 65, 66, 67, 68, 69, 70]).size = 16 := rfl
  have hz1 : (ByteArray.mk #[61]).size = 1 := rfl
  have b1 : (c.toNat : Int) / 16 < 16 := by omega
  have b2 : 0 ≤ (c.toNat : Int) / 16 := by omega
  have b3 : (c.toNat : Int) % 16 < 16 := by omega
  have b4 : 0 ≤ (c.toNat : Int) % 16 := by omega
  have b7 : bits .and .u8 (c.toNat : Int) 15 = (c.toNat : Int) % 16 := bits_mask .u8 8 (by decide) wraps_u8 4 (by decide) _ (by omega) (by omega)
  go_enter Try.func42, Try.ntmps42
  go_wp2
  go_quiet (fail)
  go_wp2
  go_ret
  exact ⟨ret_str HX.out, below_drewN (Below.refl _ _) _⟩
set_option maxRecDepth 100000 in
set_option maxHeartbeats 1000000 in
theorem l5Byte_any (c : UInt8) (last : Bool) (w : World) : Calls Try.prog 30 #[.int .u8 c.toNat, .bool last] w fun e w' => e = .returned (.string (str (qb c last))) ∧ Below w.heap.size w w' := by
  have hcv := conv_oneC w c
  have HC1 : Hid (plainB c last = true → (ByteArray.mk #[c]) = str (qb c last)) := fun h => by unfold qb; rw [h]; rfl
  have HC2 : Hid (plainB c last = false → hexL c = qb c last) := fun h => by unfold qb; rw [h]; rfl
  by_cases h33 : 33 ≤ c.toNat
  · have h32 : c ≠ 32 := by intro e; rw [e] at h33; exact absurd h33 (by decide)
    have e32 := beq_f h32 (n := 32) rfl
    by_cases h126 : c.toNat ≤ 126
    · by_cases h61 : c = 61
      · have e61 := bneq_f h61 (n := 61) rfl
        have HP := Lib.hid (HC2.out (plainB_f (c := c) (last := last) (by rintro (h | h); exact h.2.2 h61; exact h32 h.1)))
        clear h61 h32 hcv
        go_enter Try.func30, Try.ntmps30
        go_wp2_with fail
        refine (l5Hex_any c _).mono ?_
        rintro e w1 ⟨rfl, hb1⟩
        go_wp2
        go_ret
        exact ⟨ret_str (by rw [HP.out]), hb1⟩
      · have e61 := bneq_t h61 (n := 61) rfl
        have HP := Lib.hid (HC1.out (plainB_t (c := c) (last := last) (.inl ⟨h33, h126, h61⟩)))
        clear h61 h32
        go_enter Try.func30, Try.ntmps30
        go_wp2
        go_ret
        exact ⟨ret_str HP.out, (Below.refl _ _).alloc (Nat.le_refl _) _⟩
    · have HP := Lib.hid (HC2.out (plainB_f (c := c) (last := last) (by rintro (h | h); exact h126 h.2.1; exact h32 h.1)))
      clear h32 hcv
      go_enter Try.func30, Try.ntmps30
      go_wp2_with fail
      refine (l5Hex_any c _).mono ?_
      rintro e w1 ⟨rfl, hb1⟩
      go_wp2
      go_ret
      exact ⟨ret_str (by rw [HP.out]), hb1⟩
  · by_cases h32 : c = 32
    · have e32 := beq_t h32 (n := 32) rfl
      cases last
      · have HP := Lib.hid (HC1.out (plainB_t (c := c) (last := false) (.inr ⟨h32, rfl⟩)))
        clear h32
        go_enter Try.func30, Try.ntmps30
        go_wp2
        go_ret
        exact ⟨ret_str HP.out, (Below.refl _ _).alloc (Nat.le_refl _) _⟩
      · have HP := Lib.hid (HC2.out (plainB_f (c := c) (last := true) (by rintro (h | h); exact h33 h.1; cases h.2)))
        clear h32 hcv
        go_enter Try.func30, Try.ntmps30
        go_wp2_with fail
        refine (l5Hex_any c _).mono ?_
        rintro e w1 ⟨rfl, hb1⟩
        go_wp2
        go_ret
        exact ⟨ret_str (by rw [HP.out]), hb1⟩
    · have e32 := beq_f h32 (n := 32) rfl
      have HP := Lib.hid (HC2.out (plainB_f (c := c) (last := last) (by rintro (h | h); exact h33 h.1; exact h32 h.1)))
      clear h32 hcv
      go_enter Try.func30, Try.ntmps30
      go_wp2_with fail
      refine (l5Hex_any c _).mono ?_
      rintro e w1 ⟨rfl, hb1⟩
      go_wp2
      go_ret
      exact ⟨ret_str (by rw [HP.out]), hb1⟩
theorem lastB_at (s : ByteArray) (k : Nat) (hk : k < s.size) : lastB (s.data.toList.drop (k + 1)) = (decide (k + 1 = s.size) || if h : k + 1 < s.size then decide (s[k + 1] = 10) else false) := by
  by_cases h : k + 1 < s.size
  · rw [drop_at s (k + 1) h, decide_eq_false (by omega), dif_pos h]; rfl
  · rw [drop_out s (k + 1) (by omega), decide_eq_true (by omega)]; rfl
set_option maxRecDepth 100000 in
set_option maxHeartbeats 4000000 in
theorem encodeQuotedS_any (s : ByteArray) (w : World) (hs : s.size ≤ 1073741000) :
    Calls Try.prog 15 #[.string s] w (EncRet (encQ s.data.toList) w) := by
  obtain ⟨i0, hi, hz0, hz1, hz2⟩ := info_parts sInfo
  by_cases h300 : 300 < s.size
  · have HN : Hid (encQ s.data.toList = none) := encQ_out (by rw [size_list]; exact h300)
    go_enter Try.func15, Try.ntmps15
    go_wp2
    go_ret2
    exact encRet_none HN.out (OwnL.empty w) ((Below.refl _ _).alloc (Nat.le_refl _) _)
  · have HN : Hid (encQ s.data.toList = some (qgo [] s.data.toList)) := encQ_in (by rw [size_list]; omega)
    have h300' : s.size ≤ 300 := by omega
    go_enter Try.func15, Try.ntmps15
    go_wp2_with fail
    go_loopw [4, 5, 6] (fun v l i wr => ∃ (k : Nat) (acc : List (List UInt8)) (line : List UInt8), k ≤ s.size ∧ i = .int .i64 k ∧ l = .string (str line) ∧ line.length ≤ 39 ∧ acc.length ≤ k ∧ qgo [] s.data.toList = acc ++ qgo line (s.data.toList.drop k) ∧ OwnL w.heap.size v acc wr ∧ Below w.heap.size w wr) (fun _ _ i _ => s.size - (intOf i).toNat)
    case atStart => exact ⟨0, [], [], by omega, rfl, rfl, by simp, by simp, rfl, OwnL.empty w, (Below.refl _ _).alloc (Nat.le_refl _) _⟩
    case round =>
      obtain ⟨k, acc, line, hk, rfl, rfl, hll, hal, hg, hown, hb⟩ := hrel
      have HG := Lib.hid hg
      have HOWN := Lib.hid hown
      have HB := Lib.hid hb
      have hbs := hb.size
      have hlz := str_size line
      clear hg hown hb
      by_cases hlt : k < s.size
      · have HGK : Hid (qgo [] s.data.toList = acc ++ qgo line (s[k] :: s.data.toList.drop (k + 1))) := by show _ = _; rw [HG.out, drop_at s k hlt]
        by_cases h10 : s[k] = 10
        · have e10 := beq_t h10 (n := 10) rfl
          have HE : Hid (qgo [] s.data.toList = (acc ++ [(str line).data.toList]) ++ qgo [] (s.data.toList.drop (k + 1))) := by
            show _ = _; rw [HGK.out, h10, qgo_line, str_list]; simp
          have hown2 := HOWN.out
          unfold OwnL at hown2
          clear h10
          generalize str line = px at *
          go_wp2_with (at_builtin; refine wpList_append_own _ rfl _ _ 23 rfl w.heap.size 9 i0 (.string ⟨#[]⟩) 1 16 Try.underlying23 hi hz0 hz1 hz2 rfl (by decide) _ _ _ rfl (World.ownsRow.alloc hown2 _) ⟨wr.heap.size, 0, none⟩ 1 1 [.string px] rfl rfl ?r1 ?r2 ?r3 ?r4 ?r5 ?_)
          case r1 =>
            intro u v hj
            match u, hj with
            | 0, hj => simp at hj; subst hj; simp [Addr.add]
          case r2 => intro u hu; simp at hu; subst hu; rfl
          case r3 => unfold maxLen; omega
          case r4 => omega
          case r5 => simp; omega
          intro v' w3 hown' hgrow _
          have hO3 := own_snoc hown'
          have hb3 : Below w.heap.size wr w3 := ((Below.refl _ _).alloc (by omega) _).grown hgrow (by simp; omega) (fun k hk => (World.ownsRow.lt hown2 k hk).1)
          go_wp2
          go_roundw
          case rel => exact ⟨k + 1, _, [], by omega, by go_num, rfl, by simp, by simp only [List.length_append, List.length_singleton]; omega, HE.out, hO3, HB.out.trans hb3⟩
          case measure => simp [intOf]; omega
        · have e10 := beq_f h10 (n := 10) rfl
          have HN10 := Lib.hid h10
          have HLA := Lib.hid (lastB_at s k hlt)
          clear h10
          by_cases hl : k + 1 = s.size
          · have HLT : Hid (lastB (s.data.toList.drop (k + 1)) = true) := by show _ = _; rw [HLA.out, decide_eq_true hl]; rfl
            have el : (((k : Int) + 1) == (s.size : Int)) = true := by rw [beq_iff_eq]; omega
            clear hl
            have HL5 := Lib.hid (l5Byte_any s[k] true)
            have HQ : Hid (qb s[k] (lastB (s.data.toList.drop (k + 1))) = qb s[k] true) := by show _ = _; rw [HLT.out]
            have hw3 := (qb_len s[k] true).2
            have hwl := str_size (qb s[k] true)
            generalize qb s[k] true = wl at *
            have HEM : Hid ((ByteArray.mk #[]) ++ str wl = str wl) := by show _ = _; rw [show (ByteArray.mk #[]) = str [] from rfl, str_app]; simp
            go_wp2_with fail
            refine wp_region_quietB (W := wr) (by kernel_rfl) (by kernel_rfl) (Below.refl _ _) ?_
            repeat (go_big_quiet_step ((go_at_call 30; exact calls_belowT (HL5.out _))))
            refine wpQuiet_nil ?_
            intro wz hwz
            obtain ⟨x, rfl⟩ := hwz
            have hbx := x.below
            generalize x.val = w9 at *
            have hO2 := HOWN.out.keep hbx
            have hB2 := nx HB.out hbx
            by_cases hfull : 39 < line.length + wl.length
            · have HE : Hid (qgo [] s.data.toList = (acc ++ [(str line ++ (ByteArray.mk #[61])).data.toList]) ++ qgo wl (s.data.toList.drop (k + 1))) := by
                show _ = _
                rw [HGK.out, qgo_full HN10.out (by rw [HQ.out]; exact hfull), HQ.out, Joins.data_append, str_list]; simp
              have hown2 := hO2
              unfold OwnL at hown2
              have hb2s := hB2.size
              go_wp2_with (at_builtin; refine wpList_append_own _ rfl _ _ 23 rfl w.heap.size 9 i0 (.string ⟨#[]⟩) 1 16 Try.underlying23 hi hz0 hz1 hz2 rfl (by decide) _ _ _ rfl (World.ownsRow.alloc hown2 _) ⟨w9.heap.size, 0, none⟩ 1 1 [.string (str line ++ (ByteArray.mk #[61]))] rfl rfl ?c1 ?c2 ?c3 ?c4 ?c5 ?_)
              case c1 =>
                intro u v hj
                match u, hj with
                | 0, hj => simp at hj; subst hj; simp [Addr.add]
              case c2 => intro u hu; simp at hu; subst hu; rfl
              case c3 => unfold maxLen; omega
              case c4 => omega
              case c5 => simp; omega
              intro v' w3 hown' hgrow _
              have hO3 := own_snoc hown'
              have hb3 : Below w.heap.size w9 w3 := ((Below.refl _ _).alloc (by omega) _).grown hgrow (by simp; omega) (fun k hk => (World.ownsRow.lt hown2 k hk).1)
              go_wp2
              go_roundw
              case rel => exact ⟨k + 1, _, wl, by omega, by go_num, by first | rfl | (rw [HEM.out]), by omega, by simp only [List.length_append, List.length_singleton]; omega, HE.out, hO3, hB2.trans hb3⟩
              case measure => simp [intOf]; omega
            · have HE : Hid (qgo [] s.data.toList = acc ++ qgo (line ++ wl) (s.data.toList.drop (k + 1))) := by
                show _ = _
                rw [HGK.out, qgo_more HN10.out (by rw [HQ.out]; exact hfull), HQ.out]
              go_wp2
              go_roundw
              case rel => exact ⟨k + 1, _, line ++ wl, by omega, by go_num, by rw [← str_app], by rw [List.length_append]; omega, by omega, HE.out, hO2, hB2⟩
              case measure => simp [intOf]; omega
          · have hl1 : k + 1 < s.size := by omega
            have el : (((k : Int) + 1) == (s.size : Int)) = false := by rw [beq_eq_false_iff_ne]; omega
            have hw1 : IntKind.i64.wrap ((k : Int) + 1) = (k : Int) + 1 := IntWalk.i64_in _ (by omega)
            have hw2 : 0 ≤ (k : Int) + 1 := by omega
            have hw3' : ((k : Int) + 1).toNat = k + 1 := by omega
            have hw4 : (k : Int) + 1 < (s.size : Int) := by omega
            by_cases h11 : s[k + 1] = 10
            · have HLT : Hid (lastB (s.data.toList.drop (k + 1)) = true) := by show _ = _; rw [HLA.out, decide_eq_false hl, dif_pos hl1, decide_eq_true h11]; rfl
              have e11 := beq_t h11 (n := 10) rfl
              clear hl h11
              have HL5 := Lib.hid (l5Byte_any s[k] true)
              have HQ : Hid (qb s[k] (lastB (s.data.toList.drop (k + 1))) = qb s[k] true) := by show _ = _; rw [HLT.out]
              have hw3 := (qb_len s[k] true).2
              have hwl := str_size (qb s[k] true)
              generalize qb s[k] true = wl at *
              have HEM : Hid ((ByteArray.mk #[]) ++ str wl = str wl) := by show _ = _; rw [show (ByteArray.mk #[]) = str [] from rfl, str_app]; simp
              go_wp2_with fail
              refine wp_region_quietB (W := wr) (by kernel_rfl) (by kernel_rfl) (Below.refl _ _) ?_
              repeat (go_big_quiet_step ((go_at_call 30; exact calls_belowT (HL5.out _))))
              refine wpQuiet_nil ?_
              intro wz hwz
              obtain ⟨x, rfl⟩ := hwz
              have hbx := x.below
              generalize x.val = w9 at *
              have hO2 := HOWN.out.keep hbx
              have hB2 := nx HB.out hbx
              by_cases hfull : 39 < line.length + wl.length
              · have HE : Hid (qgo [] s.data.toList = (acc ++ [(str line ++ (ByteArray.mk #[61])).data.toList]) ++ qgo wl (s.data.toList.drop (k + 1))) := by
                  show _ = _
                  rw [HGK.out, qgo_full HN10.out (by rw [HQ.out]; exact hfull), HQ.out, Joins.data_append, str_list]; simp
                have hown2 := hO2
                unfold OwnL at hown2
                have hb2s := hB2.size
                go_wp2_with (at_builtin; refine wpList_append_own _ rfl _ _ 23 rfl w.heap.size 9 i0 (.string ⟨#[]⟩) 1 16 Try.underlying23 hi hz0 hz1 hz2 rfl (by decide) _ _ _ rfl (World.ownsRow.alloc hown2 _) ⟨w9.heap.size, 0, none⟩ 1 1 [.string (str line ++ (ByteArray.mk #[61]))] rfl rfl ?c1 ?c2 ?c3 ?c4 ?c5 ?_)
                case c1 =>
                  intro u v hj
                  match u, hj with
                  | 0, hj => simp at hj; subst hj; simp [Addr.add]
                case c2 => intro u hu; simp at hu; subst hu; rfl
                case c3 => unfold maxLen; omega
                case c4 => omega
                case c5 => simp; omega
                intro v' w3 hown' hgrow _
                have hO3 := own_snoc hown'
                have hb3 : Below w.heap.size w9 w3 := ((Below.refl _ _).alloc (by omega) _).grown hgrow (by simp; omega) (fun k hk => (World.ownsRow.lt hown2 k hk).1)
                go_wp2
                go_roundw
                case rel => exact ⟨k + 1, _, wl, by omega, by go_num, by first | rfl | (rw [HEM.out]), by omega, by simp only [List.length_append, List.length_singleton]; omega, HE.out, hO3, hB2.trans hb3⟩
                case measure => simp [intOf]; omega
              · have HE : Hid (qgo [] s.data.toList = acc ++ qgo (line ++ wl) (s.data.toList.drop (k + 1))) := by
                  show _ = _
                  rw [HGK.out, qgo_more HN10.out (by rw [HQ.out]; exact hfull), HQ.out]
                go_wp2
                go_roundw
                case rel => exact ⟨k + 1, _, line ++ wl, by omega, by go_num, by rw [← str_app], by rw [List.length_append]; omega, by omega, HE.out, hO2, hB2⟩
                case measure => simp [intOf]; omega
            · have HLT : Hid (lastB (s.data.toList.drop (k + 1)) = false) := by show _ = _; rw [HLA.out, decide_eq_false hl, dif_pos hl1, decide_eq_false h11]; rfl
              have e11 := beq_f h11 (n := 10) rfl
              clear hl h11
              have HL5 := Lib.hid (l5Byte_any s[k] false)
              have HQ : Hid (qb s[k] (lastB (s.data.toList.drop (k + 1))) = qb s[k] false) := by show _ = _; rw [HLT.out]
              have hw3 := (qb_len s[k] false).2
              have hwl := str_size (qb s[k] false)
              generalize qb s[k] false = wl at *
              have HEM : Hid ((ByteArray.mk #[]) ++ str wl = str wl) := by show _ = _; rw [show (ByteArray.mk #[]) = str [] from rfl, str_app]; simp
              go_wp2_with fail
              refine wp_region_quietB (W := wr) (by kernel_rfl) (by kernel_rfl) (Below.refl _ _) ?_
              repeat (go_big_quiet_step ((go_at_call 30; exact calls_belowT (HL5.out _))))
              refine wpQuiet_nil ?_
              intro wz hwz
              obtain ⟨x, rfl⟩ := hwz
              have hbx := x.below
              generalize x.val = w9 at *
              have hO2 := HOWN.out.keep hbx
              have hB2 := nx HB.out hbx
              by_cases hfull : 39 < line.length + wl.length
              · have HE : Hid (qgo [] s.data.toList = (acc ++ [(str line ++ (ByteArray.mk #[61])).data.toList]) ++ qgo wl (s.data.toList.drop (k + 1))) := by
                  show _ = _
                  rw [HGK.out, qgo_full HN10.out (by rw [HQ.out]; exact hfull), HQ.out, Joins.data_append, str_list]; simp
                have hown2 := hO2
                unfold OwnL at hown2
                have hb2s := hB2.size
                go_wp2_with (at_builtin; refine wpList_append_own _ rfl _ _ 23 rfl w.heap.size 9 i0 (.string ⟨#[]⟩) 1 16 Try.underlying23 hi hz0 hz1 hz2 rfl (by decide) _ _ _ rfl (World.ownsRow.alloc hown2 _) ⟨w9.heap.size, 0, none⟩ 1 1 [.string (str line ++ (ByteArray.mk #[61]))] rfl rfl ?c1 ?c2 ?c3 ?c4 ?c5 ?_)
                case c1 =>
                  intro u v hj
                  match u, hj with
                  | 0, hj => simp at hj; subst hj; simp [Addr.add]
                case c2 => intro u hu; simp at hu; subst hu; rfl
                case c3 => unfold maxLen; omega
                case c4 => omega
                case c5 => simp; omega
                intro v' w3 hown' hgrow _
                have hO3 := own_snoc hown'
                have hb3 : Below w.heap.size w9 w3 := ((Below.refl _ _).alloc (by omega) _).grown hgrow (by simp; omega) (fun k hk => (World.ownsRow.lt hown2 k hk).1)
                go_wp2
                go_roundw
                case rel => exact ⟨k + 1, _, wl, by omega, by go_num, by first | rfl | (rw [HEM.out]), by omega, by simp only [List.length_append, List.length_singleton]; omega, HE.out, hO3, hB2.trans hb3⟩
                case measure => simp [intOf]; omega
              · have HE : Hid (qgo [] s.data.toList = acc ++ qgo (line ++ wl) (s.data.toList.drop (k + 1))) := by
                  show _ = _
                  rw [HGK.out, qgo_more HN10.out (by rw [HQ.out]; exact hfull), HQ.out]
                go_wp2
                go_roundw
                case rel => exact ⟨k + 1, _, line ++ wl, by omega, by go_num, by rw [← str_app], by rw [List.length_append]; omega, by omega, HE.out, hO2, hB2⟩
                case measure => simp [intOf]; omega
      · have HE : Hid (encQ s.data.toList = some (acc ++ [(str line).data.toList])) := by show _ = _; rw [HN.out, HG.out, drop_out s k (by omega), qgo_nil, str_list]
        have hown2 := HOWN.out
        unfold OwnL at hown2
        have HB2 := Lib.hid HB.out
        generalize str line = px at *
        go_wp2_with (at_builtin; refine wpList_append_own _ rfl _ _ 23 rfl w.heap.size 9 i0 (.string ⟨#[]⟩) 1 16 Try.underlying23 hi hz0 hz1 hz2 rfl (by decide) _ _ _ rfl (World.ownsRow.alloc hown2 _) ⟨wr.heap.size, 0, none⟩ 1 1 [.string px] rfl rfl ?r1 ?r2 ?r3 ?r4 ?r5 ?_)
        case r1 =>
          intro u v hj
          match u, hj with
          | 0, hj => simp at hj; subst hj; simp [Addr.add]
        case r2 => intro u hu; simp at hu; subst hu; rfl
        case r3 => unfold maxLen; omega
        case r4 => omega
        case r5 => simp; omega
        intro v' w3 hown' hgrow _
        have hO3 := own_snoc hown'
        have hb3 : Below w.heap.size wr w3 := ((Below.refl _ _).alloc (by omega) _).grown hgrow (by simp; omega) (fun k hk => (World.ownsRow.lt hown2 k hk).1)
        go_wp2
        go_ret2
        exact encRet_some HE.out hO3 (HB2.out.trans hb3)
end Go.Proofs.Ytjnpkmenlecdmab
