/-
  Fields, folded: what the model's functions return. No statement is proved here.
-/
import Derived.Test.YtfjpajeipihlaaaDoorFold
import Derived.Test.YtfjpajeipihlaaaDoorFldS
namespace Go.Proofs.YtfjpajeipihlaaaDoor
open Go.RowKit

set_option maxRecDepth 100000 in
set_option maxHeartbeats 1000000 in
theorem l3Break_any (s : ByteArray) (from0 : Nat) (w : World) (hs : s.size ≤ 1073741824) (hf : 1 ≤ from0) (hf2 : from0 ≤ 1073741824) :
    Calls Tryd.prog 38 #[.string s, .int .i64 from0] w fun e w' => e = .returned (.int .i64 (idxI (brk s.data.toList (from0 + 1)))) ∧ w = w' := by
  go_enter Tryd.func38, Tryd.ntmps38
  go_wp2_with fail
  go_loop [5, 6] (fun p i => ∃ (n j : Nat), j = from0 + 1 + n ∧ (n = 0 ∨ j + 1 ≤ s.size) ∧ i = .int .i64 j ∧ ((p = .int .i64 (-1) ∧ brkTo s.data.toList (from0 + 1) n = none) ∨ ∃ b : Nat, p = .int .i64 b ∧ brkTo s.data.toList (from0 + 1) n = some b)) (fun _ i => s.size - (intOf i).toNat)
  case atStart => exact ⟨0, from0 + 1, rfl, .inl rfl, by go_num, .inl ⟨rfl, rfl⟩⟩
  case round =>
    obtain ⟨n, j, hj, hn, rfl, hb⟩ := hrel
    have HJ := Lib.hid hj
    have hj2 : 2 ≤ j := by omega
    by_cases hlt : (j : Int) + 1 < s.size
    · have h2 : j + 1 < s.size := by omega
      have h3 : j < s.size := by omega
      have h4 : j - 1 < s.size := by omega
      have h5 : 1 ≤ j := by omega
      have HA := Lib.hid (alone_at s j (by omega) h2)
      cases ha : alone s.data.toList j
      · have HN : Hid (brkTo s.data.toList (from0 + 1) (n + 1) = brkTo s.data.toList (from0 + 1) n) := by show _ = _; rw [brkTo_succ, ← hj, best_f ha]
        have ho : s[j] ≠ 32 ∨ (s[j] = 32 ∧ s[j - 1] = 32) ∨ (s[j] = 32 ∧ s[j - 1] ≠ 32 ∧ s[j + 1] = 32) := by
          have := HA.out
          rw [ha] at this
          by_cases g1 : s[j] = 32 <;> by_cases g2 : s[j - 1] = 32 <;> by_cases g3 : s[j + 1] = 32 <;> simp [g1, g2, g3] at this ⊢
        have HB := Lib.hid hb
        clear ha hj hn hb
        rcases ho with g1 | ⟨g1, g2⟩ | ⟨g1, g2, g3⟩
        · have e1 := bneq_t g1 (n := 32) rfl
          clear g1
          go_wp2
          go_round
          case rel => exact ⟨n + 1, j + 1, by have := HJ.out; omega, by omega, by go_num, by rw [HN.out]; exact HB.out⟩
          case measure => simp [intOf]; omega
        · have e1 := bneq_f g1 (n := 32) rfl
          have e2 := beq_t g2 (n := 32) rfl
          clear g1 g2
          go_wp2
          go_round
          case rel => exact ⟨n + 1, j + 1, by have := HJ.out; omega, by omega, by go_num, by rw [HN.out]; exact HB.out⟩
          case measure => simp [intOf]; omega
        · have e1 := bneq_f g1 (n := 32) rfl
          have e2 := beq_f g2 (n := 32) rfl
          have e3 := beq_t g3 (n := 32) rfl
          clear g1 g2 g3
          go_wp2
          go_round
          case rel => exact ⟨n + 1, j + 1, by have := HJ.out; omega, by omega, by go_num, by rw [HN.out]; exact HB.out⟩
          case measure => simp [intOf]; omega
      · have ho : s[j] = 32 ∧ s[j - 1] ≠ 32 ∧ s[j + 1] ≠ 32 := by
          have := HA.out
          rw [ha] at this
          by_cases g1 : s[j] = 32 <;> by_cases g2 : s[j - 1] = 32 <;> by_cases g3 : s[j + 1] = 32 <;> simp [g1, g2, g3] at this ⊢
        obtain ⟨g1, g2, g3⟩ := ho
        have e1 := bneq_f g1 (n := 32) rfl
        have e2 := beq_f g2 (n := 32) rfl
        have e3 := beq_f g3 (n := 32) rfl
        clear g1 g2 g3 hn
        rcases hb with ⟨rfl, hbr⟩ | ⟨b, rfl, hbr⟩
        · have HN : Hid (brkTo s.data.toList (from0 + 1) (n + 1) = some j) := by show _ = _; rw [brkTo_succ, ← hj, best_t ha (.inr hbr)]
          clear ha hj hbr
          by_cases h40 : j ≤ 40
          all_goals
            go_wp2
            go_round
            case rel => exact ⟨n + 1, j + 1, by have := HJ.out; omega, by omega, by go_num, .inr ⟨j, rfl, HN.out⟩⟩
            case measure => simp [intOf]; omega
        · by_cases h40 : j ≤ 40
          · have HN : Hid (brkTo s.data.toList (from0 + 1) (n + 1) = some j) := by show _ = _; rw [brkTo_succ, ← hj, best_t ha (.inl h40)]
            clear ha hj hbr
            go_wp2
            go_round
            case rel => exact ⟨n + 1, j + 1, by have := HJ.out; omega, by omega, by go_num, .inr ⟨j, rfl, HN.out⟩⟩
            case measure => simp [intOf]; omega
          · have HN : Hid (brkTo s.data.toList (from0 + 1) (n + 1) = some b) := by show _ = _; rw [brkTo_succ, ← hj, best_late (by omega) hbr, hbr]
            have hbn : ¬ ((b : Int) < 0) := by omega
            clear ha hj hbr
            go_wp2
            go_round
            case rel => exact ⟨n + 1, j + 1, by have := HJ.out; omega, by omega, by go_num, .inr ⟨b, rfl, HN.out⟩⟩
            case measure => simp [intOf]; omega
    · have HR := Lib.hid (brk_of s (from0 + 1) n (by omega) (by omega))
      have hjb : j ≤ 2147483648 := by omega
      clear hj hn
      rcases hb with ⟨rfl, hbr⟩ | ⟨b, rfl, hbr⟩
      · have HB := Lib.hid hbr
        clear hbr
        go_wp2
        go_ret
        exact ⟨ret_int (by rw [HR.out, HB.out]; rfl), rfl⟩
      · have HB := Lib.hid hbr
        clear hbr
        go_wp2
        go_ret
        exact ⟨ret_int (by rw [HR.out, HB.out]; rfl), rfl⟩
set_option maxRecDepth 100000 in
set_option maxHeartbeats 2000000 in
theorem foldFieldS_any (f : Fld) (w : World) (hf : SmallF 1073741000 f) :
    Calls Tryd.prog 14 #[.agg #[.string (str f.name), .string (str f.val)]] w (RowL (foldF f) w) := by
  obtain ⟨i0, hi, hz0, hz1, hz2⟩ := info_parts sInfo
  have hb0 : Below w.heap.size w (w.alloc (.cells #[.string (str f.name), .string (str f.val)] 24)) := (Below.refl _ _).alloc (Nat.le_refl _) _
  have hb00 := hb0.alloc hb0.size (.cells #[] 9)
  have hown0 : OwnL w.heap.size (.slice (some ⟨w.heap.size + 1, 0, none⟩) 0 0) [] ((w.alloc (.cells #[.string (str f.name), .string (str f.val)] 24)).alloc (.cells #[] 9)) := by
    have := (OwnL.empty (w.alloc (.cells #[.string (str f.name), .string (str f.val)] 24))).base (B' := w.heap.size) (by simp)
    simpa using this
  have HF := Lib.hid hf
  have HFV := Lib.hid (fieldValidS_fld f)
  cases hv : isFld f
  · have HV := Lib.hid hv
    have HN := Lib.hid (foldF_no hv)
    clear hv hf
    generalize str f.name = n at *
    generalize str f.val = v at *
    go_enter Tryd.func14, Tryd.ntmps14
    go_wp2_with fail
    refine (HFV.out _ HF.out).mono ?_
    rintro e w1 ⟨rfl, hb1⟩
    rw [HV.out]
    go_wp2
    go_ret
    exact ⟨_, rfl, by rw [HN.out]; exact hown0.keep hb1, nx hb00 hb1⟩
  · have HV := Lib.hid hv
    have hll := line_len hv
    have hnl := (isFName_iff.1 (isFld_iff.1 hv).1).2.1
    have hvl := (isFld_iff.1 hv).2.2.1
    have HG0 : Hid (foldF f = [] ++ foldL (lineF f) (f.name.length + 3)) := foldF_val hv
    have hzn := str_size f.name
    have hzv := str_size f.val
    have HSH : Hid (f.val = [] → foldF f = [] ++ foldL (lineF f) (f.name.length + 2)) := fun h => by
      have hl : (lineF f).length ≤ 40 := by unfold lineF; rw [if_pos h]; simp; omega
      rw [HG0.out, foldL_short hl, foldL_short hl]
    have HFI : Hid (((f.name.length + 1 : Nat) : Int) = ((str f.name).size : Int) + 1 ∧ ((f.name.length + 2 : Nat) : Int) = ((str f.name).size : Int) + 1 + 1) := by
      show _ ∧ _
      rw [hzn]; exact ⟨by omega, by omega⟩
    clear hv hf
    by_cases hv0 : f.val = []
    all_goals
      first
        | (have HLN := Lib.hid (line_none f hv0); have HGS : Hid (foldF f = [] ++ foldL (lineF f) (f.name.length + 1 + 1)) := HSH.out hv0; have HK : Hid (((f.name.length + 1 : Nat) : Int) = ((str f.name).size : Int) + 1) := HFI.out.1; have hki : f.name.length + 1 ≤ 99 ∧ 1 ≤ f.name.length + 1 := by omega
           generalize f.name.length + 1 = ki at *; have he := empty_t (s := str f.val) (by rw [hzv, hv0]; rfl))
        | (have HLN := Lib.hid (line_val2 f hv0); have HGS : Hid (foldF f = [] ++ foldL (lineF f) (f.name.length + 2 + 1)) := HG0.out; have HK : Hid (((f.name.length + 2 : Nat) : Int) = ((str f.name).size : Int) + 1 + 1) := HFI.out.2; have hki : f.name.length + 2 ≤ 99 ∧ 1 ≤ f.name.length + 2 := by omega
           generalize f.name.length + 2 = ki at *; have he := empty_f (s := str f.val) (by rw [hzv]; exact List.length_pos_iff.2 hv0))
    all_goals
      have hzn1 : (str f.name).size ≤ 30 := by omega
      have hzv1 : (str f.val).size ≤ 150 := by omega
      clear hv0 hzn hzv hvl
      generalize hln : lineF f = ln at *
      have HLN2 := Lib.hid hln
      clear hln hnl HSH HG0 HFI
      generalize str f.name = n at *
      generalize str f.val = v at *
      have hsz1 : (ByteArray.mk #[58]).size = 1 := rfl
      have hsz2 : (ByteArray.mk #[32]).size = 1 := rfl
      have hA1 : (n ++ ⟨#[58]⟩ : ByteArray).size ≤ 40 := by rw [ByteArray.size_append]; omega
      go_enter Tryd.func14, Tryd.ntmps14
      go_wp2_with fail
      refine (HFV.out _ HF.out).mono ?_
      rintro e w1 ⟨rfl, hb1⟩
      rw [HV.out]
      have hbw := nx hb00 hb1
      have hownw := hown0.keep hb1
      obtain ⟨hcB, hfB⟩ := bcell hb1
      go_wp2_with fail
      go_loopw [3, 4, 5] (fun r s q wr => ∃ (acc : List (List UInt8)) (l : List UInt8) (k : Nat), s = .string (str l) ∧ q = .int .i64 k ∧ OwnL w.heap.size r acc wr ∧ foldF f = acc ++ foldL l (k + 1) ∧ 1 ≤ k ∧ k ≤ 99 ∧ l.length ≤ 182 ∧ acc.length + l.length ≤ 182 ∧ Below w.heap.size w wr) (fun _ s _ _ => Lib.strSize s)
      case atStart => exact ⟨[], ln, ki, by rw [← HLN.out], by rw [HK.out], hownw, HGS.out, hki.2, hki.1, hll, by simp; omega, hbw⟩
      case round =>
        obtain ⟨acc, l, k, rfl, rfl, hown, hg, hk1, hk2, hl1, hl2, hb⟩ := hrel
        have HG := Lib.hid hg
        have hown1 := hown
        unfold OwnL at hown1
        have hbs := hb.size
        have hlz := str_size l
        have HLI := Lib.hid (str_list l)
        have HSS : Hid (Lib.strSize (.string (str l)) = l.length) := by show Lib.strSize _ = _; rw [Lib.strSize_string, hlz]
        clear hg
        by_cases h40 : 40 < l.length
        · have h40' : 40 < (str l).size := by omega
          cases hbk : brk l (k + 1) with
          | none =>
            have HE : Hid (foldF f = acc ++ [(str l).data.toList]) := by show _ = _; rw [HG.out, str_list, foldL_stop hbk]
            have HB : Hid (brk (str l).data.toList (k + 1) = none) := by show _ = _; rw [str_list]; exact hbk
            clear hbk
            generalize str l = px at *
            go_wp2_with fail
            refine (l3Break_any px k _ (by omega) hk1 (by omega)).mono ?_
            rintro e w2 ⟨rfl, rfl⟩
            rw [HB.out, idxI_none]
            go_wp2_with (at_builtin; refine wpList_append_own _ rfl _ _ 26 rfl w.heap.size 9 i0 (.string ⟨#[]⟩) 1 16 Tryd.underlying26 hi hz0 hz1 hz2 rfl (by decide) _ _ _ rfl (World.ownsRow.alloc hown1 _) ⟨wr.heap.size, 0, none⟩ 1 1 [.string px] rfl rfl ?q1 ?q2 ?q3 ?q4 ?q5 ?_)
            case q1 =>
              intro u v hj
              match u, hj with
              | 0, hj => simp at hj; subst hj; simp [Addr.add]
            case q2 => intro u hu; simp at hu; subst hu; rfl
            case q3 => unfold maxLen; omega
            case q4 => omega
            case q5 => simp; omega
            intro v' w3 hown' hgrow _
            have hO3 := own_snoc hown'
            have hb3 : Below w.heap.size wr w3 := ((Below.refl _ _).alloc (by omega) _).grown hgrow (by simp; omega) (fun k hk => (World.ownsRow.lt hown1 k hk).1)
            go_wp2
            go_ret
            exact ⟨v', rfl, by rw [HE.out]; exact hO3, hb.trans hb3⟩
          | some a =>
            obtain ⟨ha1, ha2, _, _⟩ := brk_some hbk
            have HE : Hid (foldF f = (acc ++ [((str l).extract 0 a).data.toList]) ++ foldL (l.drop a) 2) := by show _ = _; rw [HG.out, foldL_cut h40 (by omega) hbk, ext_tk, str_list]; simp
            have HB : Hid (brk (str l).data.toList (k + 1) = some a) := by show _ = _; rw [str_list]; exact hbk
            have HX : Hid ((str l).extract a l.length = str (l.drop a)) := by show _ = _; rw [← ext_dr l a, hlz]
            have ha3 : a ≤ (str l).size := by omega
            have ha4 : a ≤ 182 := by omega
            have hdl : (l.drop a).length + a = l.length := by rw [List.length_drop]; omega
            have HDL := Lib.hid hdl
            clear hbk hdl
            generalize hpx : str l = px at *
            have HPX := Lib.hid hpx
            clear hpx
            go_wp2_with fail
            refine (l3Break_any px k _ (by omega) hk1 (by omega)).mono ?_
            rintro e w2 ⟨rfl, rfl⟩
            rw [HB.out, idxI_some]
            go_wp2_with (at_builtin; refine wpList_append_own _ rfl _ _ 26 rfl w.heap.size 9 i0 (.string ⟨#[]⟩) 1 16 Tryd.underlying26 hi hz0 hz1 hz2 rfl (by decide) _ _ _ rfl (World.ownsRow.alloc hown1 _) ⟨wr.heap.size, 0, none⟩ 1 1 [.string (px.extract 0 a)] rfl rfl ?c1 ?c2 ?c3 ?c4 ?c5 ?_)
            case c1 =>
              intro u v hj
              match u, hj with
              | 0, hj => simp at hj; subst hj; simp [Addr.add]
            case c2 => intro u hu; simp at hu; subst hu; rfl
            case c3 => unfold maxLen; omega
            case c4 => omega
            case c5 => simp; omega
            intro v' w3 hown' hgrow _
            have hO3 := own_snoc hown'
            have hb3 : Below w.heap.size wr w3 := ((Below.refl _ _).alloc (by omega) _).grown hgrow (by simp; omega) (fun k hk => (World.ownsRow.lt hown1 k hk).1)
            go_wp2
            go_roundw
            case rel => exact ⟨_, l.drop a, 1, by rw [← HX.out], rfl, hO3, HE.out, by omega, by omega, by have := HDL.out; omega, by have := HDL.out; simp only [List.length_append, List.length_singleton]; omega, hb.trans hb3⟩
            case measure =>
              show Lib.strSize _ < Lib.strSize _
              rw [HX.out, Lib.strSize_string, Lib.strSize_string, str_size, hlz]
              have := HDL.out; omega
        · have h40' : ¬ 40 < (str l).size := by omega
          have HE : Hid (foldF f = acc ++ [(str l).data.toList]) := by show _ = _; rw [HG.out, str_list, foldL_short (by omega)]
          generalize str l = px at *
          go_wp2_with (at_builtin; refine wpList_append_own _ rfl _ _ 26 rfl w.heap.size 9 i0 (.string ⟨#[]⟩) 1 16 Tryd.underlying26 hi hz0 hz1 hz2 rfl (by decide) _ _ _ rfl (World.ownsRow.alloc hown1 _) ⟨wr.heap.size, 0, none⟩ 1 1 [.string px] rfl rfl ?r1 ?r2 ?r3 ?r4 ?r5 ?_)
          case r1 =>
            intro u v hj
            match u, hj with
            | 0, hj => simp at hj; subst hj; simp [Addr.add]
          case r2 => intro u hu; simp at hu; subst hu; rfl
          case r3 => unfold maxLen; omega
          case r4 => omega
          case r5 => simp; omega
          intro v' w3 hown' hgrow _
          have hO3 := own_snoc hown'
          have hb3 : Below w.heap.size wr w3 := ((Below.refl _ _).alloc (by omega) _).grown hgrow (by simp; omega) (fun k hk => (World.ownsRow.lt hown1 k hk).1)
          go_wp2
          go_ret
          exact ⟨v', rfl, by rw [HE.out]; exact hO3, hb.trans hb3⟩
end Go.Proofs.YtfjpajeipihlaaaDoor
