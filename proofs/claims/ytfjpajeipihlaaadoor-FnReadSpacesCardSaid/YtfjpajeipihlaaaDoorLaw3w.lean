/-
  Laws of chapter 3 on folding one field: each law's walk. For every input of the law: it returns true, and the input reads as it did. Conditions: none but the statement's own.
-/
import Derived.Test.YtfjpajeipihlaaaDoorLaw0
import Derived.Test.YtfjpajeipihlaaaDoorDrawF
import Derived.Test.YtfjpajeipihlaaaDoorFoldS
import Derived.Test.YtfjpajeipihlaaaDoorDraw2
import Derived.Test.YtfjpajeipihlaaaDoorReadT
import Derived.Deep.QuietTactic
import Derived.BigQuiet
namespace Go.Proofs.YtfjpajeipihlaaaDoor
open Go.ChangeShapes Go.WideShapes Go.ChangeAt Go.RowKit
open Go.ChangeMaps (open_string shut_string)

theorem pad_read {f : Fld} {n0 v0 : ByteArray} (h : isFld f = true) (hn : str f.name = n0) (hv : str f.val = v0) : readFs [(n0 ++ ⟨#[58, 32, 32, 32]⟩ ++ v0 ++ ⟨#[32]⟩).data.toList] = some [f] := by
  subst hn hv
  rw [Joins.data_append, Joins.data_append, Joins.data_append, str_list, str_list]
  have e : f.name ++ (ByteArray.mk #[58, 32, 32, 32]).data.toList ++ f.val ++ (ByteArray.mk #[32]).data.toList = f.name ++ 58 :: 32 :: 32 :: 32 :: (f.val ++ [32]) := by simp
  rw [e]; exact read_pad h
set_option maxRecDepth 100000 in
set_option maxHeartbeats 2000000 in
theorem fnReadSpaces_walk (a : Option Addr) (n c : Nat) (w : World) (hc : Code w a n) (hnc : n ≤ c) (hm : c ≤ maxLen) :
    Calls Tryd.prog 8 #[.slice a n c] w fun e w' => e = .returned (.bool true) ∧ Below w.heap.size w w' := by
  have hm' := hm
  unfold maxLen at hm'
  by_cases hn : 1048576 < n
  · have hd : decide ((1048576 : Int) < n) = true := by simp; omega
    go_enter Tryd.func8, Tryd.ntmps8
    go_wp2
    go_ret
    exact ⟨rfl, Below.refl _ _⟩
  have hd : decide ((1048576 : Int) < n) = false := by simp; omega
  go_enter Tryd.func8, Tryd.ntmps8
  go_wp2_with fail
  refine (drawFoldField_any a n c w hc hnc hm).mono ?_
  rintro e w1 ⟨f, rfl, hsm, hb1⟩
  have hXV : fldV f = .agg #[.string (str f.name), .string (str f.val)] := rfl
  rw [hXV]
  clear hXV
  have HSM : Hid (SmallF 1073741000 f) := hsm.up (by omega)
  have hz0 : (str f.name).size ≤ 60 := by rw [str_size]; exact hsm.1
  have hz1 : (str f.val).size ≤ 60 := by rw [str_size]; exact hsm.2
  have HNE := Lib.hid (foldF_ne f)
  have hxl := (foldF_len f).1
  have hM : (foldF f).length ≤ maxLen := by unfold maxLen; omega
  have HM := Lib.hid hM
  have HV1 := Lib.hid (fieldValid_fld f)
  have HV3 := Lib.hid (foldField_any f)
  have HV4 := Lib.hid (foldFieldS_any f)
  have hbA := hb1.alloc hb1.size (.cells #[.string (str f.name), .string (str f.val)] 24)
  have HK : Hid (∀ w', Below (w1.alloc (.cells #[.string (str f.name), .string (str f.val)] 24)).heap.size (w1.alloc (.cells #[.string (str f.name), .string (str f.val)] 24)) w' → (∀ i, w'.cell? ⟨w1.heap.size, i, none⟩ = #[Value.string (str f.name), .string (str f.val)][i]?) ∧ Below w.heap.size w w') := fun w' h => ⟨(fresh1 h).1, nx hbA h⟩
  have hee0 : ((str f.name).toList == (str f.name).toList) = true := by simp
  have hee1 : ((str f.val).toList == (str f.val).toList) = true := by simp
  clear hbA hb1 hsm hM
  generalize hxs : foldF f = xs at *
  have HXS := Lib.hid hxs
  clear hxs
  generalize hn0 : str f.name = n0 at *
  generalize hv0 : str f.val = v0 at *
  have HN0 := Lib.hid hn0
  have HV0 := Lib.hid hv0
  clear hn0 hv0
  go_wp2_with fail
  refine (HV3.out _ HSM.out).mono ?_
  rintro e w2 ⟨v2, rfl, ho2, hb2⟩
  obtain ⟨a2, c2, rfl, hr2, _⟩ := ho2.read
  have hc2 : xs.length ≤ c2 ∧ c2 ≤ 9223372036854775807 := by
    rcases ho2.2 with ⟨hv, h0⟩ | ⟨g, cap, cur, hv, _, _, hq1, hq2, _⟩
    · injection hv with _ _ h3; omega
    · injection hv with _ _ h3; unfold maxLen at hq2; omega
  have HR2 := Lib.hid hr2
  have HB2 := Lib.hid hb2
  obtain ⟨d2, _⟩ := HK.out _ HB2.out
  clear hr2 ho2 hb2
  go_wp2_with fail
  refine (HV4.out _ HSM.out).mono ?_
  rintro e w3 ⟨v3, rfl, ho3, hb3⟩
  obtain ⟨a3, c3, rfl, hr3, _⟩ := ho3.read
  have HR23 := Lib.hid (HR2.out.below hb3)
  have HB3 := Lib.hid (nx HB2.out hb3)
  clear ho3 hb3 d2
  go_wp2_with fail
  refine (mwTexts_any _ _ _ _ _ _ xs xs _ HR23.out hr3 HM.out HM.out).mono ?_
  rintro e w4 ⟨rfl, hb4⟩
  rw [decide_eq_true (rfl : xs = xs)]
  have HR24 := Lib.hid (HR23.out.below hb4)
  have HB4 := Lib.hid (nx HB3.out hb4)
  obtain ⟨d4, _⟩ := HK.out _ HB4.out
  clear hr3 hb4
  by_cases h0 : xs.length = 0
  · have e0 : (((xs.length : Nat) : Int) == 0) = true := by rw [h0]; rfl
    have H0 := Lib.hid h0
    clear h0
    go_wp2_with fail
    refine (HV4.out _ HSM.out).mono ?_
    rintro e w5 ⟨v5, rfl, ho5, hb5⟩
    obtain ⟨a5, c5, rfl, hr5, _⟩ := ho5.read
    have HB5 := Lib.hid (nx HB4.out hb5)
    go_wp2_with fail
    refine (mwTexts_any _ _ _ _ _ _ xs xs _ (HR24.out.below hb5) hr5 HM.out HM.out).mono ?_
    rintro e w6 ⟨rfl, hb6⟩
    rw [decide_eq_true (rfl : xs = xs)]
    go_wp2
    go_ret
    exact ⟨rfl, (HK.out _ (nx HB5.out hb6)).2⟩
  have e0 : (((xs.length : Nat) : Int) == 0) = false := by rw [beq_eq_false_iff_ne]; omega
  have HV : Hid (isFld f = true) := HNE.out.1 (by omega)
  have HPR := Lib.hid (pad_read HV.out HN0.out HV0.out)
  have hpz : (n0 ++ ⟨#[58, 32, 32, 32]⟩ ++ v0 ++ ⟨#[32]⟩ : ByteArray).size ≤ 1000 := by
    rw [ByteArray.size_append, ByteArray.size_append, ByteArray.size_append]
    have e1 : (ByteArray.mk #[58, 32, 32, 32]).size = 4 := rfl
    have e2 : (ByteArray.mk #[32]).size = 1 := rfl
    omega
  generalize hpx : (n0 ++ ⟨#[58, 32, 32, 32]⟩ ++ v0 ++ ⟨#[32]⟩ : ByteArray) = px at *
  have hpn : n0.size + 4 + v0.size + 1 ≤ 1000 := by omega
  have HPX := Lib.hid hpx
  have hbS : Below w4.heap.size w4 (w4.alloc (.cells #[.string px] 9)) := (Below.refl _ _).alloc (Nat.le_refl _) _
  have HRS : Hid (RdL (w4.alloc (.cells #[.string px] 9)) (some ⟨w4.heap.size, 0, none⟩) 1 [px.data.toList]) := ⟨rfl, .inr ⟨w4.heap.size, 0, rfl, by simp, fun i hi => by
    obtain rfl : i = 0 := by simpa using hi
    rw [World.cell?_alloc_at _ _ _ _ rfl]
    show some (Value.string px) = some (Value.string (str px.data.toList)); rw [str_of]⟩⟩
  clear h0 hpx
  have HRF : Hid (∀ q : ByteArray, q = px → Calls Tryd.prog 16 #[.slice (some ⟨w4.heap.size, 0, none⟩) 1 1] (w4.alloc (.cells #[.string q] 9)) (ReadRet [px.data.toList] (w4.alloc (.cells #[.string q] 9)))) := fun q hq => by
    subst hq
    exact readFields_any _ 1 1 _ _ HRS.out (by omega) (by unfold maxLen; omega) (by omega) (by simp only [List.flatten_cons, List.flatten_nil, List.append_nil]; rw [size_list]; omega)
  go_wp2_with fail
  refine (HRF.out _ HPX.out).mono ?_
  intro e w5 hret
  obtain ⟨v5, rfl, ho5, hb5⟩ := readRet_is HPR.out hret
  obtain ⟨a5, c5, hv5, hr5, _, _⟩ := ho5.read fldC_len
  have hv5 : v5 = .slice a5 1 c5 := hv5
  subst hv5
  clear hret
  have hb45 : Below w4.heap.size w4 w5 := nx ((Below.refl _ _).alloc (Nat.le_refl _) _) hb5
  obtain ⟨b5, o5, rfl, hbl5, hcell5⟩ := hr5.2.resolve_left (by show ¬ (1 = 0); omega)
  obtain ⟨p0, p1⟩ := RdR.fld hcell5 (show 0 < [f].length by simp)
  rw [Nat.zero_mul, Nat.add_zero] at p0 p1
  have q0 : w5.cell? ⟨b5, o5, none⟩ = some (.string n0) := by rw [p0, ← HN0.out]; rfl
  have q1 : w5.cell? ⟨b5, o5 + 1, none⟩ = some (.string v0) := by rw [p1, ← HV0.out]; rfl
  have HB5 := Lib.hid (nx HB4.out hb45)
  obtain ⟨d5, _⟩ := HK.out _ HB5.out
  clear hcell5 hr5 ho5 hb5 hb45 d4 hbS p0 p1
  go_wp2
  go_quiet (fail)
  go_wp2
  go_ret
  exact ⟨rfl, below_drewN (HK.out _ HB5.out).2 _⟩
set_option maxRecDepth 100000 in
set_option maxHeartbeats 2000000 in
theorem fnFoldField_walk (a : Option Addr) (n c : Nat) (w : World) (hc : Code w a n) (hnc : n ≤ c) (hm : c ≤ maxLen) :
    Calls Tryd.prog 3 #[.slice a n c] w fun e w' => e = .returned (.bool true) ∧ Below w.heap.size w w' := by
  have hm' := hm
  unfold maxLen at hm'
  by_cases hn : 1048576 < n
  · have hd : decide ((1048576 : Int) < n) = true := by simp; omega
    go_enter Tryd.func3, Tryd.ntmps3
    go_wp2
    go_ret
    exact ⟨rfl, Below.refl _ _⟩
  have hd : decide ((1048576 : Int) < n) = false := by simp; omega
  go_enter Tryd.func3, Tryd.ntmps3
  go_wp2_with fail
  refine (drawFoldField_any a n c w hc hnc hm).mono ?_
  rintro e w1 ⟨f, rfl, hsm, hb1⟩
  have hXV : fldV f = .agg #[.string (str f.name), .string (str f.val)] := rfl
  rw [hXV]
  clear hXV
  have HSM : Hid (SmallF 1073741000 f) := hsm.up (by omega)
  have hz0 : (str f.name).size ≤ 60 := by rw [str_size]; exact hsm.1
  have hz1 : (str f.val).size ≤ 60 := by rw [str_size]; exact hsm.2
  have HNE := Lib.hid (foldF_ne f)
  have hxl := (foldF_len f).1
  have hM : (foldF f).length ≤ maxLen := by unfold maxLen; omega
  have HM := Lib.hid hM
  have HV1 := Lib.hid (fieldValid_fld f)
  have HV3 := Lib.hid (foldField_any f)
  have HV4 := Lib.hid (foldFieldS_any f)
  have hbA := hb1.alloc hb1.size (.cells #[.string (str f.name), .string (str f.val)] 24)
  have HK : Hid (∀ w', Below (w1.alloc (.cells #[.string (str f.name), .string (str f.val)] 24)).heap.size (w1.alloc (.cells #[.string (str f.name), .string (str f.val)] 24)) w' → (∀ i, w'.cell? ⟨w1.heap.size, i, none⟩ = #[Value.string (str f.name), .string (str f.val)][i]?) ∧ Below w.heap.size w w') := fun w' h => ⟨(fresh1 h).1, nx hbA h⟩
  have hee0 : ((str f.name).toList == (str f.name).toList) = true := by simp
  have hee1 : ((str f.val).toList == (str f.val).toList) = true := by simp
  have HPT : Hid (isFld f = true → readFs (foldF f) = some [f] ∧ (foldF f).flatten.length ≤ 182 ∧ ∀ i, (h : i < (foldF f).length) → isCont (foldF f)[i] = decide (0 < i) ∧ 0 < (foldF f)[i].length) := fun h => by
    obtain ⟨p, ps, hp, hne, hc1, hq, hl⟩ := foldT_parts h
    rw [foldF_val h]
    refine ⟨read_one h, ?_, fun i hi => ?_⟩
    · rw [hp, List.flatten_cons, hl]; exact line_len h
    · simp only [hp] at hi ⊢
      cases i with
      | zero => exact ⟨hc1, List.length_pos_iff.2 hne⟩
      | succ i =>
        have hi' : i < ps.length := by simpa using hi
        have hq2 := hq (ps[i]'hi') (List.getElem_mem hi')
        refine ⟨by simpa using hq2, ?_⟩
        show 0 < (ps[i]'hi').length
        cases hz : ps[i]'hi' with
        | nil => rw [hz] at hq2; cases hq2
        | cons x l => simp
  clear hbA hb1 hsm hM
  generalize hxs : foldF f = xs at *
  have HXS := Lib.hid hxs
  clear hxs
  generalize hn0 : str f.name = n0 at *
  generalize hv0 : str f.val = v0 at *
  have HN0 := Lib.hid hn0
  have HV0 := Lib.hid hv0
  clear hn0 hv0
  go_wp2_with fail
  refine (HV3.out _ HSM.out).mono ?_
  rintro e w2 ⟨v2, rfl, ho2, hb2⟩
  obtain ⟨a2, c2, rfl, hr2, _⟩ := ho2.read
  have hc2 : xs.length ≤ c2 ∧ c2 ≤ 9223372036854775807 := by
    rcases ho2.2 with ⟨hv, h0⟩ | ⟨g, cap, cur, hv, _, _, hq1, hq2, _⟩
    · injection hv with _ _ h3; omega
    · injection hv with _ _ h3; unfold maxLen at hq2; omega
  have HR2 := Lib.hid hr2
  have HB2 := Lib.hid hb2
  obtain ⟨d2, _⟩ := HK.out _ HB2.out
  clear hr2 ho2 hb2
  go_wp2_with fail
  refine (HV4.out _ HSM.out).mono ?_
  rintro e w3 ⟨v3, rfl, ho3, hb3⟩
  obtain ⟨a3, c3, rfl, hr3, _⟩ := ho3.read
  have HR23 := Lib.hid (HR2.out.below hb3)
  have HB3 := Lib.hid (nx HB2.out hb3)
  clear ho3 hb3 d2
  go_wp2_with fail
  refine (mwTexts_any _ _ _ _ _ _ xs xs _ HR23.out hr3 HM.out HM.out).mono ?_
  rintro e w4 ⟨rfl, hb4⟩
  rw [decide_eq_true (rfl : xs = xs)]
  have HR24 := Lib.hid (HR23.out.below hb4)
  have HB4 := Lib.hid (nx HB3.out hb4)
  obtain ⟨d4, _⟩ := HK.out _ HB4.out
  clear hr3 hb4
  generalize hq : isFld f = q at *
  have HQ := Lib.hid hq
  clear hq
  cases q
  · have h0 : xs.length = 0 := by
      cases hz : xs.length with
      | zero => rfl
      | succ m => have := HNE.out; rw [hz] at this; simp at this
    have hx0 : xs = [] := List.length_eq_zero_iff.1 h0
    subst hx0
    clear h0 hxl hc2
    go_wp2_with fail
    refine (HV1.out _ HSM.out).mono ?_
    rintro e w7 ⟨rfl, hb7⟩
    have HR27 := Lib.hid (HR24.out.below hb7)
    have HB7 := Lib.hid (nx HB4.out hb7)
    obtain ⟨d7, _⟩ := HK.out _ HB7.out
    clear d4 hb7
    go_wp2_with fail
    refine (HV4.out _ HSM.out).mono ?_
    rintro e w5 ⟨v5, rfl, ho5, hb5⟩
    obtain ⟨a5, c5, rfl, hr5, _⟩ := ho5.read
    have HB5 := Lib.hid (nx HB7.out hb5)
    go_wp2_with fail
    refine (mwTexts_any a2 a5 0 c2 0 c5 [] [] _ (HR27.out.below hb5) hr5 HM.out HM.out).mono ?_
    rintro e w6 ⟨rfl, hb6⟩
    rw [decide_eq_true (rfl : ([] : List (List UInt8)) = [])]
    have HB6 := Lib.hid (nx HB5.out hb6)
    obtain ⟨d6, _⟩ := HK.out _ HB6.out
    clear d7 hb6
    go_wp2_with fail
    refine (HV1.out _ HSM.out).mono ?_
    rintro e w8 ⟨rfl, hb8⟩
    go_wp2
    go_ret
    exact ⟨rfl, (HK.out _ (nx HB6.out hb8)).2⟩
  · have h0 : 0 < xs.length := HNE.out.2 rfl
    have e0 : (((xs.length : Nat) : Int) == 0) = false := by rw [beq_eq_false_iff_ne]; omega
    have e1 : ((0 : Int) < ((xs.length : Nat) : Int)) := by omega
    obtain ⟨hrs, hfl, hat⟩ := HPT.out rfl
    have HRS := Lib.hid hrs
    have HAT := Lib.hid hat
    have HFL := Lib.hid hfl
    clear hrs hat hfl HPT
    go_wp2_with fail
    refine (HV1.out _ HSM.out).mono ?_
    rintro e w7 ⟨rfl, hb7⟩
    have HR27 := Lib.hid (HR24.out.below hb7)
    have HB7 := Lib.hid (nx HB4.out hb7)
    obtain ⟨d7, _⟩ := HK.out _ HB7.out
    clear d4 hb7
    go_wp2_with fail
    refine (readFields_any a2 _ c2 xs _ HR27.out hc2.1 (by unfold maxLen; omega) (by omega) (by have := HFL.out; omega)).mono ?_
    intro e w8 hret
    obtain ⟨v8, rfl, ho8, hb8⟩ := readRet_is HRS.out hret
    obtain ⟨a8, c8, hv8, hr8, _, _⟩ := ho8.read fldC_len
    have hv8 : v8 = .slice a8 1 c8 := hv8
    subst hv8
    clear hret
    obtain ⟨b8, o8, rfl, hbl8, hcell8⟩ := hr8.2.resolve_left (by show ¬ (1 = 0); omega)
    obtain ⟨p0, p1⟩ := RdR.fld hcell8 (show 0 < [f].length by simp)
    rw [Nat.zero_mul, Nat.add_zero] at p0 p1
    have q0 : w8.cell? ⟨b8, o8, none⟩ = some (.string n0) := by rw [p0, ← HN0.out]; rfl
    have q1 : w8.cell? ⟨b8, o8 + 1, none⟩ = some (.string v0) := by rw [p1, ← HV0.out]; rfl
    have HR28 := Lib.hid (HR27.out.below hb8)
    have HB8 := Lib.hid (nx HB7.out hb8)
    obtain ⟨d8, _⟩ := HK.out _ HB8.out
    clear d7 hb8 ho8 hr8 hcell8 p0 p1
    go_wp2_with fail
    go_loop [7] (fun i => ∃ k : Nat, k ≤ xs.length ∧ i = .int .i64 k) (fun i => xs.length - (intOf i).toNat)
    case atStart => exact ⟨0, Nat.zero_le _, rfl⟩
    case round =>
      obtain ⟨k, hk, rfl⟩ := hrel
      by_cases hlt : k < xs.length
      · obtain ⟨b, off, rfl, hbl, hcell⟩ := HR28.out.2.resolve_left (by omega)
        have hc1 := hcell k hlt
        obtain ⟨ht, hpos⟩ := HAT.out k hlt
        have hz : 0 < (str xs[k]).size := by rw [str_size]; exact hpos
        by_cases hk0 : k = 0
        · have h32 : (str xs[k])[0] ≠ 32 := by
            rcases cont_of xs[k] with ⟨hq, _⟩ | ⟨_, h | ⟨h, h2⟩⟩
            · rw [ht] at hq; simp at hq; omega
            · omega
            · exact h2
          have e32 := beq_f h32 (n := 32) rfl
          have hk1 : ¬ ((0 : Int) < (k : Int)) := by omega
          generalize str xs[k] = px at *
          clear hcell h32 ht hpos hk0
          go_wp2
          go_round
          case rel => exact ⟨k + 1, by omega, by go_num⟩
          case measure => simp [intOf]; omega
        · have h32 : (str xs[k])[0] = 32 := by
            rcases cont_of xs[k] with ⟨_, h, h2⟩ | ⟨hq, _⟩
            · exact h2
            · rw [ht] at hq; simp at hq; omega
          have e32 := beq_t h32 (n := 32) rfl
          have hk1 : decide ((0 : Int) < (k : Int)) = true := by rw [decide_eq_true_iff]; omega
          have hkl : k + 1 ≤ xs.length := hlt
          generalize str xs[k] = px at *
          clear hcell h32 ht hpos hk0
          have hne : (decide ((0 : Int) < (k : Int)) != ((px[0].toNat : Int) == 32)) = false := by rw [hk1, e32]; rfl
          go_wp2
          all_goals first
            | (exfalso; simp_all; done)
            | (refine ⟨⟨k + 1, hkl, by go_num⟩, ?_⟩
               simp [intOf]; omega)
      · go_wp2
        go_quiet (fail)
        go_wp2
        go_ret
        exact ⟨rfl, below_drewN (HK.out _ HB8.out).2 _⟩
end Go.Proofs.YtfjpajeipihlaaaDoor
