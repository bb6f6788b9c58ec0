/-
  FnFoldWidth: the law's walk. For every input of the law: it returns true, and the input reads as it did. Conditions: none but the statement's own.
-/
import Derived.Test.YtfjpajeipihlaaaDoorLaw0
import Derived.Test.YtfjpajeipihlaaaDoorDrawF
import Derived.Test.YtfjpajeipihlaaaDoorFoldS
import Derived.Test.YtfjpajeipihlaaaDoorDraw2
import Derived.Deep.QuietTactic
import Derived.BigQuiet
namespace Go.Proofs.YtfjpajeipihlaaaDoor
open Go.ChangeShapes Go.WideShapes Go.ChangeAt Go.RowKit
open Go.ChangeMaps (open_string shut_string)

/-- How many spaces stand between the colon and the value. -/
def oneOf (s : ByteArray) : Nat := if s.size = 0 then 0 else 1
theorem mwOne_any (s : ByteArray) (w : World) : Calls Tryd.prog 33 #[.string s] w fun e w' => e = .returned (.int .i64 (oneOf s : Int)) ∧ w = w' := by
  by_cases h : s.size = 0
  · have HZ : Hid (oneOf s = 0) := if_pos h
    have he : s.toList.isEmpty = true := by rw [ByteArray.toList_eq, empty_list h]; rfl
    clear h
    go_enter Tryd.func33, Tryd.ntmps33
    go_wp2
    go_ret
    exact ⟨by rw [HZ.out]; rfl, rfl⟩
  · have HZ : Hid (oneOf s = 1) := if_neg h
    have he : s.toList.isEmpty = false := by
      rw [ByteArray.toList_eq]
      cases hq : s.data.toList with
      | nil => exact absurd (by rw [← size_list, hq]; rfl) h
      | cons x xs => rfl
    clear h
    go_enter Tryd.func33, Tryd.ntmps33
    go_wp2
    go_ret
    exact ⟨by rw [HZ.out]; rfl, rfl⟩
theorem flat_take_le (xs : List (List UInt8)) (k : Nat) : (xs.take k).flatten.length ≤ xs.flatten.length := by
  have e : xs.flatten = (xs.take k).flatten ++ (xs.drop k).flatten := by rw [← List.flatten_append, List.take_append_drop]
  rw [e, List.length_append]; omega
set_option maxRecDepth 100000 in
set_option maxHeartbeats 1000000 in
theorem mwJoin2_any (a : Option Addr) (n c : Nat) (xs : List (List UInt8)) (w : World) (hr : RdL w a n xs) (hn : n ≤ 1000000) (hl : xs.flatten.length ≤ 1000000) :
    Calls Tryd.prog 32 #[.slice a n c] w fun e w' => e = .returned (.string (str xs.flatten)) ∧ w = w' := by
  have HLEN := Lib.hid hr.1
  have HR := Lib.hid hr.2
  have HL := Lib.hid hl
  clear hr hl
  go_enter Tryd.func32, Tryd.ntmps32
  go_wp2_with fail
  go_loop [3, 4] (fun o i => ∃ k : Nat, k ≤ n ∧ i = .int .i64 k ∧ o = .string (str (xs.take k).flatten)) (fun _ i => n - (intOf i).toNat)
  case atStart => exact ⟨0, Nat.zero_le _, rfl, rfl⟩
  case round =>
    obtain ⟨k, hk, rfl, rfl⟩ := hrel
    by_cases hlt : k < n
    · have hkx : k < xs.length := by rw [HLEN.out]; exact hlt
      obtain ⟨b, off, rfl, hbl, hcell⟩ := HR.out.resolve_left (by omega)
      have hck := hcell k hkx
      have hz := flat_take_le xs (k + 1)
      have hzz : (xs.take k).flatten.length + xs[k].length ≤ 1000000 := by
        have := HL.out
        rw [List.take_succ_eq_append_getElem hkx, List.flatten_append, List.length_append, List.flatten_cons, List.flatten_nil, List.append_nil] at hz
        omega
      have hz1 : (str (xs.take k).flatten).size + (str xs[k]).size ≤ 1000000 := by rw [str_size, str_size]; exact hzz
      have HST : Hid (str (xs.take (k + 1)).flatten = str (xs.take k).flatten ++ str xs[k]) := by
        show _ = _
        rw [List.take_succ_eq_append_getElem hkx, List.flatten_append, List.flatten_cons, List.flatten_nil, List.append_nil]
        exact bytes_ext (by rw [Joins.data_append, str_list, str_list, str_list])
      clear hcell hz hzz
      generalize str (xs.take k).flatten = s0 at *
      generalize str xs[k] = s1 at *
      go_wp2
      go_round
      case rel => exact ⟨k + 1, by omega, by go_num, by rw [HST.out]⟩
      case measure => simp [intOf]; omega
    · have HE : Hid (xs.take k = xs) := List.take_of_length_le (by rw [HLEN.out]; omega)
      rw [HE.out]
      go_wp2
      go_ret
      exact ⟨rfl, rfl⟩
theorem fold_tight {f : Fld} (h : isFld f = true) : ∀ i, (hi : i < (foldF f).length) → ∀ m, (i = 0 ∧ m = (str f.name).size + 3 ∨ i ≠ 0 ∧ m = 2) → Tight (foldF f)[i] m := by
  rw [foldF_val h]
  obtain ⟨p, ps, h1, h2, h3⟩ := foldL_tight (lineF f) (f.name.length + 3) (by omega)
  have h1 : foldT f = p :: ps := h1
  rw [h1]
  intro i hi m hm
  rw [str_size] at hm
  cases i with
  | zero =>
    rcases hm with ⟨_, rfl⟩ | ⟨h, _⟩
    · exact h2
    · exact absurd rfl h
  | succ i =>
    rcases hm with ⟨h, _⟩ | ⟨_, rfl⟩
    · cases h
    · exact h3 _ (List.getElem_mem _)
theorem fold_flat {f : Fld} (h : isFld f = true) : (str (foldF f).flatten).size = (str f.name).size + 1 + oneOf (str f.val) + (str f.val).size := by
  rw [foldF_val h]
  have h1 : (foldT f).flatten = lineF f := (foldL_spec (lineF f) (f.name.length + 3) (by omega)).1
  rw [h1, str_size]
  unfold lineF oneOf
  rw [str_size, str_size, List.length_append, List.length_cons]
  by_cases hv : f.val = []
  · rw [if_pos hv, hv]; simp
  · have : f.val.length ≠ 0 := fun h0 => hv (List.length_eq_zero_iff.1 h0)
    rw [if_neg hv, if_neg this, List.length_cons]; omega
theorem tight_at {s : ByteArray} {p : List UInt8} {from0 m : Nat} (hs : s.data.toList = p) (h : Tight p from0) (h40 : 40 < s.size) (h1 : from0 ≤ m) (h2 : m + 1 < s.size) : alone s.data.toList m = false := by
  subst hs
  rw [← size_list] at h40 h2
  exact h h40 m h1 h2
set_option maxRecDepth 100000 in
set_option maxHeartbeats 4000000 in
theorem fnFoldWidth_walk (a : Option Addr) (n c : Nat) (w : World) (hc : Code w a n) (hnc : n ≤ c) (hm : c ≤ maxLen) :
    Calls Tryd.prog 7 #[.slice a n c] w fun e w' => e = .returned (.bool true) ∧ Below w.heap.size w w' := by
  have hm' := hm
  unfold maxLen at hm'
  by_cases hn : 1048576 < n
  · have hd : decide ((1048576 : Int) < n) = true := by simp; omega
    go_enter Tryd.func7, Tryd.ntmps7
    go_wp2
    go_ret
    exact ⟨rfl, Below.refl _ _⟩
  have hd : decide ((1048576 : Int) < n) = false := by simp; omega
  go_enter Tryd.func7, Tryd.ntmps7
  go_wp2_with fail
  refine (drawFoldField_any a n c w hc hnc hm).mono ?_
  rintro e w1 ⟨f, rfl, hsm, hb1⟩
  have hXV : fldV f = .agg #[.string (str f.name), .string (str f.val)] := rfl
  rw [hXV]
  clear hXV
  have HSM : Hid (SmallF 1073741000 f) := hsm.up (by omega)
  have hz0 : (str f.name).size ≤ 60 := by rw [str_size]; exact hsm.1
  have hz1 : (str f.val).size ≤ 60 := by rw [str_size]; exact hsm.2
  have HNE := Lib.hid (foldF_ne f)
  have hxl := (foldF_len f).1
  have HPL := Lib.hid (foldF_len f).2
  have hM : (foldF f).length ≤ maxLen := by unfold maxLen; omega
  have HM := Lib.hid hM
  have HV3 := Lib.hid (foldField_any f)
  have HV4 := Lib.hid (foldFieldS_any f)
  have HTG := Lib.hid (fold_tight (f := f))
  have HFL := Lib.hid (fold_flat (f := f))
  have hbA := hb1.alloc hb1.size (.cells #[.string (str f.name), .string (str f.val)] 24)
  have HK : Hid (∀ w', Below (w1.alloc (.cells #[.string (str f.name), .string (str f.val)] 24)).heap.size (w1.alloc (.cells #[.string (str f.name), .string (str f.val)] 24)) w' → (∀ i, w'.cell? ⟨w1.heap.size, i, none⟩ = #[Value.string (str f.name), .string (str f.val)][i]?) ∧ Below w.heap.size w w') := fun w' h => ⟨(fresh1 h).1, nx hbA h⟩
  clear hbA hb1 hsm hM
  generalize foldF f = xs at *
  generalize str f.name = n0 at *
  generalize str f.val = v0 at *
  go_wp2_with fail
  refine (HV3.out _ HSM.out).mono ?_
  rintro e w2 ⟨v2, rfl, ho2, hb2⟩
  obtain ⟨a2, c2, rfl, hr2, _⟩ := ho2.read
  have hc2 : xs.length ≤ c2 ∧ c2 ≤ 9223372036854775807 := by
    rcases ho2.2 with ⟨hv, h0⟩ | ⟨g, cap, cur, hv, _, _, hq1, hq2, _⟩
    · injection hv with _ _ h3; omega
    · injection hv with _ _ h3; unfold maxLen at hq2; omega
  have HR2 := Lib.hid hr2
  have HB2 := Lib.hid hb2
  obtain ⟨d2, _⟩ := HK.out _ HB2.out
  clear hr2 ho2 hb2
  go_wp2_with fail
  refine (HV4.out _ HSM.out).mono ?_
  rintro e w3 ⟨v3, rfl, ho3, hb3⟩
  obtain ⟨a3, c3, rfl, hr3, _⟩ := ho3.read
  have HR23 := Lib.hid (HR2.out.below hb3)
  have HB3 := Lib.hid (nx HB2.out hb3)
  clear ho3 hb3 d2
  go_wp2_with fail
  refine (mwTexts_any _ _ _ _ _ _ xs xs _ HR23.out hr3 HM.out HM.out).mono ?_
  rintro e w4 ⟨rfl, hb4⟩
  rw [decide_eq_true (rfl : xs = xs)]
  have HR24 := Lib.hid (HR23.out.below hb4)
  have HB4 := Lib.hid (nx HB3.out hb4)
  obtain ⟨d4, _⟩ := HK.out _ HB4.out
  clear hr3 hb4
  by_cases h0 : xs.length = 0
  · have e0 : (((xs.length : Nat) : Int) == 0) = true := by rw [h0]; rfl
    have H0 := Lib.hid h0
    clear h0
    go_wp2_with fail
    refine (HV4.out _ HSM.out).mono ?_
    rintro e w5 ⟨v5, rfl, ho5, hb5⟩
    obtain ⟨a5, c5, rfl, hr5, _⟩ := ho5.read
    have HB5 := Lib.hid (nx HB4.out hb5)
    go_wp2_with fail
    refine (mwTexts_any _ _ _ _ _ _ xs xs _ (HR24.out.below hb5) hr5 HM.out HM.out).mono ?_
    rintro e w6 ⟨rfl, hb6⟩
    rw [decide_eq_true (rfl : xs = xs)]
    go_wp2
    go_ret
    exact ⟨rfl, (HK.out _ (nx HB5.out hb6)).2⟩
  have e0 : (((xs.length : Nat) : Int) == 0) = false := by rw [beq_eq_false_iff_ne]; omega
  have HV : Hid (isFld f = true) := HNE.out.1 (by omega)
  have HT := Lib.hid (HTG.out HV.out)
  have HF := Lib.hid (HFL.out HV.out)
  clear HTG HFL HNE
  obtain ⟨b, off, rfl, hbl, hcell⟩ := HR24.out.2.resolve_left h0
  have HCELL := Lib.hid hcell
  clear hcell
  go_wp2_with fail
  go_loop [5] (fun i => ∃ k : Nat, k ≤ xs.length ∧ i = .int .i64 k) (fun i => xs.length - (intOf i).toNat)
  case atStart => exact ⟨0, Nat.zero_le _, rfl⟩
  case round =>
    obtain ⟨k, hk, rfl⟩ := hrel
    by_cases hlt : k < xs.length
    · have hkx : k < xs.length := hlt
      have hck := HCELL.out k hkx
      have HTK := Lib.hid (HT.out k hkx)
      have hsz : (str xs[k]).size ≤ 182 := by rw [str_size]; exact HPL.out _ (List.getElem_mem hkx)
      have HSX : Hid ((str xs[k]).data.toList = xs[k]) := str_list _
      generalize str xs[k] = s1 at *
      by_cases hk0 : k = 0
      · have e1 : ((k : Int) == 0) = true := by rw [hk0]; rfl
        have HTF := Lib.hid (HTK.out (n0.size + 3) (.inl ⟨hk0, rfl⟩))
        clear hk0
        go_wp2_with fail
        go_loop [7] (fun j => ∃ m : Nat, (n0.size + 3) ≤ m ∧ m ≤ 1000 ∧ j = .int .i64 m) (fun j => s1.size - (intOf j).toNat)
        case atStart => exact ⟨(n0.size + 3), Nat.le_refl _, by omega, by go_num⟩
        case round =>
          obtain ⟨m, hm1, hm2, rfl⟩ := hrel
          by_cases hms : m + 1 < s1.size
          · by_cases h40 : 40 < s1.size
            · have ha := tight_at HSX.out HTF.out h40 hm1 hms
              rw [alone_at s1 m (by omega) hms] at ha
              have h3 : m < s1.size := by omega
              have h4 : m - 1 < s1.size := by omega
              have h1m : 1 ≤ m := by omega
              by_cases qa : s1[m] = 32
              · have e2 := beq_t qa (n := 32) rfl
                by_cases qb : s1[m - 1] = 32
                · have e3 := bneq_f qb (n := 32) rfl
                  clear qa qb ha
                  go_wp2
                  go_round
                  case rel => exact ⟨m + 1, by omega, by omega, by go_num⟩
                  case measure => simp [intOf]; omega
                · have e3 := bneq_t qb (n := 32) rfl
                  have qc : s1[m + 1] = 32 := by
                    by_cases qc : s1[m + 1] = 32
                    · exact qc
                    · simp [qa, qb, qc] at ha
                  have e4 := bneq_f qc (n := 32) rfl
                  clear qa qb qc ha
                  go_wp2
                  go_round
                  case rel => exact ⟨m + 1, by omega, by omega, by go_num⟩
                  case measure => simp [intOf]; omega
              · have e2 := beq_f qa (n := 32) rfl
                clear qa ha
                go_wp2
                go_round
                case rel => exact ⟨m + 1, by omega, by omega, by go_num⟩
                case measure => simp [intOf]; omega
            · go_wp2
              go_round
              case rel => exact ⟨k + 1, by omega, by go_num⟩
              case measure => simp [intOf]; omega
          · go_wp2
            go_round
            case rel => exact ⟨k + 1, by omega, by go_num⟩
            case measure => simp [intOf]; omega
      · have e1 : ((k : Int) == 0) = false := by rw [beq_eq_false_iff_ne]; omega
        have HTF := Lib.hid (HTK.out 2 (.inr ⟨hk0, rfl⟩))
        clear hk0
        go_wp2_with fail
        go_loop [7] (fun j => ∃ m : Nat, 2 ≤ m ∧ m ≤ 1000 ∧ j = .int .i64 m) (fun j => s1.size - (intOf j).toNat)
        case atStart => exact ⟨2, Nat.le_refl _, by omega, by go_num⟩
        case round =>
          obtain ⟨m, hm1, hm2, rfl⟩ := hrel
          by_cases hms : m + 1 < s1.size
          · by_cases h40 : 40 < s1.size
            · have ha := tight_at HSX.out HTF.out h40 hm1 hms
              rw [alone_at s1 m (by omega) hms] at ha
              have h3 : m < s1.size := by omega
              have h4 : m - 1 < s1.size := by omega
              have h1m : 1 ≤ m := by omega
              by_cases qa : s1[m] = 32
              · have e2 := beq_t qa (n := 32) rfl
                by_cases qb : s1[m - 1] = 32
                · have e3 := bneq_f qb (n := 32) rfl
                  clear qa qb ha
                  go_wp2
                  go_round
                  case rel => exact ⟨m + 1, by omega, by omega, by go_num⟩
                  case measure => simp [intOf]; omega
                · have e3 := bneq_t qb (n := 32) rfl
                  have qc : s1[m + 1] = 32 := by
                    by_cases qc : s1[m + 1] = 32
                    · exact qc
                    · simp [qa, qb, qc] at ha
                  have e4 := bneq_f qc (n := 32) rfl
                  clear qa qb qc ha
                  go_wp2
                  go_round
                  case rel => exact ⟨m + 1, by omega, by omega, by go_num⟩
                  case measure => simp [intOf]; omega
              · have e2 := beq_f qa (n := 32) rfl
                clear qa ha
                go_wp2
                go_round
                case rel => exact ⟨m + 1, by omega, by omega, by go_num⟩
                case measure => simp [intOf]; omega
            · go_wp2
              go_round
              case rel => exact ⟨k + 1, by omega, by go_num⟩
              case measure => simp [intOf]; omega
          · go_wp2
            go_round
            case rel => exact ⟨k + 1, by omega, by go_num⟩
            case measure => simp [intOf]; omega
    · have HJ : Hid (∀ m : Nat, Calls Tryd.prog 32 #[.slice (some ⟨b, off, none⟩) xs.length c2] (w4.drewN m) fun e w' => e = .returned (.string (str xs.flatten)) ∧ w' = w4.drewN m) := fun m =>
        (mwJoin2_any _ _ _ xs (w4.drewN m) (HR24.out.below (below_drewN (Below.refl _ _) m)) (by omega) (by have := HF.out; rw [str_size] at this; unfold oneOf at this; split at this <;> omega)).mono fun _ _ ⟨h1, h2⟩ => ⟨h1, h2.symm⟩
      have hfe := HF.out
      have hz9 : (str xs.flatten).size ≤ 1000 := by rw [hfe]; unfold oneOf; split <;> omega
      have ho9 : oneOf v0 ≤ 1 := by unfold oneOf; split <;> omega
      generalize str xs.flatten = j9 at *
      have HO : Hid (∀ u : World, Calls Tryd.prog 33 #[.string v0] u fun e w' => e = .returned (.int .i64 (oneOf v0 : Int)) ∧ w' = u) := fun u => (mwOne_any v0 u).mono fun _ _ ⟨h1, h2⟩ => ⟨h1, h2.symm⟩
      have he9 : (((j9.size : Nat) : Int) == ((n0.size : Nat) : Int) + 1 + ((oneOf v0 : Nat) : Int) + ((v0.size : Nat) : Int)) = true := by rw [beq_iff_eq]; omega
      generalize oneOf v0 = o9 at *
      clear hfe
      go_wp2_with fail
      go_quiet (first
        | (go_at_call 32; refine Calls.quiet_of_same (HJ.out _))
        | (go_at_call 33; refine Calls.quiet_of_same (HO.out _)))
      go_wp2
      go_ret
      exact ⟨rfl, below_drewN (HK.out _ HB4.out).2 _⟩
end Go.Proofs.YtfjpajeipihlaaaDoor
