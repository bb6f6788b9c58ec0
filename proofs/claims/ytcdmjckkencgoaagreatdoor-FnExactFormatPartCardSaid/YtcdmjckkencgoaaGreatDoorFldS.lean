/-
  Fields: what the model's functions on names and fields return. No statement is proved here.
-/
import Derived.Test.YtcdmjckkencgoaaGreatDoorFld
import Derived.Test.YtcdmjckkencgoaaGreatDoorParseS
namespace Go.Proofs.YtcdmjckkencgoaaGreatDoor
open Go.RowKit

theorem let_gt_nat : ∀ n, n < 256 → nameC (UInt8.ofNat n) = true → letB (UInt8.ofNat n) = decide (57 < n) := by decide +kernel
theorem let_gt {c : UInt8} (h : nameC c = true) : letB c = decide (57 < c.toNat) := by
  have := let_gt_nat c.toNat c.toNat_lt; rw [UInt8.ofNat_toNat] at this; exact this h
theorem isFName_low0 (s : ByteArray) (h : 0 < s.size) (hc : s[0].toNat ≤ 57) : isFName s.data.toList = false := by
  cases hn : nameC s[0]
  · exact isFName_bad s 0 h hn
  · have : headLet s.data.toList = false := by rw [headLet_at s h, let_gt hn]; simp; omega
    unfold isFName; rw [this]; simp
set_option maxRecDepth 100000 in
set_option maxHeartbeats 2000000 in
theorem l3Name_any (s : ByteArray) (w : World) (hs : s.size ≤ 1073741824) :
    Calls Tryz.prog 148 #[.string s] w fun e w' => e = .returned (.bool (isFName s.data.toList)) ∧ w = w' := by
  go_enter Tryz.func148, Tryz.ntmps148
  go_wp2_with fail
  go_loop [3] (fun i => ∃ k : Nat, k ≤ s.size ∧ k ≤ 31 ∧ i = .int .i64 k ∧ ((h : 0 < s.size) → 0 < k → 57 < s[0].toNat) ∧ ∀ j, (h : j < k) → (h' : j < s.size) → nameC s[j] = true) (fun i => s.size - (intOf i).toNat)
  case atStart => exact ⟨0, Nat.zero_le _, by omega, rfl, fun _ h => by omega, fun j h => by omega⟩
  case round =>
    obtain ⟨k, hk, hk2, rfl, h57, hall⟩ := hrel
    have H := Lib.hid hall
    have H57 := Lib.hid h57
    clear hall h57
    by_cases hlt : k < s.size
    · by_cases hl : k ≤ 30
      · have hd : decide ((k : Int) ≤ 30) = true := by simp; omega
        by_cases hn : nameC s[k] = true
        · have HN := Lib.hid hn
          by_cases hk0 : k = 0
          · subst hk0
            by_cases h0 : s[0].toNat ≤ 57
            · have HB := Lib.hid (isFName_low0 s hlt h0)
              have h0' : (s[0].toNat : Int) ≤ 57 := by omega
              cases h1 : alnumB s[0]
              · have h2 : s[0] = 45 := by unfold nameC at hn; rw [h1] at hn; simpa using hn
                have H1 := Lib.hid h1
                have e3 := bneq_f h2 (n := 45) rfl
                clear h1 h2 hn h0
                go_wp2_with fail
                refine (l1Letter_any _ _).mono ?_
                rintro e w1 ⟨rfl, rfl⟩
                rw [H1.out]
                go_wp2
                go_ret
                exact ⟨ret_bool HB.out.symm, rfl⟩
              · have H1 := Lib.hid h1
                clear h1 hn h0
                go_wp2_with fail
                refine (l1Letter_any _ _).mono ?_
                rintro e w1 ⟨rfl, rfl⟩
                rw [H1.out]
                go_wp2
                go_ret
                exact ⟨ret_bool HB.out.symm, rfl⟩
            · have h0' : ¬ ((s[0].toNat : Int) ≤ 57) := by omega
              have H0 : Hid (57 < s[0].toNat) := by show _ < _; omega
              cases h1 : alnumB s[0]
              · have h2 : s[0] = 45 := by unfold nameC at hn; rw [h1] at hn; simpa using hn
                rw [h2] at h0; simp at h0
              · have H1 := Lib.hid h1
                clear h1 hn h0
                go_wp2_with fail
                refine (l1Letter_any _ _).mono ?_
                rintro e w1 ⟨rfl, rfl⟩
                rw [H1.out]
                go_wp2
                go_round
                case rel => exact ⟨1, by omega, by omega, by go_num, fun _ _ => H0.out, fun j h h' => by
                  have e : j = 0 := by omega
                  subst e; exact HN.out⟩
                case measure => simp [intOf]; omega
          · have e0 : ((k : Int) == 0) = false := by rw [beq_eq_false_iff_ne]; omega
            have HS : Hid ((h : 0 < s.size) → 0 < k + 1 → 57 < s[0].toNat) := fun h _ => H57.out h (by omega)
            cases h1 : alnumB s[k]
            · have h2 : s[k] = 45 := by unfold nameC at hn; rw [h1] at hn; simpa using hn
              have H1 := Lib.hid h1
              have e3 := bneq_f h2 (n := 45) rfl
              clear h1 h2 hn hk0
              go_wp2_with fail
              refine (l1Letter_any _ _).mono ?_
              rintro e w1 ⟨rfl, rfl⟩
              rw [H1.out]
              go_wp2
              go_round
              case rel => exact ⟨k + 1, by omega, by omega, by go_num, HS.out, fun j h h' => by
                by_cases e : j = k
                · subst e; exact HN.out
                · exact H.out j (by omega) h'⟩
              case measure => simp [intOf]; omega
            · have H1 := Lib.hid h1
              clear h1 hn hk0
              go_wp2_with fail
              refine (l1Letter_any _ _).mono ?_
              rintro e w1 ⟨rfl, rfl⟩
              rw [H1.out]
              go_wp2
              go_round
              case rel => exact ⟨k + 1, by omega, by omega, by go_num, HS.out, fun j h h' => by
                by_cases e : j = k
                · subst e; exact HN.out
                · exact H.out j (by omega) h'⟩
              case measure => simp [intOf]; omega
        · have hn : nameC s[k] = false := by simpa using hn
          have HB := Lib.hid (isFName_bad s k hlt hn)
          have h1 : alnumB s[k] = false ∧ s[k] ≠ 45 := by unfold nameC at hn; simpa using hn
          have H1 := Lib.hid h1.1
          have e3 := bneq_t h1.2 (n := 45) rfl
          clear h1 hn
          go_wp2_with fail
          refine (l1Letter_any _ _).mono ?_
          rintro e w1 ⟨rfl, rfl⟩
          rw [H1.out]
          go_wp2
          go_ret
          exact ⟨ret_bool HB.out.symm, rfl⟩
      · have hd : decide ((k : Int) ≤ 30) = false := by simp; omega
        have HB := Lib.hid (isFName_size s (.inr (by omega)))
        have d1 : decide ((1 : Int) ≤ s.size) = true := by simp; omega
        have d2 : decide ((s.size : Int) ≤ 30) = false := by simp; omega
        go_wp2
        go_ret
        exact ⟨ret_bool HB.out.symm, rfl⟩
    · by_cases h0 : s.size = 0
      · have HB := Lib.hid (isFName_size s (.inl (by omega)))
        have d1 : decide ((1 : Int) ≤ s.size) = false := by simp; omega
        clear h0
        go_wp2
        go_ret
        exact ⟨ret_bool HB.out.symm, rfl⟩
      · have d1 : decide ((1 : Int) ≤ s.size) = true := by simp; omega
        by_cases h30 : s.size ≤ 30
        · have d2 : decide ((s.size : Int) ≤ 30) = true := by simp; omega
          have HB : Hid (isFName s.data.toList = true) := by
            show _ = _
            rw [isFName_good s (by omega) h30 (fun j h' => H.out j (by omega) h'), let_gt (H.out 0 (by omega) (by omega))]
            have := H57.out (by omega) (by omega)
            simpa using this
          go_wp2
          go_ret
          exact ⟨ret_bool HB.out.symm, rfl⟩
        · have d2 : decide ((s.size : Int) ≤ 30) = false := by simp; omega
          have HB := Lib.hid (isFName_size s (.inr (by omega)))
          go_wp2
          go_ret
          exact ⟨ret_bool HB.out.symm, rfl⟩
set_option maxRecDepth 100000 in
set_option maxHeartbeats 2000000 in
theorem fieldValidS_any (n v : ByteArray) (w : World) (hn : n.size ≤ 1073741000) (hv : v.size ≤ 1073741000) :
    Calls Tryz.prog 114 #[.agg #[.string n, .string v]] w fun e w' => e = .returned (.bool (isFld (fld n v))) ∧ Below w.heap.size w w' := by
  have HP : Hid (isFld (fld n v) = (isFName n.data.toList && (isText v.data.toList && (decide (v.size ≤ 150) && decide (trimS v.data.toList = v.data.toList))))) := rfl
  have hb0 : Below w.heap.size w (w.alloc (.cells #[.string n, .string v] 78)) := (Below.refl _ _).alloc (Nat.le_refl _) _
  have HN : Hid (∀ u : World, Calls Tryz.prog 148 #[.string n] u fun e w' => e = .returned (.bool (isFName n.data.toList)) ∧ w' = u) := fun u => (l3Name_any n u (by omega)).mono fun _ _ ⟨h1, h2⟩ => ⟨h1, h2.symm⟩
  have HT : Hid (∀ u : World, Calls Tryz.prog 72 #[.string v] u fun e w' => e = .returned (.bool (isText v.data.toList)) ∧ w' = u) := fun u => (textValidS_any v u (by unfold maxLen; omega)).mono fun _ _ ⟨h1, h2⟩ => ⟨h1, h2.symm⟩
  have HM : Hid (∀ u : World, Calls Tryz.prog 117 #[.string v] u fun e w' => e = .returned (.string (str (trimS v.data.toList))) ∧ ∃ m, w' = u.drewN m) := fun u => (l2Trim_any v u (by omega)).mono fun _ _ ⟨h1, h2⟩ => ⟨h1, 0, h2.symm⟩
  have HD : Hid (decide (str (trimS v.data.toList) = v) = decide (trimS v.data.toList = v.data.toList)) := by
    show _ = _
    refine decide_eq_decide.2 ⟨fun h => ?_, fun h => by rw [h, str_of]⟩
    have := congrArg (·.data.toList) h
    simpa [str_list] using this
  generalize isFName n.data.toList = q1 at *
  generalize isText v.data.toList = q2 at *
  by_cases h3 : v.size ≤ 150
  · have d1 : decide ((v.size : Int) ≤ 150) = true := by simp; omega
    have HR : Hid (isFld (fld n v) = (q1 && (q2 && decide (str (trimS v.data.toList) = v)))) := by show _ = _; rw [HP.out, decide_eq_true h3, HD.out, Bool.true_and]
    cases q1 <;> cases q2
    all_goals
      go_enter Tryz.func114, Tryz.ntmps114
      go_wp2_with fail
      go_quiet (first
        | (go_at_call 148; refine Calls.quiet_of_same (HN.out _))
        | (go_at_call 72; refine Calls.quiet_of_same (HT.out _))
        | (go_at_call 117; refine Calls.quiet_of (HM.out _)))
      go_wp2
      go_ret
      first
        | exact ⟨ret_bool (by rw [HR.out]; rfl), (hb0.trans ⟨rfl, rfl, rfl, Nat.le_refl _, fun _ _ => rfl⟩)⟩
        | exact ⟨ret_bool (by rw [HR.out]; exact beq_dec _ _), (hb0.trans ⟨rfl, rfl, rfl, Nat.le_refl _, fun _ _ => rfl⟩)⟩
  · have d1 : decide ((v.size : Int) ≤ 150) = false := by simp; omega
    have HR : Hid (isFld (fld n v) = false) := by show _ = _; rw [HP.out, decide_eq_false h3]; simp
    cases q1 <;> cases q2
    all_goals
      go_enter Tryz.func114, Tryz.ntmps114
      go_wp2_with fail
      go_quiet (first
        | (go_at_call 148; refine Calls.quiet_of_same (HN.out _))
        | (go_at_call 72; refine Calls.quiet_of_same (HT.out _))
        | (go_at_call 117; refine Calls.quiet_of (HM.out _)))
      go_wp2
      go_ret
      exact ⟨ret_bool HR.out.symm, (hb0.trans ⟨rfl, rfl, rfl, Nat.le_refl _, fun _ _ => rfl⟩)⟩
theorem fieldValidS_fld (f : Fld) (w : World) (h : SmallF 1073741000 f) :
    Calls Tryz.prog 114 #[.agg #[.string (str f.name), .string (str f.val)]] w fun e w' => e = .returned (.bool (isFld f)) ∧ Below w.heap.size w w' := by
  have := fieldValidS_any (str f.name) (str f.val) w (by rw [str_size]; exact h.1) (by rw [str_size]; exact h.2)
  rw [fld_str] at this; exact this
set_option maxRecDepth 100000 in
set_option maxHeartbeats 1000000 in
theorem l3Valid_any (a : Option Addr) (n c : Nat) (xs : List Fld) (w : World) (hr : RdF w a n xs) (hn : n ≤ 1073741824) (hx : ∀ x ∈ xs, SmallF 1073741000 x) :
    Calls Tryz.prog 80 #[.slice a n c] w fun e w' => e = .returned (.bool (fldsOk xs)) ∧ Below w.heap.size w w' := by
  obtain ⟨hl, hr2⟩ := hr
  have HLEN := Lib.hid hl
  have HR := Lib.hid hr2
  have HX := Lib.hid hx
  clear hl hr2 hx
  go_enter Tryz.func80, Tryz.ntmps80
  go_wp2_with fail
  go_loopw [3] (fun i wr => ∃ (k : Nat), k ≤ n ∧ k ≤ 21 ∧ i = .int .i64 k ∧ Below w.heap.size w wr ∧ ∀ j, j < k → (hj : j < xs.length) → isFld xs[j] = true) (fun i _ => n - (intOf i).toNat)
  case atStart => exact ⟨0, Nat.zero_le _, by omega, rfl, Below.refl _ _, fun j h => by omega⟩
  case round =>
    obtain ⟨k, hk, hk2, rfl, hb, hall⟩ := hrel
    have HA := Lib.hid hall
    clear hall
    by_cases hlt : k < n
    · by_cases h20 : k ≤ 20
      · have hd : decide ((k : Int) ≤ 20) = true := by simp; omega
        have hkx : k < xs.length := by rw [HLEN.out]; exact hlt
        obtain ⟨b, off, rfl, hbl, hcell⟩ := HR.out.resolve_left (by omega)
        obtain ⟨q0, q1⟩ := RdR.fld hcell hkx
        rw [← below_at hb hbl] at q0 q1
        have HS := Lib.hid (HX.out _ (List.getElem_mem hkx))
        have HV := Lib.hid (fieldValidS_fld xs[k])
        have HBAD : Hid (isFld xs[k] = false → fldsOk xs = false) := fun h => fldsOk_bad hkx h
        clear hcell
        generalize hQ : isFld xs[k] = q at *
        have HQ := Lib.hid hQ
        generalize str xs[k].name = s0 at *
        generalize str xs[k].val = s1 at *
        clear hQ
        cases q
        · have HB := Lib.hid (HBAD.out rfl)
          clear HBAD
          go_wp2_with fail
          refine (HV.out _ HS.out).mono ?_
          rintro e w1 ⟨rfl, hb1⟩
          go_wp2
          go_ret
          exact ⟨ret_bool HB.out.symm, nx hb hb1⟩
        · clear HBAD
          go_wp2_with fail
          refine (HV.out _ HS.out).mono ?_
          rintro e w1 ⟨rfl, hb1⟩
          go_wp2
          go_roundw
          case rel => exact ⟨k + 1, by omega, by omega, by go_num, nx hb hb1, fun j hj hjx => by
            by_cases e : j = k
            · subst e; exact HQ.out
            · exact HA.out j (by omega) hjx⟩
          case measure => simp [intOf]; omega
      · have hd : decide ((k : Int) ≤ 20) = false := by simp; omega
        have HE := Lib.hid (fldsOk_long (fs := xs) (by rw [HLEN.out]; omega))
        have d2 : decide ((n : Int) ≤ 20) = false := by simp; omega
        go_wp2
        go_ret
        exact ⟨ret_bool HE.out.symm, hb⟩
    · by_cases h20 : n ≤ 20
      · have d2 : decide ((n : Int) ≤ 20) = true := by simp; omega
        have HE := Lib.hid (fldsOk_good (fs := xs) (fun j hj => HA.out j (by have := HLEN.out; omega) hj) (by rw [HLEN.out]; omega))
        go_wp2
        go_ret
        exact ⟨ret_bool HE.out.symm, hb⟩
      · have d2 : decide ((n : Int) ≤ 20) = false := by simp; omega
        have HE := Lib.hid (fldsOk_long (fs := xs) (by rw [HLEN.out]; omega))
        go_wp2
        go_ret
        exact ⟨ret_bool HE.out.symm, hb⟩
end Go.Proofs.YtcdmjckkencgoaaGreatDoor
