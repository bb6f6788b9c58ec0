/-
  Fields: what the program's functions on names and fields return. No statement is proved here.
-/
import Derived.Test.YtcdmjckkencgoaaGreatDoorFldV
import Derived.Test.YtcdmjckkencgoaaGreatDoorParse
import Derived.Deep.QuietTactic
import Derived.BigQuiet
namespace Go.Proofs.YtcdmjckkencgoaaGreatDoor
open Go.RowKit

theorem nameC_eq (c : UInt8) : nameC c = (letB c || digB c || decide (c = 45)) := by unfold nameC; rw [alnum_eq]
theorem isFName_bad (s : ByteArray) (k : Nat) (hk : k < s.size) (h : nameC s[k] = false) : isFName s.data.toList = false := by
  have hm : s[k] ∈ s.data.toList := by simp [ByteArray.getElem_eq_getElem_data]
  have : s.data.toList.all nameC = false := by rw [List.all_eq_false]; exact ⟨_, hm, by simp [h]⟩
  unfold isFName; rw [this]; simp
theorem isFName_size (s : ByteArray) (h : s.size < 1 ∨ 30 < s.size) : isFName s.data.toList = false := by
  unfold isFName; rw [size_list]
  rcases h with h | h
  · rw [decide_eq_false (by omega)]; rfl
  · rw [decide_eq_false (p := s.size ≤ 30) (by omega)]; simp
theorem headLet_at (s : ByteArray) (h : 0 < s.size) : headLet s.data.toList = letB s[0] := by
  have hl := size_list s
  have e : s[0] = s.data.toList[0]'(by rw [hl]; exact h) := rfl
  rw [e]
  have key : ∀ (l : List UInt8) (hl : 0 < l.length), headLet l = letB l[0] := fun l hl => by
    match l, hl with
    | c :: cs, _ => rfl
  exact key _ _
theorem isFName_good (s : ByteArray) (h0 : 0 < s.size) (h1 : s.size ≤ 30) (h : ∀ j, (h' : j < s.size) → nameC s[j] = true) : isFName s.data.toList = letB s[0] := by
  have hall : s.data.toList.all nameC = true := by
    rw [List.all_eq_true]; intro x hx
    obtain ⟨j, hj, rfl⟩ := List.getElem_of_mem hx
    exact h j hj
  unfold isFName
  rw [size_list, hall, headLet_at s h0, decide_eq_true (by omega), decide_eq_true h1]; simp
set_option maxRecDepth 100000 in
set_option maxHeartbeats 2000000 in
theorem nameValid_any (s : ByteArray) (w : World) (hs : s.size ≤ 1073741824) :
    Calls Tryz.prog 154 #[.string s] w fun e w' => e = .returned (.bool (isFName s.data.toList)) ∧ w = w' := by
  go_enter Tryz.func154, Tryz.ntmps154
  go_wp2_with fail
  go_loop [3] (fun i => ∃ k : Nat, k ≤ s.size ∧ i = .int .i64 k ∧ ∀ j, (h : j < k) → (h' : j < s.size) → nameC s[j] = true) (fun i => s.size - (intOf i).toNat)
  case atStart => exact ⟨0, Nat.zero_le _, rfl, fun j h => by omega⟩
  case round =>
    obtain ⟨k, hk, rfl, hall⟩ := hrel
    have H := Lib.hid hall
    clear hall
    by_cases hlt : k < s.size
    · cases h1 : letB s[k]
      · cases h2 : digB s[k]
        · by_cases h3 : s[k] = 45
          · have HN : Hid (nameC s[k] = true) := by show _ = _; rw [nameC_eq, h3]; decide
            have H1 := Lib.hid h1
            have H2 := Lib.hid h2
            have e3 := bneq_f h3 (n := 45) rfl
            clear h1 h2 h3
            go_wp2_with fail
            refine (isLetter_any _ _).mono ?_
            rintro e w1 ⟨rfl, rfl⟩
            rw [H1.out]
            go_wp2_with fail
            refine (isDigit_any _ _).mono ?_
            rintro e w1 ⟨rfl, rfl⟩
            rw [H2.out]
            go_wp2
            go_round
            case rel => exact ⟨k + 1, by omega, by go_num, fun j h h' => by
              by_cases e : j = k
              · subst e; exact HN.out
              · exact H.out j (by omega) h'⟩
            case measure => simp [intOf]; omega
          · have HN := Lib.hid (isFName_bad s k hlt (by rw [nameC_eq, h1, h2]; simp [h3]))
            have H1 := Lib.hid h1
            have H2 := Lib.hid h2
            have e3 := bneq_t h3 (n := 45) rfl
            clear h1 h2 h3
            go_wp2_with fail
            refine (isLetter_any _ _).mono ?_
            rintro e w1 ⟨rfl, rfl⟩
            rw [H1.out]
            go_wp2_with fail
            refine (isDigit_any _ _).mono ?_
            rintro e w1 ⟨rfl, rfl⟩
            rw [H2.out]
            go_wp2
            go_ret
            exact ⟨ret_bool HN.out.symm, rfl⟩
        · have HN : Hid (nameC s[k] = true) := by show _ = _; rw [nameC_eq, h2]; simp
          have H1 := Lib.hid h1
          have H2 := Lib.hid h2
          clear h1 h2
          go_wp2_with fail
          refine (isLetter_any _ _).mono ?_
          rintro e w1 ⟨rfl, rfl⟩
          rw [H1.out]
          go_wp2_with fail
          refine (isDigit_any _ _).mono ?_
          rintro e w1 ⟨rfl, rfl⟩
          rw [H2.out]
          go_wp2
          go_round
          case rel => exact ⟨k + 1, by omega, by go_num, fun j h h' => by
            by_cases e : j = k
            · subst e; exact HN.out
            · exact H.out j (by omega) h'⟩
          case measure => simp [intOf]; omega
      · have HN : Hid (nameC s[k] = true) := by show _ = _; rw [nameC_eq, h1]; simp
        have H1 := Lib.hid h1
        clear h1
        go_wp2_with fail
        refine (isLetter_any _ _).mono ?_
        rintro e w1 ⟨rfl, rfl⟩
        rw [H1.out]
        go_wp2
        go_round
        case rel => exact ⟨k + 1, by omega, by go_num, fun j h h' => by
          by_cases e : j = k
          · subst e; exact HN.out
          · exact H.out j (by omega) h'⟩
        case measure => simp [intOf]; omega
    · by_cases h0 : s.size = 0
      · have HN := Lib.hid (isFName_size s (.inl (by omega)))
        have he := empty_t h0
        have H0 := Lib.hid h0
        clear h0
        go_wp2
        go_ret
        exact ⟨ret_bool HN.out.symm, rfl⟩
      · have he := empty_f (s := s) (by omega)
        by_cases h30 : s.size ≤ 30
        · have HN := Lib.hid (isFName_good s (by omega) h30 (fun j h' => H.out j (by omega) h'))
          have hp : 0 < s.size := by omega
          have d1 : decide ((s.size : Int) ≤ 30) = true := by simp; omega
          go_wp2_with fail
          refine (isLetter_any _ _).mono ?_
          rintro e w1 ⟨rfl, rfl⟩
          go_wp2
          go_ret
          exact ⟨ret_bool HN.out.symm, rfl⟩
        · have HN := Lib.hid (isFName_size s (.inr (by omega)))
          have d1 : decide ((s.size : Int) ≤ 30) = false := by simp; omega
          go_wp2
          go_ret
          exact ⟨ret_bool HN.out.symm, rfl⟩
theorem trimQ_any (s : ByteArray) (w : World) (hs : s.size ≤ 1073741824) :
    Calls Tryz.prog 130 #[.string s, .string ⟨#[32]⟩] w fun e w' => e = .returned (.string (str (trimS s.data.toList))) ∧ ∃ m, w' = w.drewN m := by
  refine (Tryz.strings_Trim_one s 32 (by decide) w (by omega)).mono ?_
  rintro e w' ⟨rfl, hw⟩
  refine ⟨ret_str ?_, ?_⟩
  · show str _ = str _
    congr 1
    exact trim_swap s.data.toList
  · rcases hw with rfl | rfl
    · exact ⟨0, rfl⟩
    · exact ⟨1, rfl⟩
set_option maxRecDepth 100000 in
set_option maxHeartbeats 2000000 in
theorem fieldValid_any (n v : ByteArray) (w : World) (hn : n.size ≤ 1073741000) (hv : v.size ≤ 1073741000) :
    Calls Tryz.prog 121 #[.agg #[.string n, .string v]] w fun e w' => e = .returned (.bool (isFld (fld n v))) ∧ Below w.heap.size w w' := by
  have HP : Hid (isFld (fld n v) = (isFName n.data.toList && (isText v.data.toList && (decide (v.size ≤ 150) && decide (trimS v.data.toList = v.data.toList))))) := rfl
  have hb0 : Below w.heap.size w (w.alloc (.cells #[.string n, .string v] 78)) := (Below.refl _ _).alloc (Nat.le_refl _) _
  have HN : Hid (∀ u : World, Calls Tryz.prog 154 #[.string n] u fun e w' => e = .returned (.bool (isFName n.data.toList)) ∧ w' = u) := fun u => (nameValid_any n u (by omega)).mono fun _ _ ⟨h1, h2⟩ => ⟨h1, h2.symm⟩
  have HT : Hid (∀ u : World, Calls Tryz.prog 124 #[.string v] u fun e w' => e = .returned (.bool (isText v.data.toList)) ∧ w' = u) := fun u => (textValid_any v u (by unfold maxLen; omega)).mono fun _ _ ⟨h1, h2⟩ => ⟨h1, h2.symm⟩
  have HM : Hid (∀ u : World, Calls Tryz.prog 130 #[.string v, .string ⟨#[32]⟩] u fun e w' => e = .returned (.string (str (trimS v.data.toList))) ∧ ∃ m, w' = u.drewN m) := fun u => trimQ_any v u (by omega)
  have HD : Hid (decide (v = str (trimS v.data.toList)) = decide (trimS v.data.toList = v.data.toList)) := by
    show _ = _
    refine decide_eq_decide.2 ⟨fun h => ?_, fun h => by rw [h, str_of]⟩
    have := congrArg (·.data.toList) h
    simpa [str_list] using this.symm
  generalize isFName n.data.toList = q1 at *
  generalize isText v.data.toList = q2 at *
  by_cases h3 : v.size ≤ 150
  · have d1 : decide ((v.size : Int) ≤ 150) = true := by simp; omega
    have HR : Hid (isFld (fld n v) = (q1 && (q2 && decide (v = str (trimS v.data.toList))))) := by show _ = _; rw [HP.out, decide_eq_true h3, HD.out, Bool.true_and]
    cases q1 <;> cases q2
    all_goals
      go_enter Tryz.func121, Tryz.ntmps121
      go_wp2_with fail
      go_quiet (first
        | (go_at_call 154; refine Calls.quiet_of_same (HN.out _))
        | (go_at_call 124; refine Calls.quiet_of_same (HT.out _))
        | (go_at_call 130; refine Calls.quiet_of (HM.out _)))
      go_wp2
      go_ret
      first
        | exact ⟨ret_bool (by rw [HR.out]; rfl), (hb0.trans ⟨rfl, rfl, rfl, Nat.le_refl _, fun _ _ => rfl⟩)⟩
        | exact ⟨ret_bool (by rw [HR.out]; exact beq_dec _ _), (hb0.trans ⟨rfl, rfl, rfl, Nat.le_refl _, fun _ _ => rfl⟩)⟩
  · have d1 : decide ((v.size : Int) ≤ 150) = false := by simp; omega
    have HR : Hid (isFld (fld n v) = false) := by show _ = _; rw [HP.out, decide_eq_false h3]; simp
    cases q1 <;> cases q2
    all_goals
      go_enter Tryz.func121, Tryz.ntmps121
      go_wp2_with fail
      go_quiet (first
        | (go_at_call 154; refine Calls.quiet_of_same (HN.out _))
        | (go_at_call 124; refine Calls.quiet_of_same (HT.out _))
        | (go_at_call 130; refine Calls.quiet_of (HM.out _)))
      go_wp2
      go_ret
      exact ⟨ret_bool HR.out.symm, (hb0.trans ⟨rfl, rfl, rfl, Nat.le_refl _, fun _ _ => rfl⟩)⟩
theorem fieldValid_fld (f : Fld) (w : World) (h : SmallF 1073741000 f) :
    Calls Tryz.prog 121 #[.agg #[.string (str f.name), .string (str f.val)]] w fun e w' => e = .returned (.bool (isFld f)) ∧ Below w.heap.size w w' := by
  have := fieldValid_any (str f.name) (str f.val) w (by rw [str_size]; exact h.1) (by rw [str_size]; exact h.2)
  rw [fld_str] at this; exact this
set_option maxRecDepth 100000 in
set_option maxHeartbeats 1000000 in
theorem fieldsValid_any (a : Option Addr) (n c : Nat) (xs : List Fld) (w : World) (hr : RdF w a n xs) (hn : n ≤ 1073741824) (hx : ∀ x ∈ xs, SmallF 1073741000 x) :
    Calls Tryz.prog 87 #[.slice a n c] w fun e w' => e = .returned (.bool (fldsOk xs)) ∧ Below w.heap.size w w' := by
  obtain ⟨hl, hr2⟩ := hr
  have HLEN := Lib.hid hl
  have HR := Lib.hid hr2
  have HX := Lib.hid hx
  clear hl hr2 hx
  by_cases h20 : 20 < n
  · have d1 : decide ((20 : Int) < n) = true := by simp; omega
    have HN := Lib.hid (fldsOk_long (fs := xs) (by rw [HLEN.out]; exact h20))
    go_enter Tryz.func87, Tryz.ntmps87
    go_wp2
    go_ret
    exact ⟨ret_bool HN.out.symm, Below.refl _ _⟩
  · have d1 : decide ((20 : Int) < n) = false := by simp; omega
    go_enter Tryz.func87, Tryz.ntmps87
    go_wp2_with fail
    go_loopw [10] (fun i wr => ∃ (k : Nat), k ≤ n ∧ i = .int .i64 k ∧ Below w.heap.size w wr ∧ ∀ j, j < k → (hj : j < xs.length) → isFld xs[j] = true) (fun i _ => n - (intOf i).toNat)
    case atStart => exact ⟨0, Nat.zero_le _, rfl, Below.refl _ _, fun j h => by omega⟩
    case round =>
      obtain ⟨k, hk, rfl, hb, hall⟩ := hrel
      have HA := Lib.hid hall
      clear hall
      by_cases hlt : k < n
      · have hkx : k < xs.length := by rw [HLEN.out]; exact hlt
        obtain ⟨b, off, rfl, hbl, hcell⟩ := HR.out.resolve_left (by omega)
        obtain ⟨q0, q1⟩ := RdR.fld hcell hkx
        rw [← below_at hb hbl] at q0 q1
        have hsm := HX.out _ (List.getElem_mem hkx)
        have HV := Lib.hid (fieldValid_fld xs[k])
        have HBAD : Hid (isFld xs[k] = false → fldsOk xs = false) := fun h => fldsOk_bad hkx h
        have hbA := hb.alloc hb.size (.cells #[.string (str xs[k].name), .string (str xs[k].val)] 78)
        clear hcell
        have HS := Lib.hid hsm
        clear hsm
        generalize hQ : isFld xs[k] = q at *
        have HQ := Lib.hid hQ
        generalize str xs[k].name = s0 at *
        generalize str xs[k].val = s1 at *
        clear hQ
        cases q
        · have HB := Lib.hid (HBAD.out rfl)
          clear HBAD
          go_wp2_with fail
          refine (HV.out _ HS.out).mono ?_
          rintro e w1 ⟨rfl, hb1⟩
          go_wp2
          go_ret
          exact ⟨ret_bool HB.out.symm, nx hbA hb1⟩
        · clear HBAD
          go_wp2_with fail
          refine (HV.out _ HS.out).mono ?_
          rintro e w1 ⟨rfl, hb1⟩
          go_wp2
          go_roundw
          case rel => exact ⟨k + 1, by omega, by go_num, nx hbA hb1, fun j hj hjx => by
            by_cases e : j = k
            · subst e; exact HQ.out
            · exact HA.out j (by omega) hjx⟩
          case measure => simp [intOf]; omega
      · have HE := Lib.hid (fldsOk_good (fs := xs) (fun j hj => HA.out j (by have := HLEN.out; omega) hj) (by rw [HLEN.out]; omega))
        go_wp2
        go_ret
        exact ⟨ret_bool HE.out.symm, hb⟩
end Go.Proofs.YtcdmjckkencgoaaGreatDoor
