/-
  Kinds: what the model's KindValid returns. No statement is proved here.
-/
import Derived.Test.YtcdmjckkencgoaaGreatDoorKindI
import Derived.Test.YtcdmjckkencgoaaGreatDoorParseS
import Derived.Test.YtcdmjckkencgoaaGreatDoorFldS
namespace Go.Proofs.YtcdmjckkencgoaaGreatDoor
open Go.RowKit

theorem RdF.takeN {w : World} {a : Option Addr} {n : Nat} {xs : List Fld} (h : RdF w a n xs) {k : Nat} (hk : k ≤ xs.length) : RdF w a k (xs.take k) := by
  refine ⟨by rw [List.length_take]; omega, ?_⟩
  rcases h.2 with e | ⟨g, off, ha, hb, hx⟩
  · exact .inl (by have := h.1; omega)
  · refine .inr ⟨g, off, ha, hb, fun i hi d v hv => ?_⟩
    rw [List.getElem_take] at hv
    exact hx i (by rw [List.length_take] at hi; omega) d v hv
theorem idxI_neg_dup {xs : List Fld} {i : Nat} (hi : i < xs.length) : parAt xs i = (isSmall xs[i].name && (isText xs[i].val && decide (xs[i].val.length ≤ 40)) && decide (idxI (findN (xs.take i) xs[i].name) < 0)) := by
  rw [parAt_at hi]
  have : (findN (xs.take i) xs[i].name).isNone = decide (idxI (findN (xs.take i) xs[i].name) < 0) := by
    cases findN (xs.take i) xs[i].name with
    | none => rfl
    | some j => rw [idxI_some, decide_eq_false (by omega)]; rfl
  rw [this]; rfl
theorem parAt_small {xs : List Fld} {i : Nat} (hi : i < xs.length) (h : parAt xs i = true) : SmallF 1000 xs[i] := by
  rw [parAt_at hi, Bool.and_eq_true] at h
  obtain ⟨⟨h1, _⟩, _, h3⟩ := parOk_iff.1 h.1
  have := (isFName_iff.1 h1).2.1
  exact ⟨by omega, by omega⟩
theorem parT_size (f : Fld) : ((parT f).length : Int) = 3 + ((str f.name).size : Int) + ((str (quoteW f.val)).size : Int) := by
  rw [str_size, str_size]; unfold parT
  simp only [List.length_cons, List.length_append]; omega
set_option maxRecDepth 100000 in
set_option maxHeartbeats 1600000 in
theorem kindValidS_any (m s : ByteArray) (a : Option Addr) (n c : Nat) (xs : List Fld) (w : World) (hm : m.size ≤ 1073741824) (hs : s.size ≤ 1073741824) (hr : RdF w a n xs) (hnc : n ≤ c) (hn : n ≤ 1073741824) (hx : ∀ x ∈ xs, SmallF 1048576 x) :
    Calls Tryz.prog 119 #[.agg #[.string m, .string s, .slice a n c]] w fun e w' => e = .returned (.bool (isKnd ⟨m.data.toList, s.data.toList, xs⟩)) ∧ Below w.heap.size w w' := by
  have hb0 : Below w.heap.size w (w.alloc (.cells #[.string m, .string s, .slice a n c] 97)) := (Below.refl _ _).alloc (Nat.le_refl _) _
  have HK0 := Lib.hid (KK3.new w (.string m) (.string s) (.slice a n c) 97)
  have HR := Lib.hid (hr.below hb0)
  have HE : Hid (isKnd ⟨m.data.toList, s.data.toList, xs⟩ = (isSmall m.data.toList && (isSmall s.data.toList && (decide (xs.length ≤ 4) && (parsOk xs && decide ((m.size : Int) + s.size + 1 + (parsT xs).length ≤ 150)))))) := by
    show _ = _
    have ht : (textK ⟨m.data.toList, s.data.toList, xs⟩).length = m.size + s.size + 1 + (parsT xs).length := by
      rw [textK_split]
      simp only [List.length_append, List.length_cons, size_list]; omega
    unfold isKnd
    rw [ht]
    have : decide (m.size + s.size + 1 + (parsT xs).length ≤ 150) = decide ((m.size : Int) + s.size + 1 + (parsT xs).length ≤ 150) := decide_eq_decide.2 (by omega)
    rw [this]
  have HSM : Hid (isSmall m.data.toList = true → m.size ≤ 1000) := small_size
  have HSS : Hid (isSmall s.data.toList = true → s.size ≤ 1000) := small_size
  have HLEN := Lib.hid hr.1
  have HX := Lib.hid hx
  have H1 := Lib.hid (fun u => l7Word_any m u hm)
  have H2 := Lib.hid (fun u => l7Word_any s u hs)
  clear hr hx
  generalize isSmall m.data.toList = b1 at *
  generalize isSmall s.data.toList = b2 at *
  generalize hR : isKnd ⟨m.data.toList, s.data.toList, xs⟩ = R at *
  clear hR
  obtain ⟨W0, hW⟩ : ∃ W0, W0 = w.alloc (.cells #[.string m, .string s, .slice a n c] 97) := ⟨_, rfl⟩
  rw [← hW] at hb0 HK0 HR
  have HW := Lib.hid hW
  clear hW
  cases b1
  · go_enter Tryz.func119, Tryz.ntmps119
    go_wp2_with fail
    rw [← HW.out]
    refine (H1.out _).mono ?_
    rintro e w1 ⟨rfl, hb1⟩
    go_wp2
    go_ret
    exact ⟨ret_bool (by rw [HE.out]; rfl), nx hb0 hb1⟩
  · cases b2
    · go_enter Tryz.func119, Tryz.ntmps119
      go_wp2_with fail
      rw [← HW.out]
      refine (H1.out _).mono ?_
      rintro e w1 ⟨rfl, hb1⟩
      obtain ⟨k0, k1, k2⟩ := HK0.out.below hb1
      go_wp2_with fail
      refine (H2.out _).mono ?_
      rintro e w2 ⟨rfl, hb2⟩
      go_wp2
      go_ret
      exact ⟨ret_bool (by rw [HE.out]; rfl), nx hb0 (nx hb1 hb2)⟩
    · have hm1 := HSM.out rfl
      have hs1 := HSS.out rfl
      by_cases h4 : 4 < n
      · have d4 : decide ((4 : Int) < (n : Int)) = true := by simp; omega
        have HV : Hid (R = false) := by show _ = _; rw [HE.out, decide_eq_false (by have := HLEN.out; omega : ¬ xs.length ≤ 4)]; rfl
        clear HE
        go_enter Tryz.func119, Tryz.ntmps119
        go_wp2_with fail
        rw [← HW.out]
        refine (H1.out _).mono ?_
        rintro e w1 ⟨rfl, hb1⟩
        have HK1 := Lib.hid (HK0.out.below hb1)
        obtain ⟨k0, k1, k2⟩ := HK1.out
        go_wp2_with fail
        refine (H2.out _).mono ?_
        rintro e w2 ⟨rfl, hb2⟩
        clear k0 k1 k2
        obtain ⟨k0, k1, k2⟩ := HK1.out.below hb2
        go_wp2
        go_ret
        exact ⟨ret_bool HV.out.symm, nx hb0 (nx hb1 hb2)⟩
      · have d4 : decide ((4 : Int) < (n : Int)) = false := by simp; omega
        have HV : Hid (R = (parsOk xs && decide ((m.size : Int) + s.size + 1 + (parsT xs).length ≤ 150))) := by show _ = _; rw [HE.out, decide_eq_true (by have := HLEN.out; omega : xs.length ≤ 4)]; rfl
        clear HE HSM HSS
        go_enter Tryz.func119, Tryz.ntmps119
        go_wp2_with fail
        rw [← HW.out]
        refine (H1.out _).mono ?_
        rintro e w1 ⟨rfl, hb1⟩
        have HK1 := Lib.hid (HK0.out.below hb1)
        obtain ⟨k0, k1, k2⟩ := HK1.out
        go_wp2_with fail
        refine (H2.out _).mono ?_
        rintro e w2 ⟨rfl, hb2⟩
        clear k0 k1 k2
        obtain ⟨k0, k1, k2⟩ := HK1.out.below hb2
        go_wp2_with fail
        clear k0 k1 k2
        have HK2 := Lib.hid (HK1.out.below hb2)
        have hb02 := nx hb1 hb2
        go_loopw [3, 4] (fun t i wr => ∃ (k : Nat) (S : Int), k ≤ n ∧ i = .int .i64 k ∧ t = .int .i64 S ∧ S = (m.size : Int) + s.size + 1 + ((parsT (xs.take k)).length : Int) ∧ 0 ≤ S ∧ S ≤ 2001 + 1405 * (k : Int) ∧ Below w2.heap.size w2 wr ∧ ∀ j, j < k → parAt xs j = true) (fun _ i _ => n - (intOf i).toNat)
        case atStart => exact ⟨0, _, Nat.zero_le _, rfl, rfl, by rw [List.take_zero]; show _ = _ + ((0 : Nat) : Int); omega, by omega, by omega, Below.refl _ _, fun j hj => by omega⟩
        case round =>
          obtain ⟨k, S, hk, rfl, rfl, hS, hS0, hS1, hb, hall⟩ := hrel
          have HA := Lib.hid hall
          have HSQ := Lib.hid hS
          clear hall hS
          have HK3 := Lib.hid (HK2.out.below hb)
          obtain ⟨k0, k1, k2⟩ := HK3.out
          by_cases hlt : k < n
          · have hkx : k < xs.length := by rw [HLEN.out]; exact hlt
            obtain ⟨b, off, rfl, hbl, hcell⟩ := HR.out.2.resolve_left (by omega)
            obtain ⟨q0, q1⟩ := RdR.fld hcell hkx
            have hbW := nx hb02 hb
            rw [← below_at hbW hbl] at q0 q1
            have HPA := Lib.hid (idxI_neg_dup hkx)
            have HBAD : Hid (parAt xs k = false → parsOk xs = false) := fun h => parsOk_bad hkx h
            have HSF : Hid (parAt xs k = true → SmallF 1000 xs[k]) := parAt_small hkx
            have hsz := HX.out _ (List.getElem_mem hkx)
            have hz0 : (str xs[k].name).size ≤ 1048576 := by rw [str_size]; exact hsz.1
            have hz1 : (str xs[k].val).size ≤ 1048576 := by rw [str_size]; exact hsz.2
            have HVS : Hid ((str xs[k].val).size = xs[k].val.length) := str_size _
            have HS1 : Hid (∀ u, Calls Tryz.prog 151 #[.string (str xs[k].name)] u fun e w' => e = .returned (.bool (isSmall xs[k].name)) ∧ Below u.heap.size u w') := fun u => by
              have := l7Word_any (str xs[k].name) u (by omega)
              rw [str_list] at this; exact this
            have HF1 : Hid (∀ u, Below wr.heap.size wr u → Calls Tryz.prog 101 #[.slice (some ⟨b, off, none⟩) k c, .string (str xs[k].name)] u fun e w' => e = .returned (.int .i64 (idxI (findN (xs.take k) xs[k].name))) ∧ Below u.heap.size u w') := fun u h => by
              have := l3Find_any (some ⟨b, off, none⟩) k c (xs.take k) (str xs[k].name) u (RdF.takeN ((HR.out.below hbW).below h) (k := k) (by omega)) (by omega) (fun x hx => (HX.out x (List.mem_of_mem_take hx)).up (by omega)) (by omega)
              rw [str_list] at this; exact this
            have HT1 : Hid (∀ u, Calls Tryz.prog 152 #[.string (str xs[k].val)] u fun e w' => e = .returned (.bool (isText xs[k].val && decide (xs[k].val.length ≤ 40))) ∧ u = w') := fun u => by
              have := l2Name_any (str xs[k].val) u (by omega)
              rw [str_list] at this; exact this
            have HQ1 : Hid (∀ u, Calls Tryz.prog 153 #[.string (str xs[k].val)] u fun e w' => e = .returned (.string (str (quoteW xs[k].val))) ∧ Below u.heap.size u w') := fun u => by
              have := quoteWordS_any (str xs[k].val) u (by omega)
              rw [str_list] at this; exact this
            have HTS : Hid (((parsT (xs.take (k + 1))).length : Int) = ((parsT (xs.take k)).length : Int) + (3 + ((str xs[k].name).size : Int) + ((str (quoteW xs[k].val)).size : Int))) := by
              show _ = _
              rw [parsT_take xs k hkx, List.length_append, ← parT_size]; omega
            have HPL : Hid (parAt xs k = true → (str xs[k].name).size ≤ 1000) := fun h => by rw [str_size]; exact (HSF.out h).1
            have hql : (str (quoteW xs[k].val)).size ≤ 402 := by rw [str_size]; exact quoteW_len _
            have hbA : Below wr.heap.size wr (wr.alloc (.cells #[.string (str xs[k].name), .string (str xs[k].val)] 78)) := (Below.refl _ _).alloc (Nat.le_refl _) _
            have HKF := Lib.hid (K2.new wr (.string (str xs[k].name)) (.string (str xs[k].val)) 78)
            clear hcell hsz HVS HSF
            generalize idxI (findN (xs.take k) xs[k].name) = J at *
            generalize str (quoteW xs[k].val) = Q at *
            generalize str xs[k].name = N at *
            generalize str xs[k].val = V at *
            generalize (isText xs[k].val && decide (xs[k].val.length ≤ 40)) = c2 at *
            generalize isSmall xs[k].name = c1 at *
            go_wp2_with fail
            generalize hW2 : wr.alloc (.cells #[.string N, .string V] 78) = W2 at *
            clear hW2 k0 k1 k2 q0 q1
            obtain ⟨G, hG⟩ : ∃ G, G = wr.heap.size := ⟨_, rfl⟩
            have z2 := fun (y : BelowT W2) => ((HK3.out.below hbA).below y.below).2.2
            have y0 := fun (y : BelowT W2) => (HKF.out.below y.below).1
            have y1 := fun (y : BelowT W2) => (HKF.out.below y.below).2
            have hk4 : k ≤ 4 := by omega
            cases c1
            · have HP := Lib.hid (HBAD.out (by rw [HPA.out]; rfl))
              refine wp_region_quietB (W := W2) (by kernel_rfl) (by kernel_rfl) (Below.refl _ _) ?_
              repeat (go_big_quiet_step (first
                | (go_at_call 151; exact calls_belowT (HS1.out _))))
              refine wpQuiet_nil ?_
              intro wz hwz
              obtain ⟨x9, rfl⟩ := hwz
              have hbx := nx hb (nx hbA x9.below)
              clear y0 y1 z2
              generalize x9.val = w9 at *
              go_wp2
              go_ret
              exact ⟨ret_bool (by rw [HV.out, HP.out]; rfl), nx hb0 (nx hb02 hbx)⟩
            · cases c2
              · have HP := Lib.hid (HBAD.out (by rw [HPA.out]; rfl))
                refine wp_region_quietB (W := W2) (by kernel_rfl) (by kernel_rfl) (Below.refl _ _) ?_
                repeat (go_big_quiet_step (first
                  | (go_at_call 151; exact calls_belowT (HS1.out _))
                  | (go_at_call 152; exact calls_belowT ((HT1.out _).mono (by rintro e w5 ⟨rfl, rfl⟩; exact ⟨rfl, Below.refl _ _⟩)))))
                refine wpQuiet_nil ?_
                intro wz hwz
                obtain ⟨x9, rfl⟩ := hwz
                have hbx := nx hb (nx hbA x9.below)
                clear y0 y1 z2
                generalize x9.val = w9 at *
                go_wp2
                go_ret
                exact ⟨ret_bool (by rw [HV.out, HP.out]; rfl), nx hb0 (nx hb02 hbx)⟩
              · by_cases hJ : J < 0
                · have dJ : decide (0 ≤ J) = false := by simp; omega
                  have HP : Hid (parAt xs k = true) := by show _ = _; rw [HPA.out, decide_eq_true hJ]; rfl
                  have hN := HPL.out HP.out
                  refine wp_region_quietB (W := W2) (by kernel_rfl) (by kernel_rfl) (Below.refl _ _) ?_
                  repeat (go_big_quiet_step (first
                    | (go_at_call 151; exact calls_belowT (HS1.out _))
                    | (go_at_call 152; exact calls_belowT ((HT1.out _).mono (by rintro e w5 ⟨rfl, rfl⟩; exact ⟨rfl, Below.refl _ _⟩)))
                    | (go_at_call 101; exact calls_belowT (HF1.out _ (nx hbA (BelowT.below _))))))
                  refine wpQuiet_nil ?_
                  intro wz hwz
                  obtain ⟨x9, rfl⟩ := hwz
                  have hbx := nx hbA x9.below
                  have HKG := Lib.hid (HKF.out.below x9.below)
                  clear y0 y1 z2
                  generalize x9.val = w9 at *
                  go_wp2_with fail
                  have y0 := fun (y : BelowT w9) => (HKG.out.below y.below).1
                  have y1 := fun (y : BelowT w9) => (HKG.out.below y.below).2
                  refine wp_region_quietB (W := w9) (by kernel_rfl) (by kernel_rfl) (Below.refl _ _) ?_
                  repeat (go_big_quiet_step (first
                    | (go_at_call 153; exact calls_belowT (HQ1.out _))))
                  refine wpQuiet_nil ?_
                  intro wz hwz
                  obtain ⟨x8, rfl⟩ := hwz
                  have hbz := nx hb (nx hbx x8.below)
                  clear y0 y1
                  generalize x8.val = w8 at *
                  go_wp2
                  go_roundw
                  case rel => exact ⟨k + 1, _, by omega, by go_num, rfl, by rw [HTS.out, HSQ.out]; omega, by omega, by omega, hbz, fun j hj => by
                    by_cases e : j = k
                    · subst e; exact HP.out
                    · exact HA.out j (by omega)⟩
                  case measure => simp [intOf]; omega
                · have dJ : decide (0 ≤ J) = true := by simp; omega
                  have HP := Lib.hid (HBAD.out (by rw [HPA.out, decide_eq_false hJ]; rfl))
                  refine wp_region_quietB (W := W2) (by kernel_rfl) (by kernel_rfl) (Below.refl _ _) ?_
                  repeat (go_big_quiet_step (first
                    | (go_at_call 151; exact calls_belowT (HS1.out _))
                    | (go_at_call 152; exact calls_belowT ((HT1.out _).mono (by rintro e w5 ⟨rfl, rfl⟩; exact ⟨rfl, Below.refl _ _⟩)))
                    | (go_at_call 101; exact calls_belowT (HF1.out _ (nx hbA (BelowT.below _))))))
                  refine wpQuiet_nil ?_
                  intro wz hwz
                  obtain ⟨x9, rfl⟩ := hwz
                  have hbx := nx hb (nx hbA x9.below)
                  clear y0 y1 z2
                  generalize x9.val = w9 at *
                  go_wp2
                  go_ret
                  exact ⟨ret_bool (by rw [HV.out, HP.out]; rfl), nx hb0 (nx hb02 hbx)⟩
          · have HP := Lib.hid (parsOk_good (ps := xs) (fun j hj => HA.out j (by have := HLEN.out; omega)))
            have HF : Hid (R = decide (S ≤ 150)) := by
              show _ = _
              rw [HV.out, HP.out, HSQ.out, List.take_of_length_le (by rw [HLEN.out]; omega)]; rfl
            go_wp2
            go_ret
            exact ⟨ret_bool HF.out.symm, nx hb0 (nx hb02 hb)⟩
end Go.Proofs.YtcdmjckkencgoaaGreatDoor
