/-
  FnDropRepeated: the law's walk. For every input of the law: it returns true, and the input reads as it did. Conditions: none but the statement's own.
-/
import Derived.Test.YthcmdmjijdafoaaLaw2g
import Derived.Test.YthcmdmjijdafoaaDropS
import Derived.Test.YthcmdmjijdafoaaGrow
namespace Go.Proofs.Ythcmdmjijdafoaa
open Go.ChangeShapes Go.WideShapes Go.ChangeAt Go.RowKit
open Go.ChangeMaps (open_string shut_string)

theorem count_step {ds : List Adr} {x : Adr} {m : Nat} (h : m < ds.length) : (ds.take (m + 1)).countP (fun b => sameB b x) = (ds.take m).countP (fun b => sameB b x) + (if sameB ds[m] x = true then 1 else 0) := by
  rw [List.take_succ_eq_append_getElem h, List.countP_append, List.countP_singleton]
theorem rd_first {w : World} {a : Option Addr} {x : Adr} {xs : List Adr} {n : Nat} (h : RdA w a n (x :: xs)) : ∃ b o, a = some ⟨b, o, none⟩ ∧ ∀ w', Below w.heap.size w w' → w'.cell? ⟨b, o, none⟩ = some (.string (str x.name)) ∧ w'.cell? ⟨b, o + 1, none⟩ = some (.string (str x.loc)) ∧ w'.cell? ⟨b, o + 2, none⟩ = some (.string (str x.dom)) := by
  have hl := h.1
  obtain ⟨b, o, rfl, hb, hc⟩ := h.2.resolve_left (by rw [← hl]; simp)
  exact ⟨b, o, rfl, fun w' k => ⟨(below_at k hb).trans (hc 0 (by simp) 0 _ rfl), (below_at k hb).trans (hc 0 (by simp) 1 _ rfl), (below_at k hb).trans (hc 0 (by simp) 2 _ rfl)⟩⟩
set_option maxRecDepth 100000 in
set_option maxHeartbeats 1000000 in
theorem fnDropRepeated_walk (a : Option Addr) (n c : Nat) (w : World) (hc : Code w a n) (hnc : n ≤ c) (hm : c ≤ maxLen) :
    Calls Try.prog 3 #[.slice a n c] w fun e w' => e = .returned (.bool true) ∧ Below w.heap.size w w' := by
  have hm' := hm
  unfold maxLen at hm'
  by_cases hn : 1048576 < n
  · have hd : decide ((1048576 : Int) < n) = true := by simp; omega
    go_enter Try.func3, Try.ntmps3
    go_wp2
    go_ret
    exact ⟨rfl, Below.refl _ _⟩
  · have hd : decide ((1048576 : Int) < n) = false := by simp; omega
    go_enter Try.func3, Try.ntmps3
    go_wp2_with fail
    refine (drawDropRepeated_any a n c w hc hnc hm).mono ?_
    rintro e w1 ⟨v, xs, rfl, ho, hl8, hx8, hb1⟩
    obtain ⟨a1, c1, rfl, hr1, hmx, _⟩ := ho.read adrC_len
    have HR1 := Lib.hid hr1
    have HX : Hid (∀ x ∈ xs, SmallA 1073741000 x) := fun x hx => (hx8 x hx).up (by omega)
    have hdl := dropR_len xs
    have HDD := Lib.hid (dropR_dropR xs)
    have HHD := Lib.hid (dropR_head xs)
    have HCT : Hid (∀ x ∈ xs, (dropR xs).countP (fun b => sameB b x) = 1) := fun x hx => dropR_count hx
    have HXD := Lib.hid (dropR_small HX.out)
    have HB1 := Lib.hid hb1
    clear ho hr1 hx8 hb1
    go_wp2_with fail
    refine (dropRepeated_any a1 xs.length c1 xs _ HR1.out (by omega) HX.out).mono ?_
    rintro e w2 ⟨v2, rfl, ho2, hb2⟩
    generalize hD : dropR xs = ds at *
    have HD := Lib.hid hD
    obtain ⟨a2, c2, rfl, hr2, hm2, _⟩ := ho2.read adrC_len
    have HR2 := Lib.hid hr2
    have HR12 : Hid (RdA w2 a1 xs.length xs) := HR1.out.below hb2
    have HB2 := Lib.hid (nx HB1.out hb2)
    clear ho2 hr2 hb2 hD
    go_wp2_with fail
    refine (dropRepeatedS_any a1 xs.length c1 xs _ HR12.out (by omega) HX.out).mono ?_
    rintro e w3 ⟨v3, rfl, ho3, hb3⟩
    rw [HD.out] at ho3
    obtain ⟨a3, c3, rfl, hr3, hm3, _⟩ := ho3.read adrC_len
    have HR3 := Lib.hid hr3
    have HR23 : Hid (RdA w3 a2 ds.length ds) := HR2.out.below hb3
    have HR13 : Hid (RdA w3 a1 xs.length xs) := HR12.out.below hb3
    have HB3 := Lib.hid (nx HB2.out hb3)
    clear ho3 hr3 hb3
    go_wp2_with fail
    refine (mwAddresses_any a2 a3 ds.length c2 ds.length c3 ds ds _ HR23.out HR3.out hm2 hm2).mono ?_
    rintro e w4 ⟨rfl, hb4⟩
    rw [decide_eq_true (rfl : ds = ds)]
    have HR24 : Hid (RdA w4 a2 ds.length ds) := HR23.out.below hb4
    have HR14 : Hid (RdA w4 a1 xs.length xs) := HR13.out.below hb4
    have HB4 := Lib.hid (nx HB3.out hb4)
    clear hb4
    go_wp2_with fail
    go_loopw [5] (fun i wr => ∃ k : Nat, k ≤ xs.length ∧ i = .int .i64 k ∧ Below w4.heap.size w4 wr) (fun i _ => xs.length - (intOf i).toNat)
    case atStart => exact ⟨0, Nat.zero_le _, rfl, Below.refl _ _⟩
    case round =>
      obtain ⟨k, hk, rfl, hb⟩ := hrel
      have HB := Lib.hid hb
      clear hb
      by_cases hlt : k < xs.length
      · obtain ⟨b, off, rfl, hbl, hcell⟩ := HR14.out.2.resolve_left (by omega)
        obtain ⟨q0, q1, q2⟩ := RdR.adr hcell hlt
        obtain ⟨_, _, z2⟩ := HX.out _ (List.getElem_mem hlt)
        rw [← str_size] at z2
        have HONE := Lib.hid (HCT.out _ (List.getElem_mem hlt))
        have HAX : Hid (adr (str xs[k].name) (str xs[k].loc) (str xs[k].dom) = xs[k]) := adr_str _
        have HQ : Hid (∀ w', Below w4.heap.size w4 w' → w'.cell? ⟨b, off + k * 3, none⟩ = some (.string (str xs[k].name)) ∧ w'.cell? ⟨b, off + k * 3 + 1, none⟩ = some (.string (str xs[k].loc)) ∧ w'.cell? ⟨b, off + k * 3 + 2, none⟩ = some (.string (str xs[k].dom))) := fun w' h =>
          ⟨(below_at h hbl).trans q0, (below_at h hbl).trans q1, (below_at h hbl).trans q2⟩
        have hkz : (0 : Int) ≤ (k : Int) := by omega
        have hkn : (k : Int) < (xs.length : Int) := by omega
        clear hcell q0 q1 q2
        generalize xs[k] = x at *
        generalize str x.name = s0 at *
        generalize str x.loc = s1 at *
        generalize str x.dom = s2 at *
        go_wp2_with fail
        go_loopw [6, 7] (fun f j wi => ∃ (m q : Nat), m ≤ ds.length ∧ q ≤ m ∧ j = .int .i64 m ∧ f = .int .i64 q ∧ q = (ds.take m).countP (fun y => sameB y x) ∧ Below w4.heap.size w4 wi) (fun _ j _ => ds.length - (intOf j).toNat)
        case atStart => exact ⟨0, 0, Nat.zero_le _, Nat.le_refl _, rfl, rfl, by simp, HB.out⟩
        case round =>
          obtain ⟨m, q, hm0, hqm, rfl, rfl, hq, hbi⟩ := hrel
          have HQQ := Lib.hid hq
          have HBI := Lib.hid hbi
          clear hq hbi
          by_cases hlm : m < ds.length
          · obtain ⟨b2, o2, rfl, hbl2, hcell2⟩ := HR24.out.2.resolve_left (by omega)
            obtain ⟨p0, p1, p2⟩ := RdR.adr hcell2 hlm
            obtain ⟨_, _, zy⟩ := HXD.out _ (List.getElem_mem hlm)
            rw [← str_size] at zy
            have HAY : Hid (adr (str ds[m].name) (str ds[m].loc) (str ds[m].dom) = ds[m]) := adr_str _
            have HNX := Lib.hid (count_step (x := x) hlm)
            generalize ds[m] = y at *
            generalize str y.name = t0 at *
            generalize str y.loc = t1 at *
            generalize str y.dom = t2 at *
            have HK : Hid (∀ w', Below wr.heap.size wr w' → w'.cell? ⟨b2, o2 + m * 3, none⟩ = some (.string t0) ∧ w'.cell? ⟨b2, o2 + m * 3 + 1, none⟩ = some (.string t1) ∧ w'.cell? ⟨b2, o2 + m * 3 + 2, none⟩ = some (.string t2) ∧ w'.cell? ⟨b, off + k * 3, none⟩ = some (.string s0) ∧ w'.cell? ⟨b, off + k * 3 + 1, none⟩ = some (.string s1) ∧ w'.cell? ⟨b, off + k * 3 + 2, none⟩ = some (.string s2) ∧ Below wr.heap.size wr w') := fun w' h => by
              have h2 := nx HBI.out h
              obtain ⟨g0, g1, g2⟩ := HQ.out w' h2
              exact ⟨(below_at h2 hbl2).trans p0, (below_at h2 hbl2).trans p1, (below_at h2 hbl2).trans p2, g0, g1, g2, h⟩
            have hmz : (0 : Int) ≤ (m : Int) := by omega
            have hmn : (m : Int) < (ds.length : Int) := by omega
            clear hcell2 p0 p1 p2
            generalize hsb : sameB y x = sb at *
            have HSB := Lib.hid hsb
            clear hsb
            go_wp2
            go_region_held3 (fun w' => w'.cell? ⟨b2, o2 + m * 3, none⟩ = some (.string t0) ∧ w'.cell? ⟨b2, o2 + m * 3 + 1, none⟩ = some (.string t1) ∧ w'.cell? ⟨b2, o2 + m * 3 + 2, none⟩ = some (.string t2) ∧ w'.cell? ⟨b, off + k * 3, none⟩ = some (.string s0) ∧ w'.cell? ⟨b, off + k * 3 + 1, none⟩ = some (.string s1) ∧ w'.cell? ⟨b, off + k * 3 + 2, none⟩ = some (.string s2) ∧ Below wr.heap.size wr w')
              (first
                | exact HK.out _ (Below.refl _ _).drew
                | exact HK.out _ hb7)
              (first
                | (go_at_call 12
                   refine (sameBox_any t0 t1 t2 s0 s1 s2 _ (by omega) (by omega)).mono ?_
                   rintro e w6 ⟨rfl, hb6⟩
                   rw [HAY.out, HAX.out, HSB.out]
                   have hb7 : Below wr.heap.size wr w6 := nx (by go_split_ands; assumption) hb6))
            all_goals
              have HB7 := Lib.hid (nx HBI.out hb7)
              cases sb
              · go_wp2
                go_roundw
                case rel => exact ⟨m + 1, q, by omega, by omega, by go_num, rfl, by rw [HNX.out, ← HQQ.out]; simp, HB7.out⟩
                case measure => simp [intOf]; omega
              · go_wp2
                go_roundw
                case rel => exact ⟨m + 1, q + 1, by omega, by omega, by go_num, by go_num, by rw [HNX.out, ← HQQ.out]; simp, HB7.out⟩
                case measure => simp [intOf]; omega
          · have hq1 : q = 1 := by
              have h := HQQ.out
              rw [List.take_of_length_le (by omega), HONE.out] at h
              exact h
            have e1 : ((q : Int) != 1) = false := by rw [hq1]; rfl
            clear hq1
            go_wp2
            go_roundw
            case rel => exact ⟨k + 1, by omega, by go_num, HBI.out⟩
            case measure => simp [intOf]; omega
      · have HR2W : Hid (RdA wr a2 ds.length ds) := HR24.out.below HB.out
        have HR1W : Hid (RdA wr a1 xs.length xs) := HR14.out.below HB.out
        have HBW := Lib.hid (nx HB4.out HB.out)
        generalize hlx : xs.length = lx at *
        generalize hld : ds.length = ld at *
        have HLX := Lib.hid hlx
        have HLD := Lib.hid hld
        clear hlx hld
        cases xs with
        | nil =>
          have h0 : lx = 0 := HLX.out.symm
          subst h0
          go_wp2
          refine wp_region_grow (by kernel_rfl) ?_
          refine wpAnyG_take (fuel := 17) [true, false, true] (by kernel_rfl) (by kernel_rfl) (by rfl) (by kernel_rfl) ?_
          apply Exists.intro
          refine ⟨fun x => ?_, ?_⟩
          · simp only [pickL]
            repeat (go_big_quiet_step (fail))
            exact wpQuiet_nil rfl
          refine wpAnyG_one (m := 1) (by kernel_rfl) (fun u6 g6 => ?_)
          refine wpOp_at (o := _) (by rfl) (by rfl) ?_
          go_simp
          refine (dropRepeated_any a2 ld c2 ds _ (HR2W.out.below g6) (by omega) HXD.out).mono ?_
          rintro e w6 ⟨v6, rfl, ho6, hb6⟩
          rw [HDD.out] at ho6
          obtain ⟨a6, c6, hv6, hr6, hm6, _⟩ := ho6.read adrC_len
          rw [HLD.out] at hv6 hr6 hm6
          subst hv6
          refine ⟨hb6, ?_⟩
          try simp only [Act.put, List.setIfInBounds_toArray, List.set_cons_zero, List.set_cons_succ]
          have HM : Hid (∀ u, Below w6.heap.size w6 u → Calls Try.prog 10 #[.slice a6 ld c6, .slice a2 ld c2] u fun e w' => e = .returned (.bool true) ∧ Below u.heap.size u w') := fun u hu => by
            rw [← decide_eq_true (rfl : ds = ds)]
            exact mwAddresses_any a6 a2 ld c6 ld c2 ds ds _ (hr6.below hu) (HR2W.out.below (nx g6 (nx hb6 hu))) hm6 hm6
          refine wpAnyG_take (fuel := 0) [false, false, false, true, true, true, true, true, true, true, true, true, true, true, true, true, true, true, true] (by kernel_rfl) (by kernel_rfl) (by rfl) (by kernel_rfl) ?_
          apply Exists.intro
          refine ⟨fun x => ?_, ?_⟩
          · simp only [pickL]
            repeat (go_big_quiet_step (first
              | (go_at_call 10; exact calls_belowT (HM.out _ (nx x.below (BelowT.below _))))))
            exact wpQuiet_nil rfl
          refine wpAnyG_done (by kernel_rfl) (fun x => ?_) _
          have hb9 := nx g6 (nx hb6 x.below)
          generalize x.val = w9 at *
          go_wp2
          go_ret
          exact ⟨rfl, nx HBW.out hb9⟩
        | cons x0 xr =>
          have hp0 : 0 < lx := by rw [← HLX.out]; simp
          have e0 : ((lx : Int) == 0) = false := by rw [beq_eq_false_iff_ne]; omega
          have e0n : (lx == 0) = false := by rw [beq_eq_false_iff_ne]; omega
          have e0d : ¬ lx = 0 := by omega
          have hpx : (0 : Int) < (lx : Int) := by omega
          have hds : ∃ dr, ds = x0 :: dr := by
            have h := HHD.out
            cases hq : ds with
            | nil => rw [hq] at h; simp at h
            | cons y dr => rw [hq] at h; simp at h; exact ⟨dr, by rw [h]⟩
          obtain ⟨dr, hdr⟩ := hds
          have hpd : (0 : Int) < (ld : Int) := by
            have h9 := HLD.out
            rw [hdr, List.length_cons] at h9
            omega
          obtain ⟨b1, o1, rfl, HF1⟩ := rd_first HR1W.out
          obtain ⟨b2, o2, rfl, HF2⟩ := rd_first (by rw [← hdr]; exact HR2W.out)
          have HK : Hid (∀ w', Below wr.heap.size wr w' → w'.cell? ⟨b1, o1, none⟩ = some (.string (str x0.name)) ∧ w'.cell? ⟨b1, o1 + 1, none⟩ = some (.string (str x0.loc)) ∧ w'.cell? ⟨b1, o1 + 2, none⟩ = some (.string (str x0.dom)) ∧ w'.cell? ⟨b2, o2, none⟩ = some (.string (str x0.name)) ∧ w'.cell? ⟨b2, o2 + 1, none⟩ = some (.string (str x0.loc)) ∧ w'.cell? ⟨b2, o2 + 2, none⟩ = some (.string (str x0.dom)) ∧ Below wr.heap.size wr w') := fun w' h => by
            obtain ⟨g0, g1, g2⟩ := HF1 w' h
            obtain ⟨g3, g4, g5⟩ := HF2 w' h
            exact ⟨g0, g1, g2, g3, g4, g5, h⟩
          clear HF1 HF2 hdr
          generalize str x0.name = s0 at *
          generalize str x0.loc = s1 at *
          generalize str x0.dom = s2 at *
          go_wp2
          refine wp_region_grow (by kernel_rfl) ?_
          refine wpAnyG_take (fuel := 17) [true, false, true] (by kernel_rfl) (by kernel_rfl) (by rfl) (by kernel_rfl) ?_
          apply Exists.intro
          refine ⟨fun x => ?_, ?_⟩
          · simp only [pickL]
            repeat (go_big_quiet_step (fail))
            exact wpQuiet_nil rfl
          refine wpAnyG_one (m := 1) (by kernel_rfl) (fun u6 g6 => ?_)
          refine wpOp_at (o := _) (by rfl) (by rfl) ?_
          go_simp
          refine (dropRepeated_any (some ⟨b2, o2, none⟩) ld c2 ds _ (HR2W.out.below g6) (by omega) HXD.out).mono ?_
          rintro e w6 ⟨v6, rfl, ho6, hb6⟩
          rw [HDD.out] at ho6
          obtain ⟨a6, c6, hv6, hr6, hm6, _⟩ := ho6.read adrC_len
          rw [HLD.out] at hv6 hr6 hm6
          subst hv6
          refine ⟨hb6, ?_⟩
          try simp only [Act.put, List.setIfInBounds_toArray, List.set_cons_zero, List.set_cons_succ]
          have HM : Hid (∀ u, Below w6.heap.size w6 u → Calls Try.prog 10 #[.slice a6 ld c6, .slice (some ⟨b2, o2, none⟩) ld c2] u fun e w' => e = .returned (.bool true) ∧ Below u.heap.size u w') := fun u hu => by
            rw [← decide_eq_true (rfl : ds = ds)]
            exact mwAddresses_any a6 (some ⟨b2, o2, none⟩) ld c6 ld c2 ds ds _ (hr6.below hu) (HR2W.out.below (nx g6 (nx hb6 hu))) hm6 hm6
          refine wpAnyG_take (fuel := 0) [false, false, false, true, true, true, true, true, true, true, true, true, true, true, true, true, true, true, true] (by kernel_rfl) (by kernel_rfl) (by rfl) (by kernel_rfl) ?_
          apply Exists.intro
          refine ⟨fun x => ?_, ?_⟩
          · have HY : Hid (∀ y : BelowT x.val, _) := fun y => HK.out y.val (nx g6 (nx hb6 (nx x.below y.below)))
            have y0 := fun y => (HY.out y).1
            have y1 := fun y => (HY.out y).2.1
            have y2 := fun y => (HY.out y).2.2.1
            have y3 := fun y => (HY.out y).2.2.2.1
            have y4 := fun y => (HY.out y).2.2.2.2.1
            have y5 := fun y => (HY.out y).2.2.2.2.2.1
            simp only [pickL]
            repeat (go_big_quiet_step (first
              | (go_at_call 10; exact calls_belowT (HM.out _ (nx x.below (BelowT.below _))))))
            exact wpQuiet_nil rfl
          refine wpAnyG_done (by kernel_rfl) (fun x => ?_) _
          have hb9 := nx g6 (nx hb6 x.below)
          generalize x.val = w9 at *
          go_wp2
          go_ret
          exact ⟨rfl, nx HBW.out hb9⟩
set_option maxRecDepth 100000 in
theorem fnDropRepeated_lifted (os : Os) (started : os.Started) (H : Type) (enc : TypeId × Value → H) :
    ReturnsInHanded {} Try.checked os 3 .any (Rows.fnDropRepeatedSpec.pre6 enc Try.prog Try.f3 Rows.fnDropRepeatedRow.domain false) (Rows.fnDropRepeatedSpec.post enc Try.prog Try.f3 false true false false) := by
  refine returnsInHanded_of_change (C := Try.checked) own started (by kernel_rfl) Try.func3
    (ChangeSpec.witness6 (enc := enc) (C := Try.checked) false ⟨#[], #[.slice none 0 0], []⟩ 8 (by kernel_rfl) (by kernel_rfl) (by kernel_rfl) (by kernel_rfl)) ?_
  intro W base args ds gs before hval0 hW hcnd _
  have hval : ∀ (j : Nat) t v, Try.f3.params[j]? = some t → args[j]? = some v → Value.okWide Try.prog W .any base t v := hval0
  have hW' := hW
  obtain ⟨p, q, hA0, hV, rfl, hfz, hnd⟩ := hW
  have hA : DataW.TrodAll enc Try.prog W 0 (fun _ => true) true Try.f3.params.toList args.toList ds p := hA0
  rw [Try.params3] at hA hval
  obtain ⟨v0, vs0, d0, ds0, p0, q0, hargs, rfl, rfl, h0, r0⟩ := trodAll_cons hA
  obtain ⟨rfl, rfl, rfl⟩ := trodAll_nil r0
  obtain rfl : args = #[v0] := by cases args; simp_all
  obtain ⟨rfl, rfl⟩ := trodVars_none hV
  obtain ⟨a0, n0, c0, rfl⟩ := okWide_slice Try.underlying22 (hval 0 22 v0 rfl rfl)
  have k0 := h0
  have lt0 : ∀ x ∈ p0, x.block < W.heap.size := by obtain ⟨m, hm⟩ := k0; exact DataW.trod_lt m _ _ _ hm
  obtain ⟨w0, x0, y0⟩ := code_of_trod Try.underlying22 Try.underlying5 (by kernel_rfl) h0
  clear hA0 hval0
  refine (fnDropRepeated_walk a0 n0 c0 W w0 x0 y0).mono fun e W' ⟨he, bel⟩ => ?_
  subst he
  exact ⟨_, rfl, _, _, _, [], _, [], hW', trodAll_mk1 (shut_bool Try.underlying4 _), (trodAll_cons_mk (Below.trod laidOut (by kernel_rfl) (of_decide_eq_true (by kernel_rfl)) k0 bel lt0) trodAll_mk0), rfl, bel.frame _, fun h => by cases h⟩
/-- FnDropRepeated: THE STATEMENT. -/
theorem fnDropRepeated_holds : Rows.FnDropRepeatedSaid :=
  OpenClaim.holds_of_wide 3 Try.f3 rfl rfl rfl rfl rfl rfl rfl ⟨rfl, rfl, rfl, rfl, rfl⟩ rfl rfl rfl rfl rfl (by kernel_rfl) Try.func3 (by kernel_rfl)
    (of_decide_eq_true (by kernel_rfl)) (by unfold Func.isWrapper; first | (rw [if_pos (by decide +kernel)]; kernel_rfl) | (rw [if_neg (by decide +kernel)]; exact ⟨rfl, rfl⟩))
    (fun os started H enc _ => fnDropRepeated_lifted os started H enc)
end Go.Proofs.Ythcmdmjijdafoaa
