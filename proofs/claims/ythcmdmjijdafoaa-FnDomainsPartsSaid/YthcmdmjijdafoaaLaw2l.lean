/-
  FnDomainsParts: the law's walk. For every input of the law: it returns true, and the input reads as it did. Conditions: none but the statement's own.
-/
import Derived.Test.YthcmdmjijdafoaaLaw2k
namespace Go.Proofs.Ythcmdmjijdafoaa
open Go.ChangeShapes Go.WideShapes Go.ChangeAt Go.RowKit
open Go.ChangeMaps (open_string shut_string)

theorem insD_ge (d : List UInt8) : ∀ l, l.length ≤ (insD d l).length
  | [] => by simp [insD]
  | x :: xs => by
    unfold insD; split
    · have := insD_ge d xs; simp; omega
    · split <;> simp
theorem foldD_ge : ∀ (al : List Adr) (acc : List (List UInt8)), acc.length ≤ (al.foldl (fun acc a => insD (low a.dom) acc) acc).length
  | [], _ => Nat.le_refl _
  | a :: al, acc => Nat.le_trans (insD_ge (low a.dom) acc) (foldD_ge al _)
theorem doms_part (xs : List Adr) (h : Nat) : (domsL (xs.take h)).length ≤ (domsL xs).length := by
  conv => rhs; rw [← List.take_append_drop h xs]
  unfold domsL
  rw [List.foldl_append]
  exact foldD_ge _ _
theorem doms_sub {xs : List Adr} {h : Nat} {y : List UInt8} (hy : y ∈ domsL (xs.take h)) : y ∈ domsL xs := by
  obtain ⟨x, hx, rfl⟩ := (doms_mem _ _).1 hy
  exact (doms_mem _ _).2 ⟨x, List.mem_of_mem_take hx, rfl⟩
theorem rdA_take {w : World} {a : Option Addr} {n : Nat} {xs : List Adr} (hr : RdA w a n xs) (h : Nat) (hh : h ≤ n) : RdA w a h (xs.take h) := by
  obtain ⟨hl, hr⟩ := hr
  refine ⟨by rw [List.length_take]; omega, ?_⟩
  rcases hr with h0 | ⟨b, off, ha, hb, hx⟩
  · exact .inl (by omega)
  · exact .inr ⟨b, off, ha, hb, fun i hi d v hv => by rw [List.getElem_take] at hv; exact hx i (by rw [List.length_take] at hi; omega) d v hv⟩
theorem any_eq {ds : List (List UInt8)} {t : List UInt8} (h : t ∈ ds) : ds.any (fun y => decide (str y = str t)) = true := by
  rw [List.any_eq_true]; exact ⟨t, h, by simp⟩
theorem ownA_form {B : Nat} {a : Option Addr} {n c : Nat} {xs : List Adr} {w : World} (h : OwnA B (.slice a n c) xs w) : (a = none ∧ c = 0) ∨ ∃ g, a = some ⟨g, 0, none⟩ := by
  rcases h.2 with ⟨hv, _⟩ | ⟨g, cap, cur, hv, _⟩
  · injection hv with e1 _ e3; exact .inl ⟨e1, e3⟩
  · injection hv with e1 _ e3; exact .inr ⟨g, e1⟩
set_option maxRecDepth 100000 in
set_option maxHeartbeats 2000000 in
theorem fnDomainsParts_walk (a : Option Addr) (n c : Nat) (w : World) (hc : Code w a n) (hnc : n ≤ c) (hm : c ≤ maxLen) :
    Calls Try.prog 5 #[.slice a n c] w fun e w' => e = .returned (.bool true) ∧ Below w.heap.size w w' := by
  have hm' := hm
  unfold maxLen at hm'
  by_cases hn : 1048576 < n
  · have hd : decide ((1048576 : Int) < n) = true := by simp; omega
    go_enter Try.func5, Try.ntmps5
    go_wp2
    go_ret
    exact ⟨rfl, Below.refl _ _⟩
  · have hd : decide ((1048576 : Int) < n) = false := by simp; omega
    go_enter Try.func5, Try.ntmps5
    go_wp2_with fail
    refine (drawDomainsOf_any a n c w hc hnc hm).mono ?_
    rintro e w1 ⟨v, xs, rfl, ho, hl4, hx8, hb1⟩
    have ho' := ho
    obtain ⟨a1, c1, rfl, hr1, hmx, hnc1⟩ := ho'.read adrC_len
    have hform := ownA_form ho
    have HX : Hid (∀ x ∈ xs, SmallA 1073741000 x) := fun x hx => (hx8 x hx).up (by omega)
    have HB1 := Lib.hid hb1
    have HXT : Hid (∀ x ∈ xs.take (xs.length / 2), SmallA 1073741000 x) := fun x hx => HX.out x (List.mem_of_mem_take hx)
    have HDP := Lib.hid (doms_part xs (xs.length / 2))
    have HSM := Lib.hid (doms_small HX.out)
    have HDL := Lib.hid (doms_len xs)
    have HSUB : Hid (∀ y ∈ domsL (xs.take (xs.length / 2)), (domsL xs).any (fun z => decide (str z = str y)) = true) := fun y hy => any_eq (doms_sub hy)
    have HRT : Hid (RdA w1 a1 (xs.length / 2) (xs.take (xs.length / 2))) := rdA_take hr1 _ (by omega)
    have HR1 := Lib.hid hr1
    clear ho ho' hr1 hx8 hb1
    generalize xs.take (xs.length / 2) = xt at *
    generalize hL : xs.length = L at *
    have HL := Lib.hid hL
    clear hL
    go_wp2_with fail
    refine (domainsOf_any a1 L c1 xs _ HR1.out (by omega) HX.out).mono ?_
    rintro e w2 ⟨v2, rfl, ho2, hb2⟩
    obtain ⟨a2, c2, rfl, hr2, hm2⟩ := ho2.read
    have HR2 := Lib.hid hr2
    have HR12 : Hid (RdA w2 a1 L xs) := HR1.out.below hb2
    have HRT2 := Lib.hid (HRT.out.below hb2)
    have HB2 := Lib.hid (nx HB1.out hb2)
    clear ho2 hr2 hb2
    go_wp2_with fail
    refine (domainsOfS_any a1 L c1 xs _ HR12.out (by omega) HX.out).mono ?_
    rintro e w3 ⟨v3, rfl, ho3, hb3⟩
    obtain ⟨a3, c3, rfl, hr3, hm3⟩ := ho3.read
    generalize domsL xs = ds at *
    have HR3 := Lib.hid hr3
    have HR23 : Hid (RdL w3 a2 ds.length ds) := HR2.out.below hb3
    have HRT3 := Lib.hid (HRT2.out.below hb3)
    have HB3 := Lib.hid (nx HB2.out hb3)
    clear ho3 hr3 hb3
    go_wp2_with fail
    refine (mwTexts_any a2 a3 ds.length c2 ds.length c3 ds ds _ HR23.out HR3.out hm2 hm3).mono ?_
    rintro e w4 ⟨rfl, hb4⟩
    rw [decide_eq_true (rfl : ds = ds)]
    have HR24 : Hid (RdL w4 a2 ds.length ds) := HR23.out.below hb4
    have HRT4 := Lib.hid (HRT3.out.below hb4)
    have HB4 := Lib.hid (nx HB3.out hb4)
    have hdl : ds.length ≤ 4 := by have := HDL.out; omega
    obtain ⟨h, HH⟩ : ∃ h : Nat, Hid (L / 2 = h) := ⟨_, rfl⟩
    have hq2 : (L : Int) / 2 = (h : Int) := by have := HH.out; omega
    have hq0 : (0 : Int) ≤ (h : Int) := by omega
    have hq3 : (h : Int) ≤ (c1 : Int) := by have := HH.out; omega
    have hq4 : (h : Int) ≤ (L : Int) := by have := HH.out; omega
    have hq5 : h ≤ c1 := by omega
    rw [HH.out] at HRT4
    clear hb4
    rcases hform with ⟨rfl, rfl⟩ | ⟨g, rfl⟩
    · obtain rfl : h = 0 := by omega
      skip
      go_wp2_with fail
      refine (domainsOf_any _ _ _ xt _ HRT4.out (by omega) HXT.out).mono ?_
      rintro e w5 ⟨v5, rfl, ho5, hb5⟩
      obtain ⟨a5, c5, rfl, hr5, hm5⟩ := ho5.read
      generalize domsL xt = dt at *
      have HR5 := Lib.hid hr5
      have HR25 : Hid (RdL w5 a2 ds.length ds) := HR24.out.below hb5
      have HB5 := Lib.hid (nx HB4.out hb5)
      have hdt : dt.length ≤ 4 := by have := HDP.out; omega
      clear ho5 hr5 hb5 hq2 hq3 hq4
      go_wp2_with fail
      go_loopw [6] (fun i wr => ∃ k : Nat, k ≤ dt.length ∧ i = .int .i64 k ∧ Below w5.heap.size w5 wr) (fun i _ => dt.length - (intOf i).toNat)
      case atStart => exact ⟨0, Nat.zero_le _, rfl, Below.refl _ _⟩
      case round =>
        obtain ⟨k2, hk2, rfl, hb⟩ := hrel
        have HB := Lib.hid hb
        clear hb
        by_cases hlx : k2 < dt.length
        · obtain ⟨b1, o1, rfl, hbl1, hcell1⟩ := HR5.out.2.resolve_left (by omega)
          have HH := Lib.hid (HSUB.out _ (List.getElem_mem hlx))
          have HPX : Hid (∀ u, Below w5.heap.size w5 u → u.cell? ⟨b1, o1 + k2, none⟩ = some (.string (str dt[k2]))) := fun u hu => by rw [below_at hu hbl1]; exact hcell1 k2 hlx
          have q1 : (0 : Int) ≤ (k2 : Int) := by omega
          have q2 : (k2 : Int) < (dt.length : Int) := by omega
          clear hcell1
          generalize str dt[k2] = s2 at *
          obtain ⟨f, HF⟩ : ∃ f : List UInt8 → Bool, Hid (f = fun y => decide (str y = s2)) := ⟨_, rfl⟩
          have HH2 : Hid (ds.any f = true) := by show _ = _; rw [HF.out]; exact HH.out
          obtain ⟨wp, rfl⟩ : ∃ wp : World, wp = wr := ⟨_, rfl⟩
          go_wp2_with fail
          go_loopw [7, 8] (fun v7 v8 wr => ∃ m2 : Nat, m2 ≤ ds.length ∧ v8 = .int .i64 m2 ∧ v7 = .bool ((ds.take m2).any f) ∧ Below w5.heap.size w5 wr) (fun _ v8 _ => ds.length - (intOf v8).toNat)
          case atStart => exact ⟨0, Nat.zero_le _, rfl, by simp, HB.out⟩
          case round =>
            obtain ⟨m2, hm2', rfl, rfl, hbi⟩ := hrel
            have HBI := Lib.hid hbi
            clear hbi
            by_cases hld : m2 < ds.length
            · obtain ⟨b2, o2, rfl, hbl2, hcell2⟩ := HR25.out.2.resolve_left (by omega)
              have HNX := Lib.hid (any_step (f := f) hld)
              have heq : ((str ds[m2]).toList == s2.toList) = f ds[m2] := by rw [HF.out, beq_dec]
              have HY : Hid (∀ y : BelowT wr, y.val.cell? ⟨b2, o2 + m2, none⟩ = some (.string (str ds[m2])) ∧ y.val.cell? ⟨b1, o1 + k2, none⟩ = some (.string s2)) := fun y =>
                ⟨by rw [below_at (nx HBI.out y.below) hbl2]; exact hcell2 m2 hld, HPX.out _ (nx HBI.out y.below)⟩
              have q3 : (0 : Int) ≤ (m2 : Int) := by omega
              have q4 : (m2 : Int) < (ds.length : Int) := by omega
              have hm24 : m2 ≤ 4 := by omega
              clear hcell2
              generalize (ds.take m2).any f = bq at *
              generalize f ds[m2] = fq at *
              generalize str ds[m2] = s3 at *
              cases bq
              all_goals
                go_wp2_with fail
                have y0 := fun y => (HY.out y).1
                have y1 := fun y => (HY.out y).2
                refine wp_region_quietB (W := wr) (by kernel_rfl) (by kernel_rfl) (Below.refl _ _) ?_
                repeat (go_big_quiet_step (fail))
                refine wpQuiet_nil ?_
                intro wz hwz
                obtain ⟨x9, rfl⟩ := hwz
                have hbx := nx HBI.out x9.below
                clear y0 y1
                generalize x9.val = w9 at *
                go_wp2
                go_roundw
                case rel => exact ⟨m2 + 1, by omega, by go_num, by rw [HNX.out]; simp, hbx⟩
                case measure => simp [intOf]; omega
            · have hmd : m2 = ds.length := by omega
              have HAL : Hid ((ds.take m2).any f = true) := by show _ = _; rw [hmd, List.take_length]; exact HH2.out
              rw [HAL.out]
              have hk24 : k2 ≤ 4 := by omega
              clear hmd
              go_wp2
              go_roundw
              case rel => exact ⟨k2 + 1, by omega, by go_num, HBI.out⟩
              case measure => simp [intOf]; omega
        · have hle : (dt.length : Int) ≤ (ds.length : Int) := by have := HDP.out; omega
          go_wp2
          go_ret
          exact ⟨rfl, nx HB5.out HB.out⟩
    · skip
      go_wp2_with fail
      refine (domainsOf_any _ _ _ xt _ HRT4.out (by omega) HXT.out).mono ?_
      rintro e w5 ⟨v5, rfl, ho5, hb5⟩
      obtain ⟨a5, c5, rfl, hr5, hm5⟩ := ho5.read
      generalize domsL xt = dt at *
      have HR5 := Lib.hid hr5
      have HR25 : Hid (RdL w5 a2 ds.length ds) := HR24.out.below hb5
      have HB5 := Lib.hid (nx HB4.out hb5)
      have hdt : dt.length ≤ 4 := by have := HDP.out; omega
      clear ho5 hr5 hb5 hq2 hq3 hq4
      go_wp2_with fail
      go_loopw [6] (fun i wr => ∃ k : Nat, k ≤ dt.length ∧ i = .int .i64 k ∧ Below w5.heap.size w5 wr) (fun i _ => dt.length - (intOf i).toNat)
      case atStart => exact ⟨0, Nat.zero_le _, rfl, Below.refl _ _⟩
      case round =>
        obtain ⟨k2, hk2, rfl, hb⟩ := hrel
        have HB := Lib.hid hb
        clear hb
        by_cases hlx : k2 < dt.length
        · obtain ⟨b1, o1, rfl, hbl1, hcell1⟩ := HR5.out.2.resolve_left (by omega)
          have HH := Lib.hid (HSUB.out _ (List.getElem_mem hlx))
          have HPX : Hid (∀ u, Below w5.heap.size w5 u → u.cell? ⟨b1, o1 + k2, none⟩ = some (.string (str dt[k2]))) := fun u hu => by rw [below_at hu hbl1]; exact hcell1 k2 hlx
          have q1 : (0 : Int) ≤ (k2 : Int) := by omega
          have q2 : (k2 : Int) < (dt.length : Int) := by omega
          clear hcell1
          generalize str dt[k2] = s2 at *
          obtain ⟨f, HF⟩ : ∃ f : List UInt8 → Bool, Hid (f = fun y => decide (str y = s2)) := ⟨_, rfl⟩
          have HH2 : Hid (ds.any f = true) := by show _ = _; rw [HF.out]; exact HH.out
          obtain ⟨wp, rfl⟩ : ∃ wp : World, wp = wr := ⟨_, rfl⟩
          go_wp2_with fail
          go_loopw [7, 8] (fun v7 v8 wr => ∃ m2 : Nat, m2 ≤ ds.length ∧ v8 = .int .i64 m2 ∧ v7 = .bool ((ds.take m2).any f) ∧ Below w5.heap.size w5 wr) (fun _ v8 _ => ds.length - (intOf v8).toNat)
          case atStart => exact ⟨0, Nat.zero_le _, rfl, by simp, HB.out⟩
          case round =>
            obtain ⟨m2, hm2', rfl, rfl, hbi⟩ := hrel
            have HBI := Lib.hid hbi
            clear hbi
            by_cases hld : m2 < ds.length
            · obtain ⟨b2, o2, rfl, hbl2, hcell2⟩ := HR25.out.2.resolve_left (by omega)
              have HNX := Lib.hid (any_step (f := f) hld)
              have heq : ((str ds[m2]).toList == s2.toList) = f ds[m2] := by rw [HF.out, beq_dec]
              have HY : Hid (∀ y : BelowT wr, y.val.cell? ⟨b2, o2 + m2, none⟩ = some (.string (str ds[m2])) ∧ y.val.cell? ⟨b1, o1 + k2, none⟩ = some (.string s2)) := fun y =>
                ⟨by rw [below_at (nx HBI.out y.below) hbl2]; exact hcell2 m2 hld, HPX.out _ (nx HBI.out y.below)⟩
              have q3 : (0 : Int) ≤ (m2 : Int) := by omega
              have q4 : (m2 : Int) < (ds.length : Int) := by omega
              have hm24 : m2 ≤ 4 := by omega
              clear hcell2
              generalize (ds.take m2).any f = bq at *
              generalize f ds[m2] = fq at *
              generalize str ds[m2] = s3 at *
              cases bq
              all_goals
                go_wp2_with fail
                have y0 := fun y => (HY.out y).1
                have y1 := fun y => (HY.out y).2
                refine wp_region_quietB (W := wr) (by kernel_rfl) (by kernel_rfl) (Below.refl _ _) ?_
                repeat (go_big_quiet_step (fail))
                refine wpQuiet_nil ?_
                intro wz hwz
                obtain ⟨x9, rfl⟩ := hwz
                have hbx := nx HBI.out x9.below
                clear y0 y1
                generalize x9.val = w9 at *
                go_wp2
                go_roundw
                case rel => exact ⟨m2 + 1, by omega, by go_num, by rw [HNX.out]; simp, hbx⟩
                case measure => simp [intOf]; omega
            · have hmd : m2 = ds.length := by omega
              have HAL : Hid ((ds.take m2).any f = true) := by show _ = _; rw [hmd, List.take_length]; exact HH2.out
              rw [HAL.out]
              have hk24 : k2 ≤ 4 := by omega
              clear hmd
              go_wp2
              go_roundw
              case rel => exact ⟨k2 + 1, by omega, by go_num, HBI.out⟩
              case measure => simp [intOf]; omega
        · have hle : (dt.length : Int) ≤ (ds.length : Int) := by have := HDP.out; omega
          go_wp2
          go_ret
          exact ⟨rfl, nx HB5.out HB.out⟩
set_option maxRecDepth 100000 in
theorem fnDomainsParts_lifted (os : Os) (started : os.Started) (H : Type) (enc : TypeId × Value → H) :
    ReturnsInHanded {} Try.checked os 5 .any (Rows.fnDomainsPartsSpec.pre6 enc Try.prog Try.f5 Rows.fnDomainsPartsRow.domain false) (Rows.fnDomainsPartsSpec.post enc Try.prog Try.f5 false true false false) := by
  refine returnsInHanded_of_change (C := Try.checked) own started (by kernel_rfl) Try.func5
    (ChangeSpec.witness6 (enc := enc) (C := Try.checked) false ⟨#[], #[.slice none 0 0], []⟩ 8 (by kernel_rfl) (by kernel_rfl) (by kernel_rfl) (by kernel_rfl)) ?_
  intro W base args ds gs before hval0 hW hcnd _
  have hval : ∀ (j : Nat) t v, Try.f5.params[j]? = some t → args[j]? = some v → Value.okWide Try.prog W .any base t v := hval0
  have hW' := hW
  obtain ⟨p, q, hA0, hV, rfl, hfz, hnd⟩ := hW
  have hA : DataW.TrodAll enc Try.prog W 0 (fun _ => true) true Try.f5.params.toList args.toList ds p := hA0
  rw [Try.params5] at hA hval
  obtain ⟨v0, vs0, d0, ds0, p0, q0, hargs, rfl, rfl, h0, r0⟩ := trodAll_cons hA
  obtain ⟨rfl, rfl, rfl⟩ := trodAll_nil r0
  obtain rfl : args = #[v0] := by cases args; simp_all
  obtain ⟨rfl, rfl⟩ := trodVars_none hV
  obtain ⟨a0, n0, c0, rfl⟩ := okWide_slice Try.underlying22 (hval 0 22 v0 rfl rfl)
  have k0 := h0
  have lt0 : ∀ x ∈ p0, x.block < W.heap.size := by obtain ⟨m, hm⟩ := k0; exact DataW.trod_lt m _ _ _ hm
  obtain ⟨w0, x0, y0⟩ := code_of_trod Try.underlying22 Try.underlying5 (by kernel_rfl) h0
  clear hA0 hval0
  refine (fnDomainsParts_walk a0 n0 c0 W w0 x0 y0).mono fun e W' ⟨he, bel⟩ => ?_
  subst he
  exact ⟨_, rfl, _, _, _, [], _, [], hW', trodAll_mk1 (shut_bool Try.underlying4 _), (trodAll_cons_mk (Below.trod laidOut (by kernel_rfl) (of_decide_eq_true (by kernel_rfl)) k0 bel lt0) trodAll_mk0), rfl, bel.frame _, fun h => by cases h⟩
/-- FnDomainsParts: THE STATEMENT. -/
theorem fnDomainsParts_holds : Rows.FnDomainsPartsSaid :=
  OpenClaim.holds_of_wide 5 Try.f5 rfl rfl rfl rfl rfl rfl rfl ⟨rfl, rfl, rfl, rfl, rfl⟩ rfl rfl rfl rfl rfl (by kernel_rfl) Try.func5 (by kernel_rfl)
    (of_decide_eq_true (by kernel_rfl)) (by unfold Func.isWrapper; first | (rw [if_pos (by decide +kernel)]; kernel_rfl) | (rw [if_neg (by decide +kernel)]; exact ⟨rfl, rfl⟩))
    (fun os started H enc _ => fnDomainsParts_lifted os started H enc)
end Go.Proofs.Ythcmdmjijdafoaa
