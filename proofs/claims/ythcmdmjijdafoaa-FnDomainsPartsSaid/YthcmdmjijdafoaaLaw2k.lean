/-
  FnDomainsOf: the law's walk. For every input of the law: it returns true, and the input reads as it did. Conditions: none but the statement's own.
-/
import Derived.Test.YthcmdmjijdafoaaLaw0
import Derived.Test.YthcmdmjijdafoaaDrawA2
import Derived.Test.YthcmdmjijdafoaaDraw2
import Derived.Test.YthcmdmjijdafoaaDomI
import Derived.Test.YthcmdmjijdafoaaDomS
import Derived.Test.YthcmdmjijdafoaaQuietB
namespace Go.Proofs.Ythcmdmjijdafoaa
open Go.ChangeShapes Go.WideShapes Go.ChangeAt Go.RowKit
open Go.ChangeMaps (open_string shut_string)

theorem any_step {f : List UInt8 → Bool} {ds : List (List UInt8)} {m : Nat} (h : m < ds.length) : (ds.take (m + 1)).any f = ((ds.take m).any f || f ds[m]) := by
  rw [List.take_succ_eq_append_getElem h, List.any_append]; simp
theorem doms_hit {xs : List Adr} {x : Adr} (h : x ∈ xs) : (domsL xs).any (fun y => decide (lowS (str y) = lowS (str x.dom))) = true := by
  rw [List.any_eq_true]
  refine ⟨low x.dom, (doms_mem xs _).2 ⟨x, h, rfl⟩, ?_⟩
  rw [decide_eq_true_iff]
  unfold lowS; rw [str_list, str_list, low_low]
theorem doms_small {xs : List Adr} {M : Nat} (h : ∀ x ∈ xs, SmallA M x) : ∀ y ∈ domsL xs, y.length ≤ M := fun y hy => by
  obtain ⟨x, hx, rfl⟩ := (doms_mem xs y).1 hy
  have := (h x hx).2.2
  unfold low; rw [List.length_map]; exact this
set_option maxRecDepth 100000 in
set_option maxHeartbeats 2000000 in
theorem fnDomainsOf_walk (a : Option Addr) (n c : Nat) (w : World) (hc : Code w a n) (hnc : n ≤ c) (hm : c ≤ maxLen) :
    Calls Try.prog 4 #[.slice a n c] w fun e w' => e = .returned (.bool true) ∧ Below w.heap.size w w' := by
  have hm' := hm
  unfold maxLen at hm'
  by_cases hn : 1048576 < n
  · have hd : decide ((1048576 : Int) < n) = true := by simp; omega
    go_enter Try.func4, Try.ntmps4
    go_wp2
    go_ret
    exact ⟨rfl, Below.refl _ _⟩
  · have hd : decide ((1048576 : Int) < n) = false := by simp; omega
    go_enter Try.func4, Try.ntmps4
    go_wp2_with fail
    refine (drawDomainsOf_any a n c w hc hnc hm).mono ?_
    rintro e w1 ⟨v, xs, rfl, ho, hl4, hx8, hb1⟩
    obtain ⟨a1, c1, rfl, hr1, hmx, _⟩ := ho.read adrC_len
    have HR1 := Lib.hid hr1
    have HX : Hid (∀ x ∈ xs, SmallA 1073741000 x) := fun x hx => (hx8 x hx).up (by omega)
    have HB1 := Lib.hid hb1
    have HDL := Lib.hid (doms_len xs)
    have HASC := Lib.hid (doms_asc xs)
    have HSM := Lib.hid (doms_small HX.out)
    have HHIT : Hid (∀ x ∈ xs, (domsL xs).any (fun y => decide (lowS (str y) = lowS (str x.dom))) = true) := fun x hx => doms_hit hx
    clear ho hr1 hx8 hb1
    go_wp2_with fail
    refine (domainsOf_any a1 xs.length c1 xs _ HR1.out (by omega) HX.out).mono ?_
    rintro e w2 ⟨v2, rfl, ho2, hb2⟩
    obtain ⟨a2, c2, rfl, hr2, hm2⟩ := ho2.read
    have HR2 := Lib.hid hr2
    have HR12 : Hid (RdA w2 a1 xs.length xs) := HR1.out.below hb2
    have HB2 := Lib.hid (nx HB1.out hb2)
    clear ho2 hr2 hb2
    go_wp2_with fail
    refine (domainsOfS_any a1 xs.length c1 xs _ HR12.out (by omega) HX.out).mono ?_
    rintro e w3 ⟨v3, rfl, ho3, hb3⟩
    obtain ⟨a3, c3, rfl, hr3, hm3⟩ := ho3.read
    generalize domsL xs = ds at *
    have HR3 := Lib.hid hr3
    have HR23 : Hid (RdL w3 a2 ds.length ds) := HR2.out.below hb3
    have HR13 : Hid (RdA w3 a1 xs.length xs) := HR12.out.below hb3
    have HB3 := Lib.hid (nx HB2.out hb3)
    clear ho3 hr3 hb3
    go_wp2_with fail
    refine (mwTexts_any a2 a3 ds.length c2 ds.length c3 ds ds _ HR23.out HR3.out hm2 hm3).mono ?_
    rintro e w4 ⟨rfl, hb4⟩
    rw [decide_eq_true (rfl : ds = ds)]
    have HR24 : Hid (RdL w4 a2 ds.length ds) := HR23.out.below hb4
    have HR14 : Hid (RdA w4 a1 xs.length xs) := HR13.out.below hb4
    have HB4 := Lib.hid (nx HB3.out hb4)
    have hdl : ds.length ≤ 4 := by have := HDL.out; omega
    clear hb4
    go_wp2_with fail
    go_loopw [5] (fun i wr => ∃ m k : Nat, k = m + 1 ∧ m ≤ ds.length ∧ i = .int .i64 k ∧ Below w4.heap.size w4 wr) (fun i _ => ds.length - (intOf i).toNat)
    case atStart => exact ⟨0, 1, rfl, Nat.zero_le _, rfl, Below.refl _ _⟩
    case round =>
      obtain ⟨m, k, hmk, hmd, rfl, hb⟩ := hrel
      have HB := Lib.hid hb
      have HMK := Lib.hid hmk
      by_cases hlt : k < ds.length
      · have hmd1 : m < ds.length := by omega
        obtain ⟨b, off, rfl, hbl, hcell⟩ := HR24.out.2.resolve_left (by omega)
        have hpair : ltT ds[m] ds[k] = true := List.pairwise_iff_getElem.1 HASC.out m k hmd1 hlt (by omega)
        have hby := ltT_bytes ds[m] ds[k]
        rw [hpair] at hby
        have HY : Hid (∀ y : BelowT wr, y.val.cell? ⟨b, off + m, none⟩ = some (.string (str ds[m])) ∧ y.val.cell? ⟨b, off + k, none⟩ = some (.string (str ds[k]))) := fun y =>
          ⟨by rw [below_at (nx HB.out y.below) hbl]; exact hcell m hmd1, by rw [below_at (nx HB.out y.below) hbl]; exact hcell k hlt⟩
        have q1 : IntKind.i64.wrap ((k : Int) - 1) = (m : Int) := by rw [show (k : Int) - 1 = m by omega]; exact IntWalk.i64_in _ (by omega)
        have q2 : (k : Int) - 1 = (m : Int) := by omega
        have q3 : (0 : Int) ≤ (m : Int) := by omega
        have q4 : (m : Int) < (ds.length : Int) := by omega
        have q5 : (0 : Int) ≤ (k : Int) := by omega
        have q6 : (k : Int) < (ds.length : Int) := by omega
        have hk4 : k ≤ 4 := by omega
        clear hcell hpair hb hmk
        generalize str ds[m] = s3 at *
        generalize str ds[k] = s4 at *
        go_wp2_with fail
        have y0 := fun y => (HY.out y).1
        have y1 := fun y => (HY.out y).2
        refine wp_region_quietB (W := wr) (by kernel_rfl) (by kernel_rfl) (Below.refl _ _) ?_
        repeat (go_big_quiet_step (fail))
        refine wpQuiet_nil ?_
        intro wz hwz
        obtain ⟨x9, rfl⟩ := hwz
        have hbx := nx HB.out x9.below
        clear y0 y1 q1 q2
        generalize x9.val = w9 at *
        go_wp2
        go_roundw
        case rel => exact ⟨k, k + 1, rfl, by omega, by go_num, hbx⟩
        case measure => simp [intOf]; omega
      · have HR2W : Hid (RdL wr a2 ds.length ds) := HR24.out.below HB.out
        have HR1W : Hid (RdA wr a1 xs.length xs) := HR14.out.below HB.out
        have HBW := Lib.hid (nx HB4.out HB.out)
        obtain ⟨wo, rfl⟩ : ∃ wo : World, wo = wr := ⟨_, rfl⟩
        clear hb hmk HB
        go_wp2_with fail
        go_loopw [6] (fun i wr => ∃ k : Nat, k ≤ xs.length ∧ i = .int .i64 k ∧ Below wo.heap.size wo wr) (fun i _ => xs.length - (intOf i).toNat)
        case atStart => exact ⟨0, Nat.zero_le _, rfl, Below.refl _ _⟩
        case round =>
          obtain ⟨k2, hk2, rfl, hb⟩ := hrel
          have HB := Lib.hid hb
          clear hb
          by_cases hlx : k2 < xs.length
          · obtain ⟨b1, o1, rfl, hbl1, hcell1⟩ := HR1W.out.2.resolve_left (by omega)
            obtain ⟨_, _, p2⟩ := RdR.adr hcell1 hlx
            have hzx := (HX.out _ (List.getElem_mem hlx)).2.2
            rw [← str_size] at hzx
            have HH := Lib.hid (HHIT.out _ (List.getElem_mem hlx))
            have HPX : Hid (∀ u, Below wo.heap.size wo u → u.cell? ⟨b1, o1 + k2 * 3 + 2, none⟩ = some (.string (str xs[k2].dom))) := fun u hu => by rw [below_at hu hbl1]; exact p2
            have q1 : (0 : Int) ≤ (k2 : Int) := by omega
            have q2 : (k2 : Int) < (xs.length : Int) := by omega
            clear hcell1 p2
            generalize str xs[k2].dom = s2 at *
            obtain ⟨f, HF⟩ : ∃ f : List UInt8 → Bool, Hid (f = fun y => decide (lowS (str y) = lowS s2)) := ⟨_, rfl⟩
            have HH2 : Hid (ds.any f = true) := by show _ = _; rw [HF.out]; exact HH.out
            obtain ⟨wp, rfl⟩ : ∃ wp : World, wp = wr := ⟨_, rfl⟩
            go_wp2_with fail
            go_loopw [7, 8] (fun v7 v8 wr => ∃ m2 : Nat, m2 ≤ ds.length ∧ v8 = .int .i64 m2 ∧ v7 = .bool ((ds.take m2).any f) ∧ Below wo.heap.size wo wr) (fun _ v8 _ => ds.length - (intOf v8).toNat)
            case atStart => exact ⟨0, Nat.zero_le _, rfl, by simp, HB.out⟩
            case round =>
              obtain ⟨m2, hm2', rfl, rfl, hbi⟩ := hrel
              have HBI := Lib.hid hbi
              clear hbi
              by_cases hld : m2 < ds.length
              · obtain ⟨b2, o2, rfl, hbl2, hcell2⟩ := HR2W.out.2.resolve_left (by omega)
                have hzy : (str ds[m2]).size ≤ 1073741824 := by rw [str_size]; have := HSM.out _ (List.getElem_mem hld); omega
                have HNX := Lib.hid (any_step (f := f) hld)
                have HFV : Hid (f ds[m2] = decide (lowS (str ds[m2]) = lowS s2)) := by show _ = _; rw [HF.out]
                have HY : Hid (∀ y : BelowT wr, y.val.cell? ⟨b2, o2 + m2, none⟩ = some (.string (str ds[m2])) ∧ y.val.cell? ⟨b1, o1 + k2 * 3 + 2, none⟩ = some (.string s2)) := fun y =>
                  ⟨by rw [below_at (nx HBI.out y.below) hbl2]; exact hcell2 m2 hld, HPX.out _ (nx HBI.out y.below)⟩
                have q3 : (0 : Int) ≤ (m2 : Int) := by omega
                have q4 : (m2 : Int) < (ds.length : Int) := by omega
                have hm24 : m2 ≤ 4 := by omega
                clear hcell2
                generalize (ds.take m2).any f = bq at *
                generalize f ds[m2] = fq at *
                generalize str ds[m2] = s3 at *
                have HST : Hid (∀ u, Calls Try.prog 17 #[.string s3, .string s2] u fun e w' => e = .returned (.bool fq) ∧ Below u.heap.size u w') := fun u => by
                  rw [HFV.out]; exact sameText_any s3 s2 u hzy (by omega)
                cases bq
                all_goals
                  go_wp2_with fail
                  have y0 := fun y => (HY.out y).1
                  have y1 := fun y => (HY.out y).2
                  refine wp_region_quietB (W := wr) (by kernel_rfl) (by kernel_rfl) (Below.refl _ _) ?_
                  repeat (go_big_quiet_step (first
                    | (go_at_call 17; exact calls_belowT (HST.out _))))
                  refine wpQuiet_nil ?_
                  intro wz hwz
                  obtain ⟨x9, rfl⟩ := hwz
                  have hbx := nx HBI.out x9.below
                  clear y0 y1
                  generalize x9.val = w9 at *
                  go_wp2
                  go_roundw
                  case rel => exact ⟨m2 + 1, by omega, by go_num, by rw [HNX.out]; simp, hbx⟩
                  case measure => simp [intOf]; omega
              · have hmd : m2 = ds.length := by omega
                have HAL : Hid ((ds.take m2).any f = true) := by show _ = _; rw [hmd, List.take_length]; exact HH2.out
                rw [HAL.out]
                have hk24 : k2 ≤ 4 := by omega
                clear hmd
                go_wp2
                go_roundw
                case rel => exact ⟨k2 + 1, by omega, by go_num, HBI.out⟩
                case measure => simp [intOf]; omega
          · have hle : (ds.length : Int) ≤ (xs.length : Int) := by have := HDL.out; omega
            go_wp2
            go_ret
            exact ⟨rfl, nx HBW.out HB.out⟩
set_option maxRecDepth 100000 in
theorem fnDomainsOf_lifted (os : Os) (started : os.Started) (H : Type) (enc : TypeId × Value → H) :
    ReturnsInHanded {} Try.checked os 4 .any (Rows.fnDomainsOfSpec.pre6 enc Try.prog Try.f4 Rows.fnDomainsOfRow.domain false) (Rows.fnDomainsOfSpec.post enc Try.prog Try.f4 false true false false) := by
  refine returnsInHanded_of_change (C := Try.checked) own started (by kernel_rfl) Try.func4
    (ChangeSpec.witness6 (enc := enc) (C := Try.checked) false ⟨#[], #[.slice none 0 0], []⟩ 8 (by kernel_rfl) (by kernel_rfl) (by kernel_rfl) (by kernel_rfl)) ?_
  intro W base args ds gs before hval0 hW hcnd _
  have hval : ∀ (j : Nat) t v, Try.f4.params[j]? = some t → args[j]? = some v → Value.okWide Try.prog W .any base t v := hval0
  have hW' := hW
  obtain ⟨p, q, hA0, hV, rfl, hfz, hnd⟩ := hW
  have hA : DataW.TrodAll enc Try.prog W 0 (fun _ => true) true Try.f4.params.toList args.toList ds p := hA0
  rw [Try.params4] at hA hval
  obtain ⟨v0, vs0, d0, ds0, p0, q0, hargs, rfl, rfl, h0, r0⟩ := trodAll_cons hA
  obtain ⟨rfl, rfl, rfl⟩ := trodAll_nil r0
  obtain rfl : args = #[v0] := by cases args; simp_all
  obtain ⟨rfl, rfl⟩ := trodVars_none hV
  obtain ⟨a0, n0, c0, rfl⟩ := okWide_slice Try.underlying22 (hval 0 22 v0 rfl rfl)
  have k0 := h0
  have lt0 : ∀ x ∈ p0, x.block < W.heap.size := by obtain ⟨m, hm⟩ := k0; exact DataW.trod_lt m _ _ _ hm
  obtain ⟨w0, x0, y0⟩ := code_of_trod Try.underlying22 Try.underlying5 (by kernel_rfl) h0
  clear hA0 hval0
  refine (fnDomainsOf_walk a0 n0 c0 W w0 x0 y0).mono fun e W' ⟨he, bel⟩ => ?_
  subst he
  exact ⟨_, rfl, _, _, _, [], _, [], hW', trodAll_mk1 (shut_bool Try.underlying4 _), (trodAll_cons_mk (Below.trod laidOut (by kernel_rfl) (of_decide_eq_true (by kernel_rfl)) k0 bel lt0) trodAll_mk0), rfl, bel.frame _, fun h => by cases h⟩
/-- FnDomainsOf: THE STATEMENT. -/
theorem fnDomainsOf_holds : Rows.FnDomainsOfSaid :=
  OpenClaim.holds_of_wide 4 Try.f4 rfl rfl rfl rfl rfl rfl rfl ⟨rfl, rfl, rfl, rfl, rfl⟩ rfl rfl rfl rfl rfl (by kernel_rfl) Try.func4 (by kernel_rfl)
    (of_decide_eq_true (by kernel_rfl)) (by unfold Func.isWrapper; first | (rw [if_pos (by decide +kernel)]; kernel_rfl) | (rw [if_neg (by decide +kernel)]; exact ⟨rfl, rfl⟩))
    (fun os started H enc _ => fnDomainsOf_lifted os started H enc)
end Go.Proofs.Ythcmdmjijdafoaa
