/-
  FnPutField: the law's walk. For every input of the law: it returns true, and the input reads as it did. Conditions: none but the statement's own.
-/
import Derived.Test.YthcmdmjijdafoaaDoorLaw0
import Derived.Test.YthcmdmjijdafoaaDoorDrawP
import Derived.Test.YthcmdmjijdafoaaDoorPutF
import Derived.Test.YthcmdmjijdafoaaDoorSameF
import Derived.Test.YthcmdmjijdafoaaDoorDropF
import Derived.Deep.RegionHeld3
import Derived.Deep.RegionWith
import Derived.BigRegion
import Derived.Test.YthcmdmjijdafoaaDoorQuietB
namespace Go.Proofs.YthcmdmjijdafoaaDoor
open Go.ChangeShapes Go.WideShapes Go.ChangeAt Go.RowKit
open Go.ChangeMaps (open_string shut_string)

/-- A value put: as a slice. -/
def PutTo (ys : List Fld) (ok : Bool) (w : World) (e : Ending) (w' : World) : Prop := ∃ a c, e = .returned (.tuple #[.slice a ys.length c, .bool ok]) ∧ ys.length ≤ c ∧ RdF w' a ys.length ys ∧ Below w.heap.size w w'
theorem putRet_to {xs ys : List Fld} {f : Fld} {ok : Bool} {w w' : World} {e : Ending} (h1 : (putF xs f).getD [] = ys) (h2 : (putF xs f).isSome = ok) (h : PutRet xs f w e w') : PutTo ys ok w e w' := by
  obtain ⟨u, rfl, ho, hb⟩ := h
  rw [h1] at ho
  rw [h2]
  have ho' := ho
  obtain ⟨a, c, rfl, hr, _, hc⟩ := ho'.read fldC_len
  exact ⟨a, c, rfl, hc, hr, hb⟩
theorem oks_small {xs : List Fld} (h : fldsOk xs = true) : xs.length ≤ 20 ∧ ∀ x ∈ xs, SmallF 1073741000 x :=
  ⟨(fldsOk_iff.1 h).2, fun x hx => (isFld_small ((fldsOk_iff.1 h).1 x hx)).up (by omega)⟩
set_option maxRecDepth 100000 in
set_option maxHeartbeats 4000000 in
theorem fnPutField_walk (a : Option Addr) (n c : Nat) (w : World) (hc : Code w a n) (hnc : n ≤ c) (hm : c ≤ maxLen) :
    Calls Tryd.prog 3 #[.slice a n c] w fun e w' => e = .returned (.bool true) ∧ Below w.heap.size w w' := by
  have hm' := hm
  unfold maxLen at hm'
  by_cases hn : 1048576 < n
  · have hd : decide ((1048576 : Int) < n) = true := by simp; omega
    go_enter Tryd.func3, Tryd.ntmps3
    go_wp2
    go_ret
    exact ⟨rfl, Below.refl _ _⟩
  have hd : decide ((1048576 : Int) < n) = false := by simp; omega
  go_enter Tryd.func3, Tryd.ntmps3
  go_wp2_with fail
  refine (drawPutField_any a n c w hc hnc hm).mono ?_
  rintro e w1 ⟨v, xs, f, rfl, ho, hl4, hsm, hsf, hb1⟩
  have ho' := ho
  obtain ⟨ax, cx, rfl, hdx, _, hcx⟩ := ho'.read fldC_len
  have HDX := Lib.hid hdx
  have HL4 : Hid (xs.length ≤ 4) := hl4
  clear hdx ho'
  have hXV : fldV f = .agg #[.string (str f.name), .string (str f.val)] := rfl
  rw [hXV]
  clear hXV
  have HSM : Hid (∀ x ∈ xs, SmallF 1073741000 x) := fun x hx => (hsm x hx).up (by omega)
  have HSF : Hid (SmallF 1073741000 f) := hsf.up (by omega)
  have hzn : (str f.name).size ≤ 1073741824 := by rw [str_size]; have := hsf.1; omega
  have HO := Lib.hid ho
  have HL : Hid (xs.length ≤ 1073741824) := by show _ ≤ _; omega
  have hbA := hb1.alloc hb1.size (.cells #[.string (str f.name), .string (str f.val)] 25)
  have HK : Hid (∀ w', Below (w1.alloc (.cells #[.string (str f.name), .string (str f.val)] 25)).heap.size (w1.alloc (.cells #[.string (str f.name), .string (str f.val)] 25)) w' → (∀ i, w'.cell? ⟨w1.heap.size, i, none⟩ = #[Value.string (str f.name), .string (str f.val)][i]?) ∧ w1.heap.size < w'.heap.size ∧ OwnF w.heap.size (.slice ax xs.length cx) xs w' ∧ Below w.heap.size w w') :=
    fun w' h => ⟨(fresh1 h).1, (fresh1 h).2.2, (HO.out.keep ((Below.refl _ _).alloc (Nat.le_refl _) _)).keep h, nx hbA h⟩
  have HP : Hid (∀ u ys ok, (putF xs f).getD [] = ys → (putF xs f).isSome = ok → OwnF w.heap.size (.slice ax xs.length cx) xs u → Calls Tryd.prog 10 #[.slice ax xs.length cx, .agg #[.string (str f.name), .string (str f.val)]] u (PutTo ys ok u)) :=
    fun u ys ok h1 h2 h => (putField_any _ _ xs f u h HL.out HSM.out HSF.out).mono fun e w' h' => putRet_to h1 h2 h'
  have HPS : Hid (∀ u ys ok, (putF xs f).getD [] = ys → (putF xs f).isSome = ok → OwnF w.heap.size (.slice ax xs.length cx) xs u → Calls Tryd.prog 11 #[.slice ax xs.length cx, .agg #[.string (str f.name), .string (str f.val)]] u (PutTo ys ok u)) :=
    fun u ys ok h1 h2 h => (putFieldS_any _ _ xs f u h HL.out HSM.out HSF.out).mono fun e w' h' => putRet_to h1 h2 h'
  cases hp : putF xs f with
  | none =>
    have HQ := Lib.hid hp
    have HP1 : Hid (∀ u, OwnF w.heap.size (.slice ax xs.length cx) xs u → Calls Tryd.prog 10 #[.slice ax xs.length cx, .agg #[.string (str f.name), .string (str f.val)]] u (PutTo [] false u)) := fun u => HP.out u _ _ (by rw [hp]; rfl) (by rw [hp]; rfl)
    have HP2 : Hid (∀ u, OwnF w.heap.size (.slice ax xs.length cx) xs u → Calls Tryd.prog 11 #[.slice ax xs.length cx, .agg #[.string (str f.name), .string (str f.val)]] u (PutTo [] false u)) := fun u => HPS.out u _ _ (by rw [hp]; rfl) (by rw [hp]; rfl)
    clear hp HP HPS hbA hb1 ho hsm hsf hl4
    generalize str f.name = n0 at *
    generalize str f.val = v0 at *
    obtain ⟨d1, _, hO1, _⟩ := HK.out _ (Below.refl _ _)
    have HO1 := Lib.hid hO1
    clear hO1
    go_wp2_with fail
    refine (HP1.out _ HO1.out).mono ?_
    rintro e w2 ⟨a2, c2, rfl, _, hr2, hb2⟩
    have HR2 := Lib.hid hr2
    have HB2 := Lib.hid hb2
    obtain ⟨d2, _, hO2, _⟩ := HK.out _ HB2.out
    have HO2 := Lib.hid hO2
    clear hr2 hb2 d1 hO2
    go_wp2_with fail
    refine (HP2.out _ HO2.out).mono ?_
    rintro e w3 ⟨a3, c3, rfl, _, hr3, hb3⟩
    have HR3 := Lib.hid hr3
    have HR23 := Lib.hid (HR2.out.below hb3)
    have HB3 := Lib.hid (nx HB2.out hb3)
    clear hr3 hb3 d2
    go_wp2_with fail
    refine (fieldsSame_any a2 a3 _ c2 _ c3 [] [] _ HR23.out HR3.out (by unfold maxLen; simp) (by unfold maxLen; simp)).mono ?_
    rintro e w4 ⟨rfl, hb4⟩
    rw [decide_eq_true (rfl : ([] : List Fld) = [])]
    have HR24 := Lib.hid (HR23.out.below hb4)
    have HR34 := Lib.hid (HR3.out.below hb4)
    have HB4 := Lib.hid (nx HB3.out hb4)
    clear hb4
    go_wp2_with fail
    refine (fieldsSame_any a2 a3 _ c2 _ c3 [] [] _ HR24.out HR34.out (by unfold maxLen; simp) (by unfold maxLen; simp)).mono ?_
    rintro e w5 ⟨rfl, hb5⟩
    rw [decide_eq_true (rfl : ([] : List Fld) = [])]
    go_wp2
    go_ret
    exact ⟨rfl, (HK.out _ (nx HB4.out hb5)).2.2.2⟩
  | some x =>
    obtain ⟨hpi, hfv, _⟩ := putF_is hp
    obtain ⟨hxl, hxs⟩ := oks_small hpi.ok
    have HXS2 : Hid (∀ z ∈ x, SmallF 1073741824 z) := fun z hz => (hxs z hz).up (by omega)
    have HSM2 : Hid (∀ z ∈ xs, SmallF 1073741824 z) := fun z hz => (HSM.out z hz).up (by omega)
    have HXL : Hid (x.length ≤ 1073741824 ∧ x.length ≤ maxLen) := by unfold maxLen; exact ⟨by omega, by omega⟩
    have HG : Hid (getF x (str f.name).data.toList = some f.val) := by show _ = _; rw [str_list]; exact hpi.get
    have HGV : Hid (str f.val = str f.val) := rfl
    have HSAME : Hid (∀ i, (h : i < xs.length) → ∃ h' : i < x.length, sameN xs[i].name (str f.name).data.toList = false → x[i] = xs[i]) := fun i h => by rw [str_list]; exact hpi.same i h
    have HLN : Hid (0 < countF xs (str f.name).data.toList ∧ x.length = xs.length ∨ countF xs (str f.name).data.toList = 0 ∧ x.length = xs.length + 1) := by show _ ∨ _; rw [str_list]; exact hpi.len
    have HCN : Hid (countF xs (str f.name).data.toList ≤ 4) := by show _ ≤ _; have := dropF_count xs (str f.name).data.toList; have := HL4.out; omega
    have hzn2 : (str f.name).size ≤ 1000 := by rw [str_size]; have := hsf.1; omega
    have HP1 : Hid (∀ u, OwnF w.heap.size (.slice ax xs.length cx) xs u → Calls Tryd.prog 10 #[.slice ax xs.length cx, .agg #[.string (str f.name), .string (str f.val)]] u (PutTo x true u)) := fun u => HP.out u _ _ (by rw [hp]; rfl) (by rw [hp]; rfl)
    have HP2 : Hid (∀ u, OwnF w.heap.size (.slice ax xs.length cx) xs u → Calls Tryd.prog 11 #[.slice ax xs.length cx, .agg #[.string (str f.name), .string (str f.val)]] u (PutTo x true u)) := fun u => HPS.out u _ _ (by rw [hp]; rfl) (by rw [hp]; rfl)
    have hov : str ((some f.val).getD []) = str f.val := rfl
    have HOV := Lib.hid hov
    have hpl := hpi.len
    have HXX : Hid (x.length = 0 → xs.length = 0) := fun h => by rcases hpl with ⟨_, h2⟩ | ⟨_, h2⟩ <;> omega
    clear hp HP HPS hbA hb1 ho hsm hsf hl4 hpi hfv hxl hxs hov hpl
    have hee1 : ((str f.val).toList == (str f.val).toList) = true := by simp
    generalize f.val = fv at *
    generalize str f.name = n0 at *
    generalize str fv = v0 at *
    obtain ⟨d1, _, hO1, _⟩ := HK.out _ (Below.refl _ _)
    have HO1 := Lib.hid hO1
    clear hO1
    go_wp2_with fail
    refine (HP1.out _ HO1.out).mono ?_
    rintro e w2 ⟨a2, c2, rfl, hc2, hr2, hb2⟩
    have HR2 := Lib.hid hr2
    have HB2 := Lib.hid hb2
    have HC2 := Lib.hid hc2
    obtain ⟨d2, _, hO2, _⟩ := HK.out _ HB2.out
    have HO2 := Lib.hid hO2
    clear hr2 hb2 d1 hO2 hc2
    go_wp2_with fail
    refine (HP2.out _ HO2.out).mono ?_
    rintro e w3 ⟨a3, c3, rfl, _, hr3, hb3⟩
    have HR3 := Lib.hid hr3
    have HR23 := Lib.hid (HR2.out.below hb3)
    have HB3 := Lib.hid (nx HB2.out hb3)
    clear hr3 hb3 d2
    go_wp2_with fail
    refine (fieldsSame_any a2 a3 _ c2 _ c3 x x _ HR23.out HR3.out HXL.out.2 HXL.out.2).mono ?_
    rintro e w4 ⟨rfl, hb4⟩
    rw [decide_eq_true (rfl : x = x)]
    have HR24 := Lib.hid (HR23.out.below hb4)
    have HB4 := Lib.hid (nx HB3.out hb4)
    obtain ⟨d4, z4, _, _⟩ := HK.out _ HB4.out
    clear hb4
    go_wp2_with fail
    refine (getField_any a2 _ c2 x n0 _ HR24.out HXL.out.1 HXS2.out hzn).mono ?_
    rintro e w5 ⟨rfl, hb5⟩
    unfold getR
    rw [HG.out]
    have hos : (some fv).isSome = true := rfl
    rw [HOV.out, hos]
    have HB5 := Lib.hid (nx HB4.out hb5)
    have HR25 := Lib.hid (HR24.out.below hb5)
    obtain ⟨d5, z5, hO5, _⟩ := HK.out _ HB5.out
    clear hb5 hos d4 z4
    have HZ5 := Lib.hid z5
    obtain ⟨ax', cx', hv', hdx5, _, _⟩ := hO5.read fldC_len
    injection hv' with e1 _ e3
    subst e1 e3
    have HDX5 := Lib.hid hdx5
    clear hdx5 hO5
    have HD5 := Lib.hid d5
    go_wp2_with fail
    go_loopw [11] (fun i wr => ∃ k : Nat, k ≤ xs.length ∧ i = .int .i64 k ∧ Below w5.heap.size w5 wr) (fun i _ => xs.length - (intOf i).toNat)
    case atStart => exact ⟨0, Nat.zero_le _, rfl, Below.refl _ _⟩
    case round =>
      obtain ⟨k, hk, rfl, hb⟩ := hrel
      have HB := Lib.hid hb
      by_cases hlt : k < xs.length
      · obtain ⟨b, off, rfl, hbl, hcell⟩ := HDX5.out.2.resolve_left (by omega)
        obtain ⟨hkx, hsame⟩ := HSAME.out k hlt
        obtain ⟨b2, o2, rfl, hbl2, hcell2⟩ := HR25.out.2.resolve_left (by omega)
        obtain ⟨q0, q1⟩ := RdR.fld hcell hlt
        obtain ⟨r0, r1⟩ := RdR.fld hcell2 hkx
        have HZK : Hid ((str xs[k].name).size ≤ 1073741824) := by show _ ≤ _; rw [str_size]; exact (HSM2.out _ (List.getElem_mem hlt)).1
        have HSN : Hid (decide (lowS (str xs[k].name) = lowS n0) = sameN xs[k].name n0.data.toList) := by show _ = _; rw [sameS, str_list]
        have HS : Hid (∀ w', Below w5.heap.size w5 w' → w'.cell? ⟨w1.heap.size, 0, none⟩ = some (.string n0) ∧ w'.cell? ⟨b, off + k * 2, none⟩ = some (.string (str xs[k].name)) ∧ w'.cell? ⟨b, off + k * 2 + 1, none⟩ = some (.string (str xs[k].val)) ∧ w'.cell? ⟨b2, o2 + k * 2, none⟩ = some (.string (str x[k].name)) ∧ w'.cell? ⟨b2, o2 + k * 2 + 1, none⟩ = some (.string (str x[k].val)) ∧ Below w5.heap.size w5 w') := fun w' h =>
          ⟨by rw [below_at h HZ5.out]; exact HD5.out 0, by rw [below_at h hbl]; exact q0, by rw [below_at h hbl]; exact q1, by rw [below_at h hbl2]; exact r0, by rw [below_at h hbl2]; exact r1, h⟩
        have hi0 : (0 : Int) ≤ (k : Int) := by omega
        have hi1 : (k : Int) < (xs.length : Int) := by omega
        have hi2 : (k : Int) < (x.length : Int) := by omega
        clear q0 q1 r0 r1 hcell hcell2 hb d5 z5
        cases hq : sameN xs[k].name n0.data.toList
        · have hxk := hsame hq
          rw [hxk] at HS
          rw [hq] at HSN
          clear hxk hq hsame
          generalize str xs[k].name = s0 at *
          generalize str xs[k].val = s1 at *
          have g0 : (s0.toList == s0.toList) = true := by simp
          have g1 : (s1.toList == s1.toList) = true := by simp
          have HKL : Hid (k + 1 ≤ xs.length) := by show _ ≤ _; omega
          have hkb : k ≤ 1073741824 := by have := HL.out; omega
          have HST : Hid (∀ u, Calls Tryd.prog 14 #[.string s0, .string n0] u fun e w' => e = .returned (.bool false) ∧ Below u.heap.size u w') := fun u => by
            rw [← HSN.out]; exact sameText_any s0 n0 u HZK.out hzn
          have HY : Hid (∀ y : BelowT wr, _) := fun y => HS.out y.val (nx HB.out y.below)
          go_wp2
          have y0 := fun y => (HY.out y).1
          have y1 := fun y => (HY.out y).2.1
          have y2 := fun y => (HY.out y).2.2.1
          have y3 := fun y => (HY.out y).2.2.2.1
          have y4 := fun y => (HY.out y).2.2.2.2.1
          refine wp_region_quietB (W := wr) (by kernel_rfl) (by kernel_rfl) (Below.refl _ _) ?_
          repeat (go_big_quiet_step (first
            | (go_at_call 14; exact calls_belowT (HST.out _))))
          refine wpQuiet_nil ?_
          intro wz hwz
          obtain ⟨x9, rfl⟩ := hwz
          have hbx := nx HB.out x9.below
          clear y0 y1 y2 y3 y4
          generalize x9.val = w9 at *
          go_wp2
          go_roundw
          case rel => exact ⟨k + 1, HKL.out, by go_num, hbx⟩
          case measure => have := HKL.out; simp [intOf]; omega
        · rw [hq] at HSN
          clear hq hsame
          generalize str xs[k].name = s0 at *
          generalize str xs[k].val = s1 at *
          generalize str x[k].name = t0 at *
          generalize str x[k].val = t1 at *
          have HKL : Hid (k + 1 ≤ xs.length) := by show _ ≤ _; omega
          have hkb : k ≤ 1073741824 := by have := HL.out; omega
          have HST : Hid (∀ u, Calls Tryd.prog 14 #[.string s0, .string n0] u fun e w' => e = .returned (.bool true) ∧ Below u.heap.size u w') := fun u => by
            rw [← HSN.out]; exact sameText_any s0 n0 u HZK.out hzn
          have HY : Hid (∀ y : BelowT wr, _) := fun y => HS.out y.val (nx HB.out y.below)
          go_wp2
          have y0 := fun y => (HY.out y).1
          have y1 := fun y => (HY.out y).2.1
          have y2 := fun y => (HY.out y).2.2.1
          have y3 := fun y => (HY.out y).2.2.2.1
          have y4 := fun y => (HY.out y).2.2.2.2.1
          refine wp_region_quietB (W := wr) (by kernel_rfl) (by kernel_rfl) (Below.refl _ _) ?_
          repeat (go_big_quiet_step (first
            | (go_at_call 14; exact calls_belowT (HST.out _))))
          refine wpQuiet_nil ?_
          intro wz hwz
          obtain ⟨x9, rfl⟩ := hwz
          have hbx := nx HB.out x9.below
          clear y0 y1 y2 y3 y4
          generalize x9.val = w9 at *
          go_wp2
          go_roundw
          case rel => exact ⟨k + 1, HKL.out, by go_num, hbx⟩
          case measure => have := HKL.out; simp [intOf]; omega
      · have hdr : ∀ i, wr.cell? ⟨w1.heap.size, i, none⟩ = #[Value.string n0, .string v0][i]? := fun i => (below_at HB.out HZ5.out).trans (HD5.out i)
        have HDR := Lib.hid hdr
        clear d5 z5 hb hk
        go_wp2_with fail
        refine (countField_any ax _ cx xs n0 _ (HDX5.out.below HB.out) HL.out HSM2.out hzn).mono ?_
        rintro e w7 ⟨rfl, hb7⟩
        have hzr : w1.heap.size < wr.heap.size := Nat.lt_of_lt_of_le HZ5.out HB.out.size
        have hd7 : ∀ i, w7.cell? ⟨w1.heap.size, i, none⟩ = #[Value.string n0, .string v0][i]? := fun i => (below_at hb7 hzr).trans (HDR.out i)
        have HFB := Lib.hid ((HK.out _ (nx HB5.out (nx HB.out hb7))).2.2.2)
        have hln := HLN.out
        have hcn := HCN.out
        have hl4 := HL4.out
        generalize countF xs n0.data.toList = m at *
        clear hb7 hdr hzr HLN HCN
        rcases hln with ⟨h1, h2⟩ | ⟨h1, h2⟩
        · have f1 : decide ((0 : Int) < (m : Int)) = true := by simp; omega
          have f2 : (((x.length : Nat) : Int) == ((xs.length : Nat) : Int)) = true := by rw [beq_iff_eq]; omega
          have f3 : (0 : Int) < (m : Int) := by omega
          clear h1 h2
          go_wp2
          go_ret
          exact ⟨rfl, HFB.out⟩
        · have f1 : decide ((0 : Int) < (m : Int)) = false := by simp; omega
          have f2 : (((m : Nat) : Int) == 0) = true := by rw [beq_iff_eq]; omega
          have f3 : (((x.length : Nat) : Int) == ((xs.length : Nat) : Int) + 1) = true := by rw [beq_iff_eq]; omega
          have f4 : ¬ ((0 : Int) < (m : Int)) := by omega
          clear h1 h2
          go_wp2
          go_ret
          exact ⟨rfl, HFB.out⟩
end Go.Proofs.YthcmdmjijdafoaaDoor
