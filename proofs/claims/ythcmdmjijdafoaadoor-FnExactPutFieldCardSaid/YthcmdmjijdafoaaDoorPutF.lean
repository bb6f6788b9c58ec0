/-
  Values put: what the program's functions return. No statement is proved here.
-/
import Derived.Test.YthcmdmjijdafoaaDoorRowF
import Derived.Test.YthcmdmjijdafoaaDoorDropF
import Derived.Test.YthcmdmjijdafoaaDoorFldS
import Derived.WalkLawsBesides
namespace Go.Proofs.YthcmdmjijdafoaaDoor
open Go.RowKit

theorem putF_new {fs : List Fld} {f : Fld} (h1 : isFld f = true) (h2 : fldsOk fs = true) (h3 : findN fs f.name = none) (h4 : fs.length ≠ 20) : putF fs f = some (fs ++ [f]) := by
  unfold putF
  rw [h1, h2]
  show putT fs f = _
  unfold putT
  rw [h3]
  show (if fs.length = 20 then none else some (fs ++ [f])) = _
  rw [if_neg h4]
theorem putF_full {fs : List Fld} {f : Fld} (h1 : isFld f = true) (h2 : fldsOk fs = true) (h3 : findN fs f.name = none) (h4 : fs.length = 20) : putF fs f = none := by
  unfold putF
  rw [h1, h2]
  show putT fs f = _
  unfold putT
  rw [h3]
  show (if fs.length = 20 then none else some (fs ++ [f])) = _
  rw [if_pos h4]
def PutRet (xs : List Fld) (f : Fld) (w : World) (e : Ending) (w' : World) : Prop := ∃ u, e = .returned (.tuple #[u, .bool (putF xs f).isSome]) ∧ OwnF w.heap.size u ((putF xs f).getD []) w' ∧ Below w.heap.size w w'
theorem putRet_none {xs : List Fld} {f : Fld} {w w' : World} {u : Value} (h : putF xs f = none) (ho : OwnF w.heap.size u [] w') (hb : Below w.heap.size w w') : PutRet xs f w (.returned (.tuple #[u, .bool false])) w' :=
  ⟨u, by rw [h]; rfl, by rw [h]; exact ho, hb⟩
theorem putRet_some {xs ys : List Fld} {f : Fld} {w w' : World} {u : Value} (h : putF xs f = some ys) (ho : OwnF w.heap.size u ys w') (hb : Below w.heap.size w w') : PutRet xs f w (.returned (.tuple #[u, .bool true])) w' :=
  ⟨u, by rw [h]; rfl, by rw [h]; exact ho, hb⟩
theorem own_fresh2 {B : Nat} (w : World) (h : B ≤ w.heap.size) : OwnF B (.slice (some ⟨w.heap.size, 0, none⟩) 0 0) [] (w.alloc (.cells #[] 25)) := (OwnR.empty _ _ _ w).base h
/-- A value put into a row. -/
theorem own_val {B g cap k : Nat} {xs : List Fld} {w : World} (h : OwnF B (.slice (some ⟨g, 0, none⟩) xs.length cap) xs w) (hk : k < xs.length) (v : List UInt8) :
    (∃ z, w.cell? ⟨g, k * 2 + 1, none⟩ = some z) ∧ w.frozen? ⟨g, k * 2 + 1, none⟩ = false ∧ OwnF B (.slice (some ⟨g, 0, none⟩) xs.length cap) (xs.set k ⟨xs[k].name, v⟩) (w.setCell ⟨g, k * 2 + 1, none⟩ (.string (str v))) := by
  have hw := h
  unfold OwnF OwnR at hw
  have hlf : (xs.flatMap fldC).length = xs.length * 2 := flat_len fldC 2 fldC_len xs
  refine ⟨?_, hw.frozenAt _, ?_⟩
  · have := hw.cells (g := g) rfl (k * 2 + 1) _ (List.getElem?_eq_getElem (by omega))
    rw [add0] at this; exact ⟨_, this⟩
  · have hs := (hw.stored (k * 2 + 1) (.string (str v))).1
    have e := set2_flat (xs := xs) ⟨xs[k].name, v⟩ hk
    have e2 : (xs.flatMap fldC).set (k * 2) (.string (str xs[k].name)) = xs.flatMap fldC := by
      have g2 := flat_at fldC 2 fldC_len xs k 0 (by omega) hk
      apply List.ext_getElem?
      intro i
      by_cases hi : k * 2 = i
      · subst hi
        rw [List.getElem?_set_self (by omega)]
        rw [Nat.add_zero] at g2
        rw [g2]; rfl
      · rw [List.getElem?_set_ne hi]
    unfold OwnF OwnR
    rw [← e, List.length_set]
    show World.ownsRow _ _ _ _ _ _ (((xs.flatMap fldC).set (k * 2) (.string (str xs[k].name))).set (k * 2 + 1) (.string (str v)))
    rw [e2]; exact hs
set_option maxRecDepth 100000 in
set_option maxHeartbeats 400000 in
theorem clone_any (B0 : Nat) (v0 : Value) (xs : List Fld) (w : World) (ho : OwnF B0 v0 xs w) (hn : xs.length ≤ 1000000) :
    Calls Tryd.prog 38 #[v0] w (RowF xs w) := by
  have hA : Below w.heap.size w (w.alloc (.cells #[] 25)) := (Below.refl _ _).alloc (Nat.le_refl _) _
  have HO := Lib.hid ho
  have hnil := fun (a : Option Addr) (n c : Nat) (u : World) => Lib.run_eql_slice_nil (P := Tryd.prog) u 23 25 a n c 0 0 Tryd.underlying23
  unfold OwnF OwnR at ho
  rcases ho.2 with ⟨hv, h0⟩ | ⟨g, cap, cur, hv, _⟩
  · have hx : xs = [] := List.length_eq_zero_iff.1 h0
    subst hv hx
    clear ho
    go_enter Tryd.func38, Tryd.ntmps38
    go_wp2
    go_ret
    exact ⟨_, rfl, OwnR.nil _ _ _ _ _, Below.refl _ _⟩
  · subst hv
    clear ho
    go_enter Tryd.func38, Tryd.ntmps38
    go_wp2_with (at_builtin; refine wpList_append_F rfl _ _ rfl w.heap.size B0 _ _ [] xs rfl rfl (OwnR.empty _ _ _ w) (HO.out.keep hA) (by simp) (by simp; omega) ?_)
    intro v4 w4 ho4 hb4
    go_wp2
    go_ret
    exact ⟨v4, rfl, ho4, hA.trans hb4⟩
set_option maxRecDepth 100000 in
set_option maxHeartbeats 2000000 in
theorem putField_any (B0 : Nat) (v0 : Value) (xs : List Fld) (f : Fld) (w : World) (ho : OwnF B0 v0 xs w) (hn : xs.length ≤ 1073741824) (hx : ∀ x ∈ xs, SmallF 1073741000 x) (hf : SmallF 1073741000 f) :
    Calls Tryd.prog 10 #[v0, .agg #[.string (str f.name), .string (str f.val)]] w (PutRet xs f w) := by
  obtain ⟨i0, hi, hz0, hz1, hz2⟩ := info_parts fInfo
  have hbA : Below w.heap.size w (w.alloc (.cells #[.string (str f.name), .string (str f.val)] 25)) := (Below.refl _ _).alloc (Nat.le_refl _) _
  have hbA0 := hbA
  have HF := Lib.hid hf
  have HX := Lib.hid hx
  have HX2 : Hid (∀ x ∈ xs, SmallF 1073741824 x) := fun x h => (hx x h).up (by omega)
  have HO := Lib.hid ho
  have HFV := Lib.hid (fieldValid_fld f)
  have hzn : (str f.name).size ≤ 1073741824 := by rw [str_size]; have := hf.1; omega
  obtain ⟨a0, c0, rfl, hd, _, _⟩ := ho.read fldC_len
  clear ho hx hf
  by_cases hq1 : isFld f = true
  rotate_left
  · have hq1 : isFld f = false := by simpa using hq1
    have HN : Hid (putF xs f = none) := by show _ = _; unfold putF; rw [hq1]; rfl
    have HQ1 := Lib.hid hq1
    skip
    clear hq1
    go_enter Tryd.func10, Tryd.ntmps10
    go_wp2_with fail
    refine (HFV.out _ HF.out).mono ?_
    rintro e w2 ⟨rfl, hb2⟩
    rw [HQ1.out]
    go_wp2
    go_ret2
    exact putRet_none HN.out (OwnR.nil _ _ _ _ _) (nx hbA hb2)

  by_cases hq2 : fldsOk xs = true
  rotate_left
  · have hq2 : fldsOk xs = false := by simpa using hq2
    have HN : Hid (putF xs f = none) := by show _ = _; unfold putF; rw [hq2]; simp
    have HQ1 := Lib.hid hq1
    have HQ2 := Lib.hid hq2
    clear hq1 hq2
    go_enter Tryd.func10, Tryd.ntmps10
    go_wp2_with fail
    refine (HFV.out _ HF.out).mono ?_
    rintro e w2 ⟨rfl, hb2⟩
    rw [HQ1.out]
    have hB2 := nx hbA hb2
    go_wp2_with fail
    refine (fieldsValid_any a0 _ c0 xs _ ((hd.below hbA0).below hb2) (by omega) HX.out).mono ?_
    rintro e w3 ⟨rfl, hb3⟩
    rw [HQ2.out]
    go_wp2
    go_ret2
    exact putRet_none HN.out (OwnR.nil _ _ _ _ _) (nx hB2 hb3)

  have hl20 := (fldsOk_iff.1 hq2).2
  have HQ1 := Lib.hid hq1
  have HQ2 := Lib.hid hq2
  clear hq1 hq2
  go_enter Tryd.func10, Tryd.ntmps10
  go_wp2_with fail
  refine (HFV.out _ HF.out).mono ?_
  rintro e w2 ⟨rfl, hb2⟩
  rw [HQ1.out]
  have hB2 := nx hbA hb2
  go_wp2_with fail
  refine (fieldsValid_any a0 _ c0 xs _ ((hd.below hbA0).below hb2) (by omega) HX.out).mono ?_
  rintro e w3 ⟨rfl, hb3⟩
  rw [HQ2.out]
  have h23 := nx hb2 hb3
  have hB3 := nx hB2 hb3
  go_wp2_with fail
  refine (clone_any B0 _ xs _ ((HO.out.keep hbA0).keep h23) (by omega)).mono ?_
  rintro e w4 ⟨v4, rfl, ho4, hb4⟩
  have h24 := nx h23 hb4
  have hB4 := nx hB3 hb4
  have hblk : w.heap.size ≤ w3.heap.size := hB3.size
  obtain ⟨a4, c4, hv4, hd4, _, _⟩ := ho4.read fldC_len
  have HO4 := Lib.hid ho4
  have hdA := (fresh1 h24).1
  clear h23 hb2 hb3
  rcases findN_cases xs f.name with ⟨hq, _⟩ | ⟨i, hix, hq, _, _⟩
  · have HFQ : Hid (findN xs (str f.name).data.toList = none) := by show _ = _; rw [str_list]; exact hq
    have HPN : Hid (xs.length ≠ 20 → putF xs f = some (xs ++ [f])) := fun h => putF_new HQ1.out HQ2.out hq h
    have HPB : Hid (xs.length = 20 → putF xs f = none) := fun h => putF_full HQ1.out HQ2.out hq h
    subst hv4
    clear hq
    go_wp2_with fail
    refine (findField_any _ _ _ xs (str f.name) _ hd4 (by omega) HX2.out hzn).mono ?_
    rintro e w5 ⟨rfl, hb5⟩
    rw [HFQ.out, idxI_none]
    have hB5 := nx hB4 hb5
    have hdA5 : ∀ i, w5.cell? ⟨w.heap.size, i, none⟩ = #[Value.string (str f.name), .string (str f.val)][i]? := (fresh1 (nx h24 hb5)).1
    have hO5 := HO4.out.keep hb5
    unfold OwnF OwnR at hO5
    have hbs := hB5.size
    have hbs3 : w3.heap.size ≤ w5.heap.size := by have := hb4.size; have := hb5.size; omega
    by_cases h20 : xs.length = 20
    · have HN := Lib.hid (HPB.out h20)
      have e20 : ((xs.length : Int) == 20) = true := by rw [h20]; rfl
      clear h20 hdA
      go_wp2
      go_ret2
      exact putRet_none HN.out (OwnR.nil _ _ _ _ _) hB5
    · have HN := Lib.hid (HPN.out h20)
      have e20 : ((xs.length : Int) == 20) = false := by rw [beq_eq_false_iff_ne]; omega
      have HFC : Hid (fldC f = [.string (str f.name), .string (str f.val)]) := rfl
      generalize str f.name = n0 at *
      generalize str f.val = u0 at *
      clear h20 hdA
      have hFC := HFC.out
      go_wp2_with (at_builtin; refine wpList_append_own _ rfl _ _ 23 rfl w3.heap.size 25 i0 (.agg #[.string ⟨#[]⟩, .string ⟨#[]⟩]) 2 32 Tryd.underlying23 hi hz0 hz1 hz2 rfl (by decide) _ _ _ rfl (World.ownsRow.alloc hO5 _) ⟨w5.heap.size, 0, none⟩ 1 1 (fldC f) rfl rfl ?c1 ?c2 ?c3 ?c4 ?c5 ?_)
      case c1 => intro u v hu; rw [add0, World.cell?_alloc_at _ _ _ _ (by simp)]; rw [hFC] at hu; simpa using hu
      case c2 => intro u hu; rw [hFC] at hu; simp at hu; rcases hu with rfl | rfl <;> rfl
      case c3 => unfold maxLen; omega
      case c4 => omega
      case c5 => simp; omega
      intro v' w6 hown' hgrow _
      have hO6 : OwnF w3.heap.size v' (xs ++ [f]) w6 := OwnR.snoc (f := fldC) (x := f) (by rw [HFC.out]; exact hown')
      have hb6 : Below w3.heap.size w5 w6 := ((Below.refl _ _).alloc (by omega) _).grown hgrow (by simp; omega) (fun k hk => (World.ownsRow.lt hO5 k hk).1)
      go_wp2
      go_ret2
      exact putRet_some HN.out (hO6.base hblk) (hB5.trans (hb6.mono hblk))
  · have HFQ : Hid (findN xs (str f.name).data.toList = some i) := by show _ = _; rw [str_list]; exact hq
    have HP : Hid (putF xs f = some (xs.set i ⟨xs[i].name, f.val⟩)) := put_over (f := f) (v := f.val) HQ2.out hix hq HQ1.out
    obtain ⟨g, cap, hvg, hBg⟩ := own_cases ho4 (by omega)
    have hvv := hv4.symm.trans hvg
    injection hvv with h1 _ h3
    subst h1 h3
    subst hv4
    clear hq hvg
    go_wp2_with fail
    refine (findField_any _ _ _ xs (str f.name) _ hd4 (by omega) HX2.out hzn).mono ?_
    rintro e w5 ⟨rfl, hb5⟩
    rw [HFQ.out, idxI_some]
    have hB5 := nx hB4 hb5
    have hdA5 : ∀ i, w5.cell? ⟨w.heap.size, i, none⟩ = #[Value.string (str f.name), .string (str f.val)][i]? := (fresh1 (nx h24 hb5)).1
    have hO5 := HO4.out.keep hb5
    obtain ⟨⟨z0, hz0'⟩, hfz, hst⟩ := own_val hO5 hix f.val
    have HST := Lib.hid hst
    have hi0 : (0 : Int) ≤ (i : Int) := by omega
    have hii : (i : Int) < (xs.length : Int) := by omega
    have hwg : w.heap.size ≤ g := by omega
    clear hst hO5 hdA
    generalize str f.name = n0 at *
    generalize str f.val = u0 at *
    go_wp2
    go_ret2
    exact putRet_some HP.out (HST.out.base hblk) (hB5.setCell hwg _)
set_option maxRecDepth 100000 in
set_option maxHeartbeats 2000000 in
theorem putFieldS_any (B0 : Nat) (v0 : Value) (xs : List Fld) (f : Fld) (w : World) (ho : OwnF B0 v0 xs w) (hn : xs.length ≤ 1073741824) (hx : ∀ x ∈ xs, SmallF 1073741000 x) (hf : SmallF 1073741000 f) :
    Calls Tryd.prog 11 #[v0, .agg #[.string (str f.name), .string (str f.val)]] w (PutRet xs f w) := by
  obtain ⟨i0, hi, hz0, hz1, hz2⟩ := info_parts fInfo
  have hbA : Below w.heap.size w (w.alloc (.cells #[.string (str f.name), .string (str f.val)] 25)) := (Below.refl _ _).alloc (Nat.le_refl _) _
  have hbA0 := hbA
  have hbE : Below w.heap.size w ((w.alloc (.cells #[.string (str f.name), .string (str f.val)] 25)).alloc (.cells #[] 25)) := hbA.alloc hbA.size _
  have HF := Lib.hid hf
  have HX := Lib.hid hx
  have HX2 : Hid (∀ x ∈ xs, SmallF 1073741824 x) := fun x h => (hx x h).up (by omega)
  have HO := Lib.hid ho
  have HFV := Lib.hid (fieldValidS_fld f)
  have hzn : (str f.name).size ≤ 1073741824 := by rw [str_size]; have := hf.1; omega
  obtain ⟨a0, c0, rfl, hd, _, _⟩ := ho.read fldC_len
  clear ho hx hf
  by_cases hq1 : isFld f = true
  rotate_left
  · have hq1 : isFld f = false := by simpa using hq1
    have HN : Hid (putF xs f = none) := by show _ = _; unfold putF; rw [hq1]; rfl
    have HQ1 := Lib.hid hq1
    by_cases hq2 : fldsOk xs = true
    rotate_left
    · have HQ2 : Hid (fldsOk xs = false) := by show _ = _; simpa using hq2
      clear hq1 hq2
      go_enter Tryd.func11, Tryd.ntmps11
      go_wp2_with fail
      refine (l3Valid_any a0 _ c0 xs _ (hd.below hbA0) (by omega) HX.out).mono ?_
      rintro e w2 ⟨rfl, hb2⟩
      rw [HQ2.out]
      go_wp2
      go_ret2
      exact putRet_none HN.out (own_fresh2 _ (nx hbA hb2).size) ((nx hbA hb2).alloc (nx hbA hb2).size _)
    have HQ2 := Lib.hid hq2
    clear hq2
    clear hq1
    go_enter Tryd.func11, Tryd.ntmps11
    go_wp2_with fail
    refine (l3Valid_any a0 _ c0 xs _ (hd.below hbA0) (by omega) HX.out).mono ?_
    rintro e w2 ⟨rfl, hb2⟩
    rw [HQ2.out]
    have hdA := (fresh1 hb2).1
    have hB2 := nx hbA hb2
    go_wp2_with fail
    refine (HFV.out _ HF.out).mono ?_
    rintro e w3 ⟨rfl, hb3⟩
    rw [HQ1.out]
    go_wp2
    go_ret2
    exact putRet_none HN.out (own_fresh2 _ (nx hB2 hb3).size) ((nx hB2 hb3).alloc (nx hB2 hb3).size _)

  by_cases hq2 : fldsOk xs = true
  rotate_left
  · have hq2 : fldsOk xs = false := by simpa using hq2
    have HN : Hid (putF xs f = none) := by show _ = _; unfold putF; rw [hq2]; simp
    have HQ1 := Lib.hid hq1
    have HQ2 := Lib.hid hq2
    clear hq1 hq2
    go_enter Tryd.func11, Tryd.ntmps11
    go_wp2_with fail
    refine (l3Valid_any a0 _ c0 xs _ (hd.below hbA0) (by omega) HX.out).mono ?_
    rintro e w2 ⟨rfl, hb2⟩
    rw [HQ2.out]
    go_wp2
    go_ret2
    exact putRet_none HN.out (own_fresh2 _ (nx hbA hb2).size) ((nx hbA hb2).alloc (nx hbA hb2).size _)

  have hl20 := (fldsOk_iff.1 hq2).2
  have HQ1 := Lib.hid hq1
  have HQ2 := Lib.hid hq2
  clear hq1 hq2
  go_enter Tryd.func11, Tryd.ntmps11
  go_wp2_with fail
  refine (l3Valid_any a0 _ c0 xs _ (hd.below hbA0) (by omega) HX.out).mono ?_
  rintro e w2 ⟨rfl, hb2⟩
  rw [HQ2.out]
  have hdA2 := (fresh1 hb2).1
  have hB2 := nx hbA hb2
  go_wp2_with fail
  refine (HFV.out _ HF.out).mono ?_
  rintro e w3 ⟨rfl, hb3⟩
  rw [HQ1.out]
  have h23 := nx hb2 hb3
  have hB3 := nx hB2 hb3
  have hO3 := (HO.out.keep hbA0).keep h23
  have hA4 : Below w3.heap.size w3 (w3.alloc (.cells #[] 25)) := (Below.refl _ _).alloc (Nat.le_refl _) _
  clear hdA2
  go_wp2_with (at_builtin; refine wpList_append_F rfl _ _ rfl w3.heap.size B0 _ _ [] xs rfl rfl (OwnR.empty _ _ _ w3) (hO3.keep hA4) (by simp) (by simp; omega) ?_)
  intro v4 w4 ho4 hb4'
  have ho4 : OwnF w3.heap.size v4 xs w4 := ho4
  have hb4 : Below w3.heap.size w3 w4 := hA4.trans hb4'
  have h24 := nx h23 hb4
  have hB4 := nx hB3 hb4
  have hblk : w.heap.size ≤ w3.heap.size := hB3.size
  have hd4' := (hd.below hbA0).below h24
  obtain ⟨a4, c4, hv4, hd4, _, _⟩ := ho4.read fldC_len
  have HO4 := Lib.hid ho4
  have hdA := (fresh1 h24).1
  clear h23 hb2 hb3
  rcases findN_cases xs f.name with ⟨hq, _⟩ | ⟨i, hix, hq, _, _⟩
  · have HFQ : Hid (findN xs (str f.name).data.toList = none) := by show _ = _; rw [str_list]; exact hq
    have HPN : Hid (xs.length ≠ 20 → putF xs f = some (xs ++ [f])) := fun h => putF_new HQ1.out HQ2.out hq h
    have HPB : Hid (xs.length = 20 → putF xs f = none) := fun h => putF_full HQ1.out HQ2.out hq h
    subst hv4
    clear hq
    go_wp2_with fail
    refine (l3Find_any a0 _ c0 xs (str f.name) _ hd4' (by omega) HX2.out hzn).mono ?_
    rintro e w5 ⟨rfl, hb5⟩
    rw [HFQ.out, idxI_none]
    have hB5 := nx hB4 hb5
    have hdA5 : ∀ i, w5.cell? ⟨w.heap.size, i, none⟩ = #[Value.string (str f.name), .string (str f.val)][i]? := (fresh1 (nx h24 hb5)).1
    have hO5 := HO4.out.keep hb5
    unfold OwnF OwnR at hO5
    have hbs := hB5.size
    have hbs3 : w3.heap.size ≤ w5.heap.size := by have := hb4.size; have := hb5.size; omega
    by_cases h20 : xs.length = 20
    · have HN := Lib.hid (HPB.out h20)
      have e20 : ((xs.length : Int) == 20) = true := by rw [h20]; rfl
      clear h20 hdA
      go_wp2
      go_ret2
      exact putRet_none HN.out (own_fresh2 _ hB5.size) (hB5.alloc hB5.size _)
    · have HN := Lib.hid (HPN.out h20)
      have e20 : ((xs.length : Int) == 20) = false := by rw [beq_eq_false_iff_ne]; omega
      have HFC : Hid (fldC f = [.string (str f.name), .string (str f.val)]) := rfl
      generalize str f.name = n0 at *
      generalize str f.val = u0 at *
      clear h20 hdA
      have hFC := HFC.out
      go_wp2_with (at_builtin; refine wpList_append_own _ rfl _ _ 23 rfl w3.heap.size 25 i0 (.agg #[.string ⟨#[]⟩, .string ⟨#[]⟩]) 2 32 Tryd.underlying23 hi hz0 hz1 hz2 rfl (by decide) _ _ _ rfl (World.ownsRow.alloc hO5 _) ⟨w5.heap.size, 0, none⟩ 1 1 (fldC f) rfl rfl ?c1 ?c2 ?c3 ?c4 ?c5 ?_)
      case c1 => intro u v hu; rw [add0, World.cell?_alloc_at _ _ _ _ (by simp)]; rw [hFC] at hu; simpa using hu
      case c2 => intro u hu; rw [hFC] at hu; simp at hu; rcases hu with rfl | rfl <;> rfl
      case c3 => unfold maxLen; omega
      case c4 => omega
      case c5 => simp; omega
      intro v' w6 hown' hgrow _
      have hO6 : OwnF w3.heap.size v' (xs ++ [f]) w6 := OwnR.snoc (f := fldC) (x := f) (by rw [HFC.out]; exact hown')
      have hb6 : Below w3.heap.size w5 w6 := ((Below.refl _ _).alloc (by omega) _).grown hgrow (by simp; omega) (fun k hk => (World.ownsRow.lt hO5 k hk).1)
      go_wp2
      go_ret2
      exact putRet_some HN.out (hO6.base hblk) (hB5.trans (hb6.mono hblk))
  · have HFQ : Hid (findN xs (str f.name).data.toList = some i) := by show _ = _; rw [str_list]; exact hq
    have HP : Hid (putF xs f = some (xs.set i ⟨xs[i].name, f.val⟩)) := put_over (f := f) (v := f.val) HQ2.out hix hq HQ1.out
    obtain ⟨g, cap, hvg, hBg⟩ := own_cases ho4 (by omega)
    have hvv := hv4.symm.trans hvg
    injection hvv with h1 _ h3
    subst h1 h3
    subst hv4
    clear hq hvg
    go_wp2_with fail
    refine (l3Find_any a0 _ c0 xs (str f.name) _ hd4' (by omega) HX2.out hzn).mono ?_
    rintro e w5 ⟨rfl, hb5⟩
    rw [HFQ.out, idxI_some]
    have hB5 := nx hB4 hb5
    have hdA5 : ∀ i, w5.cell? ⟨w.heap.size, i, none⟩ = #[Value.string (str f.name), .string (str f.val)][i]? := (fresh1 (nx h24 hb5)).1
    have hO5 := HO4.out.keep hb5
    obtain ⟨⟨z0, hz0'⟩, hfz, hst⟩ := own_val hO5 hix f.val
    have HST := Lib.hid hst
    have hi0 : (0 : Int) ≤ (i : Int) := by omega
    have hii : (i : Int) < (xs.length : Int) := by omega
    have hwg : w.heap.size ≤ g := by omega
    clear hst hO5 hdA
    generalize str f.name = n0 at *
    generalize str f.val = u0 at *
    go_wp2
    go_ret2
    exact putRet_some HP.out (HST.out.base hblk) (hB5.setCell hwg _)
end Go.Proofs.YthcmdmjijdafoaaDoor
