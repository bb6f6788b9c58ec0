/-
  Laws of chapter 2 on boxes: each law's walk. For every input of the law: it returns true, and the input reads as it did. Conditions: none but the statement's own.
-/
import Derived.Test.YtepjnahliojnjabLaw2
import Derived.Test.YtepjnahliojnjabDrawA
import Derived.Test.YtepjnahliojnjabBoxA
import Derived.Test.YtepjnahliojnjabLawA
import Derived.Deep.RegionWith
import Derived.Deep.RegionHeld3
import Derived.BigRegion
namespace Go.Proofs.Ytepjnahliojnjab
open Go.ChangeShapes Go.WideShapes Go.ChangeAt Go.RowKit
open Go.ChangeMaps (open_string shut_string)

/-- Two addresses are drawn; nothing that was there turns. -/
def DrawnTwoA (M : Nat) (w : World) (e : Ending) (w' : World) : Prop := ∃ x y : Adr, e = .returned (.tuple #[adrV x, adrV y]) ∧ SmallA M x ∧ SmallA M y ∧ Below w.heap.size w w'
theorem drawnTwoA_mk {M : Nat} {w w' : World} {x : Adr} {n l d : ByteArray} (hx : SmallA M x) (hn : n.size ≤ M) (hl : l.size ≤ M) (hd : d.size ≤ M) (hb : Below w.heap.size w w') :
    DrawnTwoA M w (.returned (.tuple #[.agg #[.string (str x.name), .string (str x.loc), .string (str x.dom)], .agg #[.string n, .string l, .string d]])) w' :=
  ⟨x, adr n l d, by rw [adrV_adr]; rfl, hx, ⟨by show n.data.toList.length ≤ M; rw [size_list]; exact hn, by show l.data.toList.length ≤ M; rw [size_list]; exact hl, by show d.data.toList.length ≤ M; rw [size_list]; exact hd⟩, hb⟩
set_option maxRecDepth 100000 in
set_option maxHeartbeats 1000000 in
theorem drawSameBox_any (a : Option Addr) (n c : Nat) (w : World) (hc : Code w a n) (hnc : n ≤ c) (hm : c ≤ maxLen) :
    Calls Try.prog 11 #[.slice a n c] w (DrawnTwoA 41 w) := by
  have hbX : Below w.heap.size w (w.alloc (.cells #[.string ⟨#[]⟩, .string ⟨#[]⟩, .string ⟨#[]⟩] 24)) := (Below.refl _ _).alloc (Nat.le_refl _) _
  have hb0 : Below w.heap.size w ((w.alloc (.cells #[.string ⟨#[]⟩, .string ⟨#[]⟩, .string ⟨#[]⟩] 24)).alloc (.cells #[.string ⟨#[]⟩, .string ⟨#[]⟩, .string ⟨#[]⟩] 24)) := hbX.alloc (by simp) _
  go_enter Try.func11, Try.ntmps11
  go_wp2_with fail
  refine (open_any a n c _ (hc.below hb0) hnc hm).mono ?_
  rintro e w1 ⟨R, rfl, hR, hr1, hb1⟩
  have hRl := hr1.lt
  go_wp2_with fail
  refine (l2Draw_any R 0 w1 hr1 (by omega)).mono ?_
  rintro e w2 ⟨x, p2, rfl, g2, f2, k2, hr2, ht2⟩
  have hXV : adrV x = .agg #[.string (str x.name), .string (str x.loc), .string (str x.dom)] := rfl
  rw [hXV]
  clear hXV
  obtain ⟨y0, y1, y2⟩ := g2
  rw [← str_size] at y0 y1 y2
  have G2 : Hid (SmallA 41 x) := ⟨by rw [← str_size]; omega, by rw [← str_size]; omega, by rw [← str_size]; omega⟩
  have hb2A : Below w2.heap.size w2 (w2.alloc (.cells #[.string (str x.name), .string (str x.loc), .string (str x.dom)] 24)) := (Below.refl _ _).alloc (Nat.le_refl _) _
  have hR2 : R < w2.heap.size := Nat.lt_of_lt_of_le hRl ht2.size
  go_wp2_with fail
  refine (pick_any R p2 2 _ (hr2.below hb2A) (by omega) (by omega)).mono ?_
  rintro e w3 ⟨k, rfl, hk, hr3, ht3⟩
  have hs1 := hb1.size
  have hs2 := ht2.size
  have hs3 := ht3.size
  simp at hs1 hs3
  simp at hR
  have ht13 : Touch R w1 w3 := (ht2.ext (hb2A.mono ht2.size)).trans ht3
  have hb13 := after_open hb1 (by simpa using hR) ht13
  have cT : ∀ i, w3.cell? ⟨w2.heap.size, i, none⟩ = #[Value.string (str x.name), .string (str x.loc), .string (str x.dom)][i]? := fun i => by
    rw [ht3.cell (by simp) (by omega), World.cell?_alloc_at _ _ _ _ rfl]
  have hTN : w2.heap.size < w3.heap.size := by omega
  have cN : ∀ i, w3.cell? ⟨w.heap.size, i, none⟩ = #[Value.string ⟨#[]⟩, .string ⟨#[]⟩, .string ⟨#[]⟩][i]? := fun i => by
    rw [below_at hb13 (by simp; omega), World.cell?_alloc_lt _ _ _ (by simp), World.cell?_alloc_at _ _ _ _ rfl]
  have cM : ∀ i, w3.cell? ⟨w.heap.size + 1, i, none⟩ = #[Value.string ⟨#[]⟩, .string ⟨#[]⟩, .string ⟨#[]⟩][i]? := fun i => by
    rw [below_at hb13 (by simp), World.cell?_alloc_at _ _ _ _ (by simp)]
  have fN : ∀ i, w3.frozen? ⟨w.heap.size, i, none⟩ = false := fun i => by
    rw [below_fz hb13 (by simp; omega), below_fz ((Below.refl _ _).alloc (Nat.le_refl _) _) (by simp), World.frozen?_alloc_at _ _ _ _ rfl]
  have fM : ∀ i, w3.frozen? ⟨w.heap.size + 1, i, none⟩ = false := fun i => by
    rw [below_fz hb13 (by simp), World.frozen?_alloc_at _ _ _ _ (by simp)]
  have hRN : w.heap.size ≠ R := by omega
  have hRM : w.heap.size + 1 ≠ R := by omega
  have hRT : w2.heap.size ≠ R := by omega
  have hN3 : w.heap.size < w3.heap.size := by omega
  have hM3 : w.heap.size + 1 < w3.heap.size := by omega
  have hNM : w.heap.size ≠ w2.heap.size := by omega
  have hMM : w.heap.size + 1 ≠ w2.heap.size := by omega
  have hW3 : Below w.heap.size w w3 := nx hb0 hb13
  have HK : Hid (∀ w', Touch R w3 w' → (∀ i, w'.cell? ⟨w2.heap.size, i, none⟩ = #[Value.string (str x.name), .string (str x.loc), .string (str x.dom)][i]?) ∧ (∀ i, w'.cell? ⟨w.heap.size, i, none⟩ = #[Value.string ⟨#[]⟩, .string ⟨#[]⟩, .string ⟨#[]⟩][i]?) ∧ (∀ i, w'.cell? ⟨w.heap.size + 1, i, none⟩ = #[Value.string ⟨#[]⟩, .string ⟨#[]⟩, .string ⟨#[]⟩][i]?) ∧ (∀ i, w'.frozen? ⟨w.heap.size, i, none⟩ = false) ∧ (∀ i, w'.frozen? ⟨w.heap.size + 1, i, none⟩ = false)) := fun w' t =>
    ⟨fun i => (t.cell hTN hRT).trans (cT i), fun i => (t.cell hN3 hRN).trans (cN i), fun i => (t.cell hM3 hRM).trans (cM i), fun i => (t.fz hN3 hRN).trans (fN i), fun i => (t.fz hM3 hRM).trans (fM i)⟩
  have HR3 := Lib.hid hr3
  have HW3 := Lib.hid hW3
  have hRl3 : w.heap.size ≤ R := by omega
  clear ht13 hb13 ht3 ht2 hb2A hr2 hr1 hb1 hr3 hW3
  by_cases hk0 : k = 0
  · have e0 : ((k : Int) == 0) = true := by rw [hk0]; rfl
    clear hk0 hk
    go_wp2_with fail
    go_region_with (go_at_call 34; refine (l2Draw_any R (p2 + 1) _ (HR3.out.below (Below.refl _ _).drew) (by omega)).mono ?_; rintro e w4 ⟨y, p4, rfl, g4, f4, k4, hr4, ht4⟩; have hXY : adrV y = .agg #[.string (str y.name), .string (str y.loc), .string (str y.dom)] := rfl; rw [hXY]; clear hXY; have hT4 := (Touch.refl R w3).drew.trans ht4; obtain ⟨cT4, cN4, cM4, fN4, fM4⟩ := HK.out w4 hT4; have hs4 := hT4.size)
    all_goals
      obtain ⟨v0, v1, v2⟩ := g4
      rw [← str_size] at v0 v1 v2
      have hN4 : w.heap.size < w4.heap.size := by omega
      have hM4 : w.heap.size + 1 < w4.heap.size := by omega
      have HW4 : Hid (Below w.heap.size w w4) := HW3.out.trans (hT4.below hRl3 (by omega))
      go_wp2
      refine bodyPost_ret (v := .tuple #[.agg #[.string (str x.name), .string (str x.loc), .string (str x.dom)], .agg #[.string (str y.name), .string (str y.loc), .string (str y.dom)]]) (by simp [results, Try.results11, go_sem, cN4, cM4]) rfl (drawnTwoA_mk G2.out (by omega) (by omega) (by omega) ?_)
      exact ((((((HW4.out.setCell (by simp) _).setCell (by simp) _).setCell (by simp) _).setCell (by simp) _).setCell (by simp) _).setCell (by simp) _)
  · have e0 : ((k : Int) == 0) = false := by rw [beq_eq_false_iff_ne]; omega
    clear hk0 hk
    go_wp2
    go_region
    all_goals
      have hN4 : w.heap.size < w3.heap.size := by omega
      have z5 : (ByteArray.mk #[111, 116, 104, 101, 114]).size = 5 := rfl
      go_wp2
      refine bodyPost_ret (v := .tuple #[.agg #[.string (str x.name), .string (str x.loc), .string (str x.dom)], .agg #[.string ⟨#[111, 116, 104, 101, 114]⟩, .string (str x.loc), .string (str x.dom)]]) (by simp [results, Try.results11, go_sem, cN, cM]) rfl (drawnTwoA_mk G2.out (by omega) (by omega) (by omega) ?_)
      exact ((((((HW3.out.setCell (by simp) _).setCell (by simp) _).setCell (by simp) _).setCell (by simp) _).setCell (by simp) _).setCell (by simp) _).drew
set_option maxRecDepth 100000 in
set_option maxHeartbeats 1000000 in
theorem fnSameBox_walk (a : Option Addr) (n c : Nat) (w : World) (hc : Code w a n) (hnc : n ≤ c) (hm : c ≤ maxLen) :
    Calls Try.prog 3 #[.slice a n c] w fun e w' => e = .returned (.bool true) ∧ Below w.heap.size w w' := by
  have hm' := hm
  unfold maxLen at hm'
  by_cases hn : 1048576 < n
  · have hd : decide ((1048576 : Int) < n) = true := by simp; omega
    go_enter Try.func3, Try.ntmps3
    go_wp2
    go_ret
    exact ⟨rfl, Below.refl _ _⟩
  · have hd : decide ((1048576 : Int) < n) = false := by simp; omega
    go_enter Try.func3, Try.ntmps3
    go_wp2_with fail
    refine (drawSameBox_any a n c w hc hnc hm).mono ?_
    rintro e w1 ⟨x, y, rfl, ⟨_, _, z2⟩, ⟨_, _, z5⟩, hb1⟩
    rw [← str_size] at z2 z5
    have hXV : adrV x = .agg #[.string (str x.name), .string (str x.loc), .string (str x.dom)] := rfl
    have hYV : adrV y = .agg #[.string (str y.name), .string (str y.loc), .string (str y.dom)] := rfl
    rw [hXV, hYV]
    have HX : Hid (adr (str x.name) (str x.loc) (str x.dom) = x) := adr_str x
    have HY : Hid (adr (str y.name) (str y.loc) (str y.dom) = y) := adr_str y
    clear hXV hYV
    go_wp2_with fail
    have hbA := hb1.alloc hb1.size (.cells #[.string (str x.name), .string (str x.loc), .string (str x.dom)] 24)
    have hbB := hbA.alloc hbA.size (.cells #[.string (str y.name), .string (str y.loc), .string (str y.dom)] 24)
    refine (sameBox_any (str x.name) (str x.loc) (str x.dom) (str y.name) (str y.loc) (str y.dom) _ (by omega) (by omega)).mono ?_
    rintro e w2 ⟨rfl, hb2⟩
    rw [HX.out, HY.out]
    have HYX : Hid (sameB y x = sameB x y) := sameB_comm y x
    have HXY2 : Hid (sameB (adr ⟨#[115, 111, 109, 101, 111, 110, 101]⟩ (str x.loc) (str x.dom)) y = sameB x y) := by
      show _ = _; rw [show adr ⟨#[115, 111, 109, 101, 111, 110, 101]⟩ (str x.loc) (str x.dom) = ⟨[115, 111, 109, 101, 111, 110, 101], x.loc, x.dom⟩ from adr_str ⟨[115, 111, 109, 101, 111, 110, 101], x.loc, x.dom⟩]; rfl
    have HXX : Hid (sameB x (adr ⟨#[115, 111, 109, 101, 111, 110, 101]⟩ (str x.loc) (str x.dom)) = true) := by
      show _ = _; rw [show adr ⟨#[115, 111, 109, 101, 111, 110, 101]⟩ (str x.loc) (str x.dom) = ⟨[115, 111, 109, 101, 111, 110, 101], x.loc, x.dom⟩ from adr_str ⟨[115, 111, 109, 101, 111, 110, 101], x.loc, x.dom⟩]; unfold sameB; simp
    generalize hsb : sameB x y = sb at *
    have HSB := Lib.hid hsb
    clear hsb
    have cA2 : ∀ i, w2.cell? ⟨w1.heap.size, i, none⟩ = #[Value.string (str x.name), .string (str x.loc), .string (str x.dom)][i]? := fun i => by
      rw [below_at hb2 (by simp; omega), World.cell?_alloc_lt _ _ _ (by simp), World.cell?_alloc_at _ _ _ _ rfl]
    have cB2 : ∀ i, w2.cell? ⟨w1.heap.size + 1, i, none⟩ = #[Value.string (str y.name), .string (str y.loc), .string (str y.dom)][i]? := fun i => by
      rw [below_at hb2 (by simp), World.cell?_alloc_at _ _ _ _ (by simp)]
    have hz2 := hb2.size
    simp at hz2
    have hlA : w1.heap.size < w2.heap.size := by omega
    have hlB : w1.heap.size + 1 < w2.heap.size := by omega
    have hB2 := nx hbB hb2
    have hX2 : Below w2.heap.size w2 (w2.alloc (.cells #[.string ⟨#[115, 111, 109, 101, 111, 110, 101]⟩, .string (str x.loc), .string (str x.dom)] 24)) := (Below.refl _ _).alloc (Nat.le_refl _) _
    have HK : Hid (∀ w', Below (w2.alloc (.cells #[.string ⟨#[115, 111, 109, 101, 111, 110, 101]⟩, .string (str x.loc), .string (str x.dom)] 24)).heap.size (w2.alloc (.cells #[.string ⟨#[115, 111, 109, 101, 111, 110, 101]⟩, .string (str x.loc), .string (str x.dom)] 24)) w' →
        (∀ i, w'.cell? ⟨w1.heap.size, i, none⟩ = #[Value.string (str x.name), .string (str x.loc), .string (str x.dom)][i]?) ∧ (∀ i, w'.cell? ⟨w1.heap.size + 1, i, none⟩ = #[Value.string (str y.name), .string (str y.loc), .string (str y.dom)][i]?) ∧
        (∀ i, w'.cell? ⟨w2.heap.size, i, none⟩ = #[Value.string ⟨#[115, 111, 109, 101, 111, 110, 101]⟩, .string (str x.loc), .string (str x.dom)][i]?) ∧ Below w.heap.size w w') := fun w' h =>
      ⟨fun i => (below_at (nx hX2 h) hlA).trans (cA2 i), fun i => (below_at (nx hX2 h) hlB).trans (cB2 i), (fresh1 h).1, nx hB2 (nx hX2 h)⟩
    clear hbA hbB hb1 hb2 hB2
    go_wp2_with fail
    refine (sameBoxS_any (str x.name) (str x.loc) (str x.dom) (str y.name) (str y.loc) (str y.dom) _ (by omega) (by omega)).mono ?_
    rintro e w3 ⟨rfl, hb3⟩
    rw [HX.out, HY.out, HSB.out]
    obtain ⟨cA3, cB3, cX3, hB3⟩ := HK.out w3 hb3
    have HB3 := Lib.hid hb3
    clear cA2 cB2 hb3 hX2
    cases sb
    all_goals
      go_wp2_with fail
      refine (sameBox_any (str y.name) (str y.loc) (str y.dom) (str x.name) (str x.loc) (str x.dom) _ (by omega) (by omega)).mono ?_
      rintro e w4 ⟨rfl, hb4⟩
      rw [HX.out, HY.out, HYX.out]
      obtain ⟨cA4, cB4, cX4, hB4⟩ := HK.out w4 (nx HB3.out hb4)
      have HB4 := Lib.hid (nx HB3.out hb4)
      clear cA3 cB3 cX3 hB3 hb4
      go_wp2_with fail
      refine (sameBox_any ⟨#[115, 111, 109, 101, 111, 110, 101]⟩ (str x.loc) (str x.dom) (str y.name) (str y.loc) (str y.dom) _ (by omega) (by omega)).mono ?_
      rintro e w5 ⟨rfl, hb5⟩
      rw [HY.out, HXY2.out]
      obtain ⟨cA5, cB5, cX5, hB5⟩ := HK.out w5 (nx HB4.out hb5)
      have HB5 := Lib.hid (nx HB4.out hb5)
      clear cA4 cB4 cX4 hB4 hb5
      go_wp2_with fail
      refine (sameBox_any (str x.name) (str x.loc) (str x.dom) ⟨#[115, 111, 109, 101, 111, 110, 101]⟩ (str x.loc) (str x.dom) _ (by omega) (by omega)).mono ?_
      rintro e w6 ⟨rfl, hb6⟩
      rw [HX.out, HXX.out]
      go_wp2
      go_ret
      exact ⟨rfl, (HK.out w6 (nx HB5.out hb6)).2.2.2⟩
set_option maxRecDepth 100000 in
theorem fnSameBox_lifted (os : Os) (started : os.Started) (H : Type) (enc : TypeId × Value → H) :
    ReturnsInHanded {} Try.checked os 3 .any (Rows.fnSameBoxSpec.pre6 enc Try.prog Try.f3 Rows.fnSameBoxRow.domain false) (Rows.fnSameBoxSpec.post enc Try.prog Try.f3 false true false false) := by
  refine returnsInHanded_of_change (C := Try.checked) own started (by kernel_rfl) Try.func3
    (ChangeSpec.witness6 (enc := enc) (C := Try.checked) false ⟨#[], #[.slice none 0 0], []⟩ 8 (by kernel_rfl) (by kernel_rfl) (by kernel_rfl) (by kernel_rfl)) ?_
  intro W base args ds gs before hval0 hW hcnd _
  have hval : ∀ (j : Nat) t v, Try.f3.params[j]? = some t → args[j]? = some v → Value.okWide Try.prog W .any base t v := hval0
  have hW' := hW
  obtain ⟨p, q, hA0, hV, rfl, hfz, hnd⟩ := hW
  have hA : DataW.TrodAll enc Try.prog W 0 (fun _ => true) true Try.f3.params.toList args.toList ds p := hA0
  rw [Try.params3] at hA hval
  obtain ⟨v0, vs0, d0, ds0, p0, q0, hargs, rfl, rfl, h0, r0⟩ := trodAll_cons hA
  obtain ⟨rfl, rfl, rfl⟩ := trodAll_nil r0
  obtain rfl : args = #[v0] := by cases args; simp_all
  obtain ⟨rfl, rfl⟩ := trodVars_none hV
  obtain ⟨a0, n0, c0, rfl⟩ := okWide_slice Try.underlying22 (hval 0 22 v0 rfl rfl)
  have k0 := h0
  have lt0 : ∀ x ∈ p0, x.block < W.heap.size := by obtain ⟨m, hm⟩ := k0; exact DataW.trod_lt m _ _ _ hm
  obtain ⟨w0, x0, y0⟩ := code_of_trod Try.underlying22 Try.underlying5 (by kernel_rfl) h0
  clear hA0 hval0
  refine (fnSameBox_walk a0 n0 c0 W w0 x0 y0).mono fun e W' ⟨he, bel⟩ => ?_
  subst he
  exact ⟨_, rfl, _, _, _, [], _, [], hW', trodAll_mk1 (shut_bool Try.underlying4 _), (trodAll_cons_mk (Below.trod laidOut (by kernel_rfl) (of_decide_eq_true (by kernel_rfl)) k0 bel lt0) trodAll_mk0), rfl, bel.frame _, fun h => by cases h⟩
/-- FnSameBox: THE STATEMENT. -/
theorem fnSameBox_holds : Rows.FnSameBoxSaid :=
  OpenClaim.holds_of_wide 3 Try.f3 rfl rfl rfl rfl rfl rfl rfl ⟨rfl, rfl, rfl, rfl, rfl⟩ rfl rfl rfl rfl rfl (by kernel_rfl) Try.func3 (by kernel_rfl)
    (of_decide_eq_true (by kernel_rfl)) (by unfold Func.isWrapper; first | (rw [if_pos (by decide +kernel)]; kernel_rfl) | (rw [if_neg (by decide +kernel)]; exact ⟨rfl, rfl⟩))
    (fun os started H enc _ => fnSameBox_lifted os started H enc)
set_option maxRecDepth 100000 in
set_option maxHeartbeats 1000000 in
theorem fnExactSameBox_walk (n l d n2 l2 d2 : ByteArray) (w : World) (hn : n.size ≤ maxLen) (hl : l.size ≤ maxLen) (hd : d.size ≤ maxLen) (hn2 : n2.size ≤ maxLen) (hl2 : l2.size ≤ maxLen) (hd2 : d2.size ≤ maxLen) :
    Calls Try.prog 8 #[.agg #[.string n, .string l, .string d], .agg #[.string n2, .string l2, .string d2]] w fun e w' => e = .returned (.bool true) ∧ Below w.heap.size w w' := by
  have hbA : Below w.heap.size w (w.alloc (.cells #[.string n, .string l, .string d] 37)) := (Below.refl _ _).alloc (Nat.le_refl _) _
  have hbB := hbA.alloc hbA.size (.cells #[.string n2, .string l2, .string d2] 37)
  go_enter Try.func8, Try.ntmps8
  go_wp2_with fail
  refine (szAddress_any n l d 1048576 _ hn hl hd (by omega) (by omega)).mono ?_
  rintro e w1 ⟨r, rfl, hr1, hr2, hsz, hb1⟩
  have hB1 := nx hbB hb1
  have HK : Hid (∀ w', Below w1.heap.size w1 w' → (∀ i, w'.cell? ⟨w.heap.size, i, none⟩ = #[Value.string n, .string l, .string d][i]?) ∧ (∀ i, w'.cell? ⟨w.heap.size + 1, i, none⟩ = #[Value.string n2, .string l2, .string d2][i]?) ∧ Below w.heap.size w w') := by
    intro w' h
    have h2 := nx hb1 h
    refine ⟨fun i => ?_, fun i => ?_, nx hbB h2⟩
    · rw [below_at h2 (by simp; omega), World.cell?_alloc_lt _ _ _ (by simp), World.cell?_alloc_at _ _ _ _ rfl]
    · rw [below_at h2 (by simp), World.cell?_alloc_at _ _ _ _ (by simp)]
  obtain ⟨cA, cB, _⟩ := HK.out w1 (Below.refl _ _)
  clear hbA hbB hb1
  by_cases hneg : r < 0
  · go_wp2
    go_ret
    exact ⟨rfl, hB1⟩
  · obtain ⟨_, _, zd⟩ := hsz (by omega)
    clear hsz
    go_wp2_with fail
    refine (szAddress_any n2 l2 d2 r _ hn2 hl2 hd2 (by omega) (by omega)).mono ?_
    rintro e w2 ⟨r2, rfl, hr3, hr4, hsz, hb2⟩
    obtain ⟨cA2, cB2, hB2⟩ := HK.out w2 hb2
    have HB2 := Lib.hid hb2
    clear cA cB hB1
    by_cases hneg2 : r2 < 0
    · go_wp2
      go_ret
      exact ⟨rfl, hB2⟩
    · obtain ⟨_, _, zd2⟩ := hsz (by omega)
      clear hsz
      have hzd : d.size ≤ 1073741824 := by omega
      have hzd2 : d2.size ≤ 1073741824 := by omega
      generalize hsb : sameB (adr n l d) (adr n2 l2 d2) = sb
      have HSB := Lib.hid hsb
      clear hsb hb2 cA2 cB2 hB2
      have HKS : Hid (∀ w', Below w1.heap.size w1 w' → w'.cell? ⟨w.heap.size, 0, none⟩ = some (.string n) ∧ w'.cell? ⟨w.heap.size, 1, none⟩ = some (.string l) ∧ w'.cell? ⟨w.heap.size, 2, none⟩ = some (.string d) ∧ w'.cell? ⟨w.heap.size + 1, 0, none⟩ = some (.string n2) ∧ w'.cell? ⟨w.heap.size + 1, 1, none⟩ = some (.string l2) ∧ w'.cell? ⟨w.heap.size + 1, 2, none⟩ = some (.string d2) ∧ Below w1.heap.size w1 w') := fun w' h => by
        obtain ⟨h1, h2, _⟩ := HK.out w' h
        exact ⟨h1 0, h1 1, h1 2, h2 0, h2 1, h2 2, h⟩
      go_wp2
      go_region_held3 (fun w' => w'.cell? ⟨w.heap.size, 0, none⟩ = some (.string n) ∧ w'.cell? ⟨w.heap.size, 1, none⟩ = some (.string l) ∧ w'.cell? ⟨w.heap.size, 2, none⟩ = some (.string d) ∧ w'.cell? ⟨w.heap.size + 1, 0, none⟩ = some (.string n2) ∧ w'.cell? ⟨w.heap.size + 1, 1, none⟩ = some (.string l2) ∧ w'.cell? ⟨w.heap.size + 1, 2, none⟩ = some (.string d2) ∧ Below w1.heap.size w1 w')
        (first
          | exact HKS.out _ HB2.out.drew
          | exact HKS.out _ hb7)
        (first
          | (go_at_call 24
             refine (toAddress_any _ _ _ _).mono ?_
             rintro e w6 ⟨rfl, hb6⟩
             have hb7 : Below w1.heap.size w1 w6 := nx (by go_split_ands; assumption) hb6)
          | (go_at_call 13
             refine (sameBoxS_any n l d n2 l2 d2 _ hzd hzd2).mono ?_
             rintro e w6 ⟨rfl, hb6⟩
             rw [HSB.out]
             have hb7 : Below w1.heap.size w1 w6 := nx (by go_split_ands; assumption) hb6))
      all_goals
        go_split_ands
        have HB7 := Lib.hid hb7
        clear hb6 hb7
        go_wp2
        go_region_held3 (fun w' => w'.cell? ⟨w.heap.size, 0, none⟩ = some (.string n) ∧ w'.cell? ⟨w.heap.size, 1, none⟩ = some (.string l) ∧ w'.cell? ⟨w.heap.size, 2, none⟩ = some (.string d) ∧ w'.cell? ⟨w.heap.size + 1, 0, none⟩ = some (.string n2) ∧ w'.cell? ⟨w.heap.size + 1, 1, none⟩ = some (.string l2) ∧ w'.cell? ⟨w.heap.size + 1, 2, none⟩ = some (.string d2) ∧ Below w1.heap.size w1 w')
          (first
            | exact HKS.out _ HB7.out.drew
            | exact HKS.out _ hb7)
          (first
            | (go_at_call 24
               refine (toAddress_any _ _ _ _).mono ?_
               rintro e w6 ⟨rfl, hb6⟩
               have hb7 : Below w1.heap.size w1 w6 := nx (by go_split_ands; assumption) hb6)
            | (go_at_call 12
               refine (sameBox_any n l d n2 l2 d2 _ hzd hzd2).mono ?_
               rintro e w6 ⟨rfl, hb6⟩
               rw [HSB.out]
               have hb7 : Below w1.heap.size w1 w6 := nx (by go_split_ands; assumption) hb6))

        all_goals
          go_split_ands
          go_wp2
          cases sb
          all_goals
            go_wp2
            go_ret
            exact ⟨rfl, (HK.out _ hb7).2.2⟩
set_option maxRecDepth 100000 in
theorem fnExactSameBox_lifted (os : Os) (started : os.Started) (H : Type) (enc : TypeId × Value → H) :
    ReturnsInHanded {} Try.checked os 8 .any (Rows.fnExactSameBoxSpec.pre6 enc Try.prog Try.f8 Rows.fnExactSameBoxRow.domain false) (Rows.fnExactSameBoxSpec.post enc Try.prog Try.f8 false true false false) := by
  refine returnsInHanded_of_change (C := Try.checked) own started (by kernel_rfl) Try.func8
    (ChangeSpec.witness6 (enc := enc) (C := Try.checked) false ⟨#[], #[.agg #[.string ByteArray.empty, .string ByteArray.empty, .string ByteArray.empty], .agg #[.string ByteArray.empty, .string ByteArray.empty, .string ByteArray.empty]], []⟩ 8 (by kernel_rfl) (by kernel_rfl) (by kernel_rfl) (by kernel_rfl)) ?_
  intro W base args ds gs before hval0 hW hcnd _
  have hval : ∀ (j : Nat) t v, Try.f8.params[j]? = some t → args[j]? = some v → Value.okWide Try.prog W .any base t v := hval0
  have hW' := hW
  obtain ⟨p, q, hA0, hV, rfl, hfz, hnd⟩ := hW
  have hA : DataW.TrodAll enc Try.prog W 0 (fun _ => true) true Try.f8.params.toList args.toList ds p := hA0
  rw [Try.params8] at hA hval
  obtain ⟨v0, vs0, d0, ds0, p0, q0, hargs, rfl, rfl, h0, r0⟩ := trodAll_cons hA
  obtain ⟨v1, vs1, d1, ds1, p1, q1, rfl, rfl, rfl, h1, r1⟩ := trodAll_cons r0
  obtain ⟨rfl, rfl, rfl⟩ := trodAll_nil r1
  obtain rfl : args = #[v0, v1] := by cases args; simp_all
  obtain ⟨rfl, rfl⟩ := trodVars_none hV
  have k0 := h0
  have lt0 : ∀ x ∈ p0, x.block < W.heap.size := by obtain ⟨m, hm⟩ := k0; exact DataW.trod_lt m _ _ _ hm
  obtain ⟨s0a, s0b, s0c, rfl, w0, x0, y0⟩ := open_adr (hval 0 37 v0 rfl rfl) h0
  have k1 := h1
  have lt1 : ∀ x ∈ p1, x.block < W.heap.size := by obtain ⟨m, hm⟩ := k1; exact DataW.trod_lt m _ _ _ hm
  obtain ⟨s1a, s1b, s1c, rfl, w1, x1, y1⟩ := open_adr (hval 1 37 v1 rfl rfl) h1
  clear hA0 hval0
  refine (fnExactSameBox_walk s0a s0b s0c s1a s1b s1c W w0 x0 y0 w1 x1 y1).mono fun e W' ⟨he, bel⟩ => ?_
  subst he
  exact ⟨_, rfl, _, _, _, [], _, [], hW', trodAll_mk1 (shut_bool Try.underlying4 _), (trodAll_cons_mk (Below.trod laidOut (by kernel_rfl) (of_decide_eq_true (by kernel_rfl)) k0 bel lt0) (trodAll_cons_mk (Below.trod laidOut (by kernel_rfl) (of_decide_eq_true (by kernel_rfl)) k1 bel lt1) trodAll_mk0)), rfl, bel.frame _, fun h => by cases h⟩
/-- FnExactSameBox: THE STATEMENT. -/
theorem fnExactSameBox_holds : Rows.FnExactSameBoxSaid :=
  OpenClaim.holds_of_wide 8 Try.f8 rfl rfl rfl rfl rfl rfl rfl ⟨rfl, rfl, rfl, rfl, rfl⟩ rfl rfl rfl rfl rfl (by kernel_rfl) Try.func8 (by kernel_rfl)
    (of_decide_eq_true (by kernel_rfl)) (by unfold Func.isWrapper; first | (rw [if_pos (by decide +kernel)]; kernel_rfl) | (rw [if_neg (by decide +kernel)]; exact ⟨rfl, rfl⟩))
    (fun os started H enc _ => fnExactSameBox_lifted os started H enc)
end Go.Proofs.Ytepjnahliojnjab
