/-
  The exact laws of chapter 7 on kinds, plain: each law's walk. For every input of the law: it returns true, and the input reads as it did. Conditions: none but the statement's own.
-/
import Derived.Test.YtdoclfbfhlgejacKind
import Derived.Test.YtdoclfbfhlgejacGrow
namespace Go.Proofs.Ytdoclfbfhlgejac
open Go.ChangeShapes Go.WideShapes Go.ChangeAt Go.RowKit
open Go.ChangeMaps (open_string shut_string)

/-- Three cells of a block. -/
def K3 (w : World) (g : Nat) (v0 v1 v2 : Value) : Prop := w.cell? ⟨g, 0, none⟩ = some v0 ∧ w.cell? ⟨g, 1, none⟩ = some v1 ∧ w.cell? ⟨g, 2, none⟩ = some v2
theorem K3.below {w w' : World} {g : Nat} {v0 v1 v2 : Value} (h : K3 w g v0 v1 v2) (hb : Below w.heap.size w w') : K3 w' g v0 v1 v2 := by
  have hl := lt_of_cell h.1
  exact ⟨by rw [below_at hb hl, h.1], by rw [below_at hb hl, h.2.1], by rw [below_at hb hl, h.2.2]⟩
theorem K3.new (w : World) (v0 v1 v2 : Value) (t : TypeId) : K3 (w.alloc (.cells #[v0, v1, v2] t)) w.heap.size v0 v1 v2 :=
  ⟨by rw [World.cell?_alloc_at _ _ _ _ rfl]; rfl, by rw [World.cell?_alloc_at _ _ _ _ rfl]; rfl, by rw [World.cell?_alloc_at _ _ _ _ rfl]; rfl⟩
set_option maxRecDepth 100000 in
set_option maxHeartbeats 2000000 in
theorem fnExactKindSame_walk (m1 s1 : ByteArray) (a1 : Option Addr) (n1 c1 : Nat) (xs : List Fld) (m2 s2 : ByteArray) (a2 : Option Addr) (n2 c2 : Nat) (ys : List Fld) (w : World)
    (hm1 : m1.size ≤ maxLen) (hs1 : s1.size ≤ maxLen) (hr1 : RdF w a1 n1 xs) (hn1 : n1 ≤ maxLen) (hx1 : ∀ x ∈ xs, SmallF maxLen x)
    (hm2 : m2.size ≤ maxLen) (hs2 : s2.size ≤ maxLen) (hr2 : RdF w a2 n2 ys) (hn2 : n2 ≤ maxLen) (hx2 : ∀ x ∈ ys, SmallF maxLen x) :
    Calls Try.prog 3 #[.agg #[.string m1, .string s1, .slice a1 n1 c1], .agg #[.string m2, .string s2, .slice a2 n2 c2]] w fun e w' => e = .returned (.bool true) ∧ Below w.heap.size w w' := by
  have hbA : Below w.heap.size w (w.alloc (.cells #[.string m1, .string s1, .slice a1 n1 c1] 24)) := (Below.refl _ _).alloc (Nat.le_refl _) _
  have hb0 : Below w.heap.size w ((w.alloc (.cells #[.string m1, .string s1, .slice a1 n1 c1] 24)).alloc (.cells #[.string m2, .string s2, .slice a2 n2 c2] 24)) := hbA.alloc (by simp) _
  have HP1 : Hid (K3 ((w.alloc (.cells #[.string m1, .string s1, .slice a1 n1 c1] 24)).alloc (.cells #[.string m2, .string s2, .slice a2 n2 c2] 24)) w.heap.size (.string m1) (.string s1) (.slice a1 n1 c1)) := (K3.new w _ _ _ _).below ((Below.refl _ _).alloc (Nat.le_refl _) _)
  have HP2 : Hid (K3 ((w.alloc (.cells #[.string m1, .string s1, .slice a1 n1 c1] 24)).alloc (.cells #[.string m2, .string s2, .slice a2 n2 c2] 24)) (w.heap.size + 1) (.string m2) (.string s2) (.slice a2 n2 c2)) := by
    show K3 _ _ _ _ _
    have := K3.new (w.alloc (.cells #[.string m1, .string s1, .slice a1 n1 c1] 24)) (.string m2) (.string s2) (.slice a2 n2 c2) 24
    simpa using this
  have HR1 := Lib.hid (hr1.below hb0)
  have HR2 := Lib.hid (hr2.below hb0)
  have hl1 := hr1.1
  have hl2 := hr2.1
  have HX1 := Lib.hid hx1
  have HX2 := Lib.hid hx2
  have HL1 := Lib.hid hl1
  have HL2 := Lib.hid hl2
  clear hr1 hr2 hx1 hx2 hl1 hl2 hbA
  go_enter Try.func3, Try.ntmps3
  go_wp2_with fail
  generalize hW : ((w.alloc (.cells #[.string m1, .string s1, .slice a1 n1 c1] 24)).alloc (.cells #[.string m2, .string s2, .slice a2 n2 c2] 24)) = W0 at *
  refine (szKind_any m1 s1 a1 n1 c1 xs 1048576 _ hm1 hs1 HR1.out hn1 HX1.out (by omega) (by omega)).mono ?_
  rintro e w1 ⟨r, rfl, hr1, hr2, hsz, hb1⟩
  have HB1 := Lib.hid (nx hb0 hb1)
  have HP11 := Lib.hid (HP1.out.below hb1)
  have HP21 := Lib.hid (HP2.out.below hb1)
  have HSZ := Lib.hid hsz
  clear hsz
  by_cases hneg : r < 0
  · go_wp2
    go_ret
    exact ⟨rfl, HB1.out⟩
  obtain ⟨g0, g1, g2⟩ := HP21.out
  go_wp2_with fail
  refine (szKind_any m2 s2 a2 n2 c2 ys r _ hm2 hs2 (HR2.out.below hb1) hn2 HX2.out (by omega) (by omega)).mono ?_
  rintro e w2 ⟨r2, rfl, hr3, hr4, hsz2, hb2⟩
  have HB2 := Lib.hid (nx HB1.out hb2)
  have HP12 := Lib.hid (HP11.out.below hb2)
  have HP22 := Lib.hid (HP21.out.below hb2)
  have HSZ2 := Lib.hid hsz2
  have HR12 := Lib.hid ((HR1.out.below hb1).below hb2)
  have HR22 := Lib.hid ((HR2.out.below hb1).below hb2)
  clear hsz2 g0 g1 g2 hb1 hb2
  by_cases hneg2 : r2 < 0
  · go_wp2
    go_ret
    exact ⟨rfl, HB2.out⟩
  have hnx : xs.length ≤ 1048576 := by have := (HSZ.out (by omega)).2.2.1; omega
  have hny : ys.length ≤ 1048576 := by have := (HSZ2.out (by omega)).2.2.1; omega
  have hn1' : n1 ≤ 1073741824 := by have := HL1.out; omega
  have hn2' : n2 ≤ 1073741824 := by have := HL2.out; omega
  have HMX : Hid (xs.length ≤ maxLen) := by show _ ≤ _; unfold maxLen; omega
  have HMY : Hid (ys.length ≤ maxLen) := by show _ ≤ _; unfold maxLen; omega
  have HT1 : Hid (∀ u, Below w2.heap.size w2 u → Calls Try.prog 6 #[.agg #[.string m1, .string s1, .slice a1 n1 c1]] u (KindRet m1 s1 xs u)) := fun u h => toKind_any m1 s1 a1 n1 c1 xs u (HR12.out.below h) hn1'
  have HT2 : Hid (∀ u, Below w2.heap.size w2 u → Calls Try.prog 6 #[.agg #[.string m2, .string s2, .slice a2 n2 c2]] u (KindRet m2 s2 ys u)) := fun u h => toKind_any m2 s2 a2 n2 c2 ys u (HR22.out.below h) hn2'
  have HKS : Hid (∀ u b1 d1 b2 d2, RdF u b1 xs.length xs → RdF u b2 ys.length ys → Calls Try.prog 5 #[.agg #[.string m1, .string s1, .slice b1 xs.length d1], .agg #[.string m2, .string s2, .slice b2 ys.length d2]] u fun e w' => e = .returned (.bool (decide (m1 = m2) && (decide (s1 = s2) && decide (xs = ys)))) ∧ Below u.heap.size u w') := fun u b1 d1 b2 d2 h1 h2 => kindSameS_any m1 s1 m2 s2 b1 b2 _ d1 _ d2 xs ys u h1 h2 HMX.out HMY.out
  have HKI : Hid (∀ u b1 d1 b2 d2, RdF u b1 xs.length xs → RdF u b2 ys.length ys → Calls Try.prog 7 #[.agg #[.string m1, .string s1, .slice b1 xs.length d1], .agg #[.string m2, .string s2, .slice b2 ys.length d2]] u fun e w' => e = .returned (.bool (decide (m1 = m2) && (decide (s1 = s2) && decide (xs = ys)))) ∧ Below u.heap.size u w') := fun u b1 d1 b2 d2 h1 h2 => kindSame_any m1 s1 m2 s2 b1 b2 _ d1 _ d2 xs ys u h1 h2 HMX.out HMY.out
  generalize (decide (m1 = m2) && (decide (s1 = s2) && decide (xs = ys))) = Q at *
  clear hnx hny hn1 hn2 hn1' hn2' hm1 hs1 hm2 hs2
  generalize hg1 : w.heap.size = G1 at HP12 HP22 ⊢
  have HPA : Hid (∀ u, Below w2.heap.size w2 u → K3 u G1 (.string m1) (.string s1) (.slice a1 n1 c1) ∧ K3 u (G1 + 1) (.string m2) (.string s2) (.slice a2 n2 c2)) := fun u h => ⟨HP12.out.below h, HP22.out.below h⟩
  have hlt2 : G1 + 1 < w2.heap.size := lt_of_cell HP22.out.1
  go_wp2_with fail
  refine wp_region_grow (by kernel_rfl) ?_
  refine wpAnyG_take (fuel := 4) [true, false, true] (by kernel_rfl) (by kernel_rfl) (by rfl) (by kernel_rfl) ?_
  apply Exists.intro
  refine ⟨fun x => ?_, ?_⟩
  · have y0 := fun (y : BelowT x.val) => (HPA.out y.val (nx x.below y.below)).1.1
    have y1 := fun (y : BelowT x.val) => (HPA.out y.val (nx x.below y.below)).1.2.1
    have y2 := fun (y : BelowT x.val) => (HPA.out y.val (nx x.below y.below)).1.2.2
    have z0 := fun (y : BelowT x.val) => (HPA.out y.val (nx x.below y.below)).2.1
    have z1 := fun (y : BelowT x.val) => (HPA.out y.val (nx x.below y.below)).2.2.1
    have z2 := fun (y : BelowT x.val) => (HPA.out y.val (nx x.below y.below)).2.2.2
    simp only [pickL]
    repeat (go_big_quiet_step (fail))
    exact wpQuiet_nil rfl
  refine wpAnyG_one (m := 1) (by kernel_rfl) (fun u1 g1 => ?_)
  refine wpOp_at (o := _) (by rfl) (by rfl) ?_
  go_simp
  refine (HT1.out _ g1).mono ?_
  rintro e w3 ⟨b1, d1, rfl, _, hd3, hb3⟩
  refine ⟨hb3, ?_⟩
  try simp only [Act.put, List.setIfInBounds_toArray, List.set_cons_zero, List.set_cons_succ]
  refine wpAnyG_one (m := 3) (by kernel_rfl) (fun u2 g2 => ?_)
  refine wpOp_at (o := _) (by rfl) (by rfl) ?_
  go_simp
  refine (HT2.out _ (nx (nx g1 hb3) g2)).mono ?_
  rintro e w4 ⟨b2, d2, rfl, _, hd4, hb4⟩
  refine ⟨hb4, ?_⟩
  try simp only [Act.put, List.setIfInBounds_toArray, List.set_cons_zero, List.set_cons_succ]
  refine wpAnyG_one (m := 4) (by kernel_rfl) (fun u3 g3 => ?_)
  refine wpOp_at (o := _) (by rfl) (by rfl) ?_
  go_simp
  refine (HKS.out _ _ _ _ _ ((hd3.below (nx g2 hb4)).below g3) (hd4.below g3)).mono ?_
  rintro e w5 ⟨rfl, hb5⟩
  refine ⟨hb5, ?_⟩
  try simp only [Act.put, List.setIfInBounds_toArray, List.set_cons_zero, List.set_cons_succ]
  refine wpAnyG_take (fuel := 0) [false, false, false, false, false, true] (by kernel_rfl) (by kernel_rfl) (by rfl) (by kernel_rfl) ?_
  apply Exists.intro
  refine ⟨fun x => ?_, ?_⟩
  · skip
    simp only [pickL]
    repeat (go_big_quiet_step (fail))
    exact wpQuiet_nil rfl
  refine wpAnyG_done (by kernel_rfl) (fun x => ?_) _
  have hbx := x.below
  generalize x.val = w6 at *
  have HB6 : Hid (Below w2.heap.size w2 w6) := nx (nx (nx g1 hb3) (nx g2 hb4)) (nx (nx g3 hb5) hbx)
  clear g1 hb3 g2 hb4 g3 hb5 hbx hd3 hd4
  obtain ⟨⟨y0, y1, y2⟩, ⟨z0, z1, z2⟩⟩ := HPA.out _ HB6.out
  go_wp2_with fail
  refine (HT1.out _ HB6.out).mono ?_
  rintro e w7 ⟨b7, d7, rfl, _, hd7, hb7⟩
  clear y0 y1 y2 z0 z1 z2
  have HB7 := Lib.hid (nx HB6.out hb7)
  have HD7 := Lib.hid hd7
  obtain ⟨⟨y0, y1, y2⟩, ⟨z0, z1, z2⟩⟩ := HPA.out _ HB7.out
  have hs7 : G1 + 1 < w7.heap.size := Nat.lt_of_lt_of_le hlt2 HB7.out.size
  have hA7 : Below w7.heap.size w7 (w7.alloc (.cells #[.string m1, .string s1, .slice b7 xs.length d7] 29)) := (Below.refl _ _).alloc (Nat.le_refl _) _
  have HA7 := Lib.hid (nx HB7.out hA7)
  have HK7 := Lib.hid (K3.new w7 (.string m1) (.string s1) (.slice b7 xs.length d7) 29)
  have HD7' := Lib.hid (hd7.below hA7)
  clear hd7 hb7
  go_wp2_with fail
  refine (HT2.out _ HA7.out).mono ?_
  rintro e w8 ⟨b8, d8, rfl, _, hd8, hb8⟩
  clear y0 y1 y2 z0 z1 z2
  have HB8 := Lib.hid (nx HA7.out hb8)
  have HK8 := Lib.hid (HK7.out.below hb8)
  have HD8 := Lib.hid (HD7'.out.below hb8)
  have hX0 := lt_of_cell HK8.out.1
  obtain ⟨k0, k1, k2⟩ := HK8.out
  have hA8 : Below w8.heap.size w8 (w8.alloc (.cells #[.string m2, .string s2, .slice b8 ys.length d8] 29)) := (Below.refl _ _).alloc (Nat.le_refl _) _
  have HA8 := Lib.hid (nx HB8.out hA8)
  have HKN := Lib.hid (K3.new w8 (.string m2) (.string s2) (.slice b8 ys.length d8) 29)
  have HD88 := Lib.hid (hd8.below hA8)
  have HD78 := Lib.hid (HD8.out.below hA8)
  have HK88 := Lib.hid (HK8.out.below hA8)
  clear hd8 hb8 hA7 hA8
  go_wp2_with fail
  refine (HKI.out _ _ _ _ _ HD78.out HD88.out).mono ?_
  rintro e w9 ⟨rfl, hb9⟩
  clear k0 k1 k2
  have HB9 := Lib.hid (nx HA8.out hb9)
  have HX0 := Lib.hid (HK88.out.below hb9)
  have HX1' := Lib.hid (HKN.out.below hb9)
  have HD79 := Lib.hid (HD78.out.below hb9)
  have HD89 := Lib.hid (HD88.out.below hb9)
  have HEQ1 : Hid (∀ u b, Below w9.heap.size w9 u → ∀ d, RdF u b xs.length xs → Calls Try.prog 8 #[.agg #[.string m1, .string s1, .slice b7 xs.length d7], .agg #[.string m1, .string s1, .slice b xs.length d]] u fun e w' => e = .returned (.bool true) ∧ Below u.heap.size u w') := fun u b h d k => eqKind_any m1 s1 b7 b _ d7 _ d xs u (HD79.out.below h) k HMX.out HMX.out
  have HEQ2 : Hid (∀ u b, Below w9.heap.size w9 u → ∀ d, RdF u b ys.length ys → Calls Try.prog 8 #[.agg #[.string m2, .string s2, .slice b8 ys.length d8], .agg #[.string m2, .string s2, .slice b ys.length d]] u fun e w' => e = .returned (.bool true) ∧ Below u.heap.size u w') := fun u b h d k => eqKind_any m2 s2 b8 b _ d8 _ d ys u (HD89.out.below h) k HMY.out HMY.out
  have HPB : Hid (∀ u, Below w9.heap.size w9 u → (K3 u G1 (.string m1) (.string s1) (.slice a1 n1 c1) ∧ K3 u (G1 + 1) (.string m2) (.string s2) (.slice a2 n2 c2)) ∧ (K3 u w7.heap.size (.string m1) (.string s1) (.slice b7 xs.length d7) ∧ K3 u w8.heap.size (.string m2) (.string s2) (.slice b8 ys.length d8))) := fun u h => ⟨HPA.out _ (nx HB9.out h), HX0.out.below h, HX1'.out.below h⟩
  cases Q
  all_goals
    go_wp2_with fail
    refine wp_region_grow (by kernel_rfl) ?_
    refine wpAnyG_take (fuel := 3) [true, true] (by kernel_rfl) (by kernel_rfl) (by rfl) (by kernel_rfl) ?_
    apply Exists.intro
    refine ⟨fun x => ?_, ?_⟩
    · have y0 := fun (y : BelowT x.val) => (HPB.out y.val (nx x.below y.below)).1.1.1
      have y1 := fun (y : BelowT x.val) => (HPB.out y.val (nx x.below y.below)).1.1.2.1
      have y2 := fun (y : BelowT x.val) => (HPB.out y.val (nx x.below y.below)).1.1.2.2
      have z0 := fun (y : BelowT x.val) => (HPB.out y.val (nx x.below y.below)).2.1.1
      have z1 := fun (y : BelowT x.val) => (HPB.out y.val (nx x.below y.below)).2.1.2.1
      have z2 := fun (y : BelowT x.val) => (HPB.out y.val (nx x.below y.below)).2.1.2.2
      simp only [pickL]
      repeat (go_big_quiet_step (fail))
      exact wpQuiet_nil rfl
    refine wpAnyG_one (m := 2) (by kernel_rfl) (fun u1 g1 => ?_)
    refine wpOp_at (o := _) (by rfl) (by rfl) ?_
    go_simp
    refine (HT1.out _ (nx HB9.out g1)).mono ?_
    rintro e w10 ⟨b10, d10, rfl, _, hd10, hb10⟩
    refine ⟨hb10, ?_⟩
    try simp only [Act.put, List.setIfInBounds_toArray, List.set_cons_zero, List.set_cons_succ]
    refine wpAnyG_one (m := 3) (by kernel_rfl) (fun u2 g2 => ?_)
    refine wpOp_at (o := _) (by rfl) (by rfl) ?_
    go_simp
    refine (HEQ1.out _ _ (nx (nx g1 hb10) g2) _ (hd10.below g2)).mono ?_
    rintro e w11 ⟨rfl, hb11⟩
    refine ⟨hb11, ?_⟩
    try simp only [Act.put, List.setIfInBounds_toArray, List.set_cons_zero, List.set_cons_succ]
    refine wpAnyG_take (fuel := 0) [false, false, false, false, true] (by kernel_rfl) (by kernel_rfl) (by rfl) (by kernel_rfl) ?_
    apply Exists.intro
    refine ⟨fun x => ?_, ?_⟩
    · skip
      simp only [pickL]
      repeat (go_big_quiet_step (fail))
      exact wpQuiet_nil rfl
    refine wpAnyG_done (by kernel_rfl) (fun x => ?_) _
    have hbx := x.below
    generalize x.val = w12 at *
    have HB12 : Hid (Below w9.heap.size w9 w12) := nx (nx g1 hb10) (nx (nx g2 hb11) hbx)
    clear g1 hb10 g2 hb11 hbx hd10
    go_wp2_with fail
    refine wp_region_grow (by kernel_rfl) ?_
    refine wpAnyG_take (fuel := 3) [true, true] (by kernel_rfl) (by kernel_rfl) (by rfl) (by kernel_rfl) ?_
    apply Exists.intro
    refine ⟨fun x => ?_, ?_⟩
    · have y0 := fun (y : BelowT x.val) => (HPB.out y.val (nx HB12.out (nx x.below y.below))).1.2.1
      have y1 := fun (y : BelowT x.val) => (HPB.out y.val (nx HB12.out (nx x.below y.below))).1.2.2.1
      have y2 := fun (y : BelowT x.val) => (HPB.out y.val (nx HB12.out (nx x.below y.below))).1.2.2.2
      have z0 := fun (y : BelowT x.val) => (HPB.out y.val (nx HB12.out (nx x.below y.below))).2.2.1
      have z1 := fun (y : BelowT x.val) => (HPB.out y.val (nx HB12.out (nx x.below y.below))).2.2.2.1
      have z2 := fun (y : BelowT x.val) => (HPB.out y.val (nx HB12.out (nx x.below y.below))).2.2.2.2
      simp only [pickL]
      repeat (go_big_quiet_step (fail))
      exact wpQuiet_nil rfl
    refine wpAnyG_one (m := 2) (by kernel_rfl) (fun u1 g1 => ?_)
    refine wpOp_at (o := _) (by rfl) (by rfl) ?_
    go_simp
    refine (HT2.out _ (nx HB9.out (nx HB12.out g1))).mono ?_
    rintro e w13 ⟨b13, d13, rfl, _, hd13, hb13⟩
    refine ⟨hb13, ?_⟩
    try simp only [Act.put, List.setIfInBounds_toArray, List.set_cons_zero, List.set_cons_succ]
    refine wpAnyG_one (m := 3) (by kernel_rfl) (fun u2 g2 => ?_)
    refine wpOp_at (o := _) (by rfl) (by rfl) ?_
    go_simp
    refine (HEQ2.out _ _ (nx HB12.out (nx (nx g1 hb13) g2)) _ (hd13.below g2)).mono ?_
    rintro e w14 ⟨rfl, hb14⟩
    refine ⟨hb14, ?_⟩
    try simp only [Act.put, List.setIfInBounds_toArray, List.set_cons_zero, List.set_cons_succ]
    refine wpAnyG_take (fuel := 0) [false, false, false, false, true] (by kernel_rfl) (by kernel_rfl) (by rfl) (by kernel_rfl) ?_
    apply Exists.intro
    refine ⟨fun x => ?_, ?_⟩
    · skip
      simp only [pickL]
      repeat (go_big_quiet_step (fail))
      exact wpQuiet_nil rfl
    refine wpAnyG_done (by kernel_rfl) (fun x => ?_) _
    have hbx := x.below
    generalize x.val = w15 at *
    have HB15 : Hid (Below w9.heap.size w9 w15) := nx HB12.out (nx (nx g1 hb13) (nx (nx g2 hb14) hbx))
    clear g1 hb13 g2 hb14 hbx hd13
    go_wp2
    go_ret
    exact ⟨rfl, hg1 ▸ nx HB2.out (nx HB9.out HB15.out)⟩
set_option maxRecDepth 100000 in
theorem fnExactKindSame_lifted (os : Os) (started : os.Started) (H : Type) (enc : TypeId × Value → H) :
    ReturnsInHanded {} Try.checked os 3 .any (Rows.fnExactKindSameSpec.pre6 enc Try.prog Try.f3 Rows.fnExactKindSameRow.domain false) (Rows.fnExactKindSameSpec.post enc Try.prog Try.f3 false true false false) := by
  refine returnsInHanded_of_change (C := Try.checked) own started (by kernel_rfl) Try.func3
    (ChangeSpec.witness6 (enc := enc) (C := Try.checked) false ⟨#[], #[.agg #[.string ByteArray.empty, .string ByteArray.empty, .slice none 0 0], .agg #[.string ByteArray.empty, .string ByteArray.empty, .slice none 0 0]], []⟩ 8 (by kernel_rfl) (by kernel_rfl) (by kernel_rfl) (by kernel_rfl)) ?_
  intro W base args ds gs before hval0 hW hcnd _
  have hval : ∀ (j : Nat) t v, Try.f3.params[j]? = some t → args[j]? = some v → Value.okWide Try.prog W .any base t v := hval0
  have hW' := hW
  obtain ⟨p, q, hA0, hV, rfl, hfz, hnd⟩ := hW
  have hA : DataW.TrodAll enc Try.prog W 0 (fun _ => true) true Try.f3.params.toList args.toList ds p := hA0
  rw [Try.params3] at hA hval
  obtain ⟨v0, vs0, d0, ds0, p0, q0, hargs, rfl, rfl, h0, r0⟩ := trodAll_cons hA
  obtain ⟨v1, vs1, d1, ds1, p1, q1, rfl, rfl, rfl, h1, r1⟩ := trodAll_cons r0
  obtain ⟨rfl, rfl, rfl⟩ := trodAll_nil r1
  obtain rfl : args = #[v0, v1] := by cases args; simp_all
  obtain ⟨rfl, rfl⟩ := trodVars_none hV
  have k0 := h0
  have lt0 : ∀ x ∈ p0, x.block < W.heap.size := by obtain ⟨m, hm⟩ := k0; exact DataW.trod_lt m _ _ _ hm
  obtain ⟨m0, s0, a0, n0, c0, l0, rfl, w0, x0, y0, z0, u0⟩ := open_knd (hval 0 24 v0 rfl rfl) h0
  have k1 := h1
  have lt1 : ∀ x ∈ p1, x.block < W.heap.size := by obtain ⟨m, hm⟩ := k1; exact DataW.trod_lt m _ _ _ hm
  obtain ⟨m1, s1, a1, n1, c1, l1, rfl, w1, x1, y1, z1, u1⟩ := open_knd (hval 1 24 v1 rfl rfl) h1
  clear hA0 hval0
  refine (fnExactKindSame_walk m0 s0 a0 n0 c0 l0 m1 s1 a1 n1 c1 l1 W w0 x0 y0 z0 u0 w1 x1 y1 z1 u1).mono fun e W' ⟨he, bel⟩ => ?_
  subst he
  exact ⟨_, rfl, _, _, _, [], _, [], hW', trodAll_mk1 (shut_bool Try.underlying4 _), (trodAll_cons_mk (Below.trod laidOut (by kernel_rfl) (of_decide_eq_true (by kernel_rfl)) k0 bel lt0) (trodAll_cons_mk (Below.trod laidOut (by kernel_rfl) (of_decide_eq_true (by kernel_rfl)) k1 bel lt1) trodAll_mk0)), rfl, bel.frame _, fun h => by cases h⟩
/-- FnExactKindSame: THE STATEMENT. -/
theorem fnExactKindSame_holds : Rows.FnExactKindSameSaid :=
  OpenClaim.holds_of_wide 3 Try.f3 rfl rfl rfl rfl rfl rfl rfl ⟨rfl, rfl, rfl, rfl, rfl⟩ rfl rfl rfl rfl rfl (by kernel_rfl) Try.func3 (by kernel_rfl)
    (of_decide_eq_true (by kernel_rfl)) (by unfold Func.isWrapper; first | (rw [if_pos (by decide +kernel)]; kernel_rfl) | (rw [if_neg (by decide +kernel)]; exact ⟨rfl, rfl⟩))
    (fun os started H enc _ => fnExactKindSame_lifted os started H enc)
end Go.Proofs.Ytdoclfbfhlgejac
