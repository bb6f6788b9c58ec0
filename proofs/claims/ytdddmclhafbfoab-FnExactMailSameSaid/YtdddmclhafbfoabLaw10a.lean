/-
  The exact law of equal mails, plain: its walk. For every input of the law: it returns true, and the input reads as it did. Conditions: none but the statement's own.
-/
import Derived.Test.YtdddmclhafbfoabMalU
import Derived.Test.YtdddmclhafbfoabGrow
namespace Go.Proofs.Ytdddmclhafbfoab
open Go.ChangeShapes Go.WideShapes Go.ChangeAt Go.RowKit
open Go.ChangeMaps (open_string shut_string)

set_option maxRecDepth 100000 in
set_option maxHeartbeats 4000000 in
theorem fnExactMailSame_walk (x y : MlA) (w : World) (hx : RdM maxLen w x) (hy : RdM maxLen w y) :
    Calls Try.prog 3 #[mlV x, mlV y] w fun e w' => e = .returned (.bool true) ∧ Below w.heap.size w w' := by
  obtain ⟨s1, a1, n1, c1, b1, k1, d1, m1, hv1, hr1⟩ : ∃ s a n c b k d m, mlV x = .agg #[.string s, .slice a n c, .slice b k d] ∧ RdV maxLen w s a n c b k d m := ⟨_, _, _, _, _, _, _, x.m, rfl, RdV.of hx⟩
  obtain ⟨s2, a2, n2, c2, b2, k2, d2, m2, hv2, hr2⟩ : ∃ s a n c b k d m, mlV y = .agg #[.string s, .slice a n c, .slice b k d] ∧ RdV maxLen w s a n c b k d m := ⟨_, _, _, _, _, _, _, y.m, rfl, RdV.of hy⟩
  rw [hv1, hv2]
  have hbA : Below w.heap.size w (w.alloc (.cells #[.string s1, .slice a1 n1 c1, .slice b1 k1 d1] 24)) := (Below.refl _ _).alloc (Nat.le_refl _) _
  have hb0 : Below w.heap.size w ((w.alloc (.cells #[.string s1, .slice a1 n1 c1, .slice b1 k1 d1] 24)).alloc (.cells #[.string s2, .slice a2 n2 c2, .slice b2 k2 d2] 24)) := hbA.alloc (by simp) _
  have HP1 : Hid (MK3 ((w.alloc (.cells #[.string s1, .slice a1 n1 c1, .slice b1 k1 d1] 24)).alloc (.cells #[.string s2, .slice a2 n2 c2, .slice b2 k2 d2] 24)) w.heap.size (.string s1) (.slice a1 n1 c1) (.slice b1 k1 d1)) := (MK3.new w _ _ _ _).below ((Below.refl _ _).alloc (Nat.le_refl _) _)
  have HP2 : Hid (MK3 ((w.alloc (.cells #[.string s1, .slice a1 n1 c1, .slice b1 k1 d1] 24)).alloc (.cells #[.string s2, .slice a2 n2 c2, .slice b2 k2 d2] 24)) (w.heap.size + 1) (.string s2) (.slice a2 n2 c2) (.slice b2 k2 d2)) := by
    show MK3 _ _ _ _ _
    have := MK3.new (w.alloc (.cells #[.string s1, .slice a1 n1 c1, .slice b1 k1 d1] 24)) (.string s2) (.slice a2 n2 c2) (.slice b2 k2 d2) 24
    simpa using this
  have HR1 := Lib.hid (hr1.below hb0)
  have HR2 := Lib.hid (hr2.below hb0)
  clear hr1 hr2 hbA hx hy hv1 hv2
  go_enter Try.func3, Try.ntmps3
  go_wp2_with fail
  generalize hW : ((w.alloc (.cells #[.string s1, .slice a1 n1 c1, .slice b1 k1 d1] 24)).alloc (.cells #[.string s2, .slice a2 n2 c2, .slice b2 k2 d2] 24)) = W0 at *
  refine (szMail_v HR1.out (t := 1048576) (by omega) (by omega)).mono ?_
  rintro e w1 ⟨r, rfl, hr1, hr2, hsz, hb1⟩
  have HB1 := Lib.hid (nx hb0 hb1)
  have HP11 := Lib.hid (HP1.out.below hb1)
  have HP21 := Lib.hid (HP2.out.below hb1)
  have HSZ := Lib.hid hsz
  clear hsz
  by_cases hneg : r < 0
  · go_wp2
    go_ret
    exact ⟨rfl, HB1.out⟩
  obtain ⟨g0, g1, g2⟩ := HP21.out
  go_wp2_with fail
  refine (szMail_v (HR2.out.below hb1) (t := r) (by omega) (by omega)).mono ?_
  rintro e w2 ⟨r2, rfl, hr3, hr4, hsz2, hb2⟩
  have HB2 := Lib.hid (nx HB1.out hb2)
  have HP12 := Lib.hid (HP11.out.below hb2)
  have HP22 := Lib.hid (HP21.out.below hb2)
  have HSZ2 := Lib.hid hsz2
  have HR12 := Lib.hid ((HR1.out.below hb1).below hb2)
  have HR22 := Lib.hid ((HR2.out.below hb1).below hb2)
  clear hsz2 g0 g1 g2 hb1 hb2
  by_cases hneg2 : r2 < 0
  · go_wp2
    go_ret
    exact ⟨rfl, HB2.out⟩
  have HT1 : Hid (∀ u, Below w2.heap.size w2 u → Calls Try.prog 8 #[.agg #[.string s1, .slice a1 n1 c1, .slice b1 k1 d1]] u (MalRetV m1 u)) := fun u h => toMail_v ((HR12.out.below h).up (HSZ.out (by omega)))
  have HT2 : Hid (∀ u, Below w2.heap.size w2 u → Calls Try.prog 8 #[.agg #[.string s2, .slice a2 n2 c2, .slice b2 k2 d2]] u (MalRetV m2 u)) := fun u h => toMail_v ((HR22.out.below h).up (HSZ2.out (by omega)))
  have HM1 : Hid (SmallM 1048576 m1) := HSZ.out (by omega)
  have HM2 : Hid (SmallM 1048576 m2) := HSZ2.out (by omega)
  have HKS : Hid (∀ u (t1 : ByteArray) (e1 : Option Addr) (f1 g1 : Nat) (h1 : Option Addr) (i1 j1 : Nat) (t2 : ByteArray) (e2 : Option Addr) (f2 g2 : Nat) (h2 : Option Addr) (i2 j2 : Nat), RdV 1048576 u t1 e1 f1 g1 h1 i1 j1 m1 → RdV 1048576 u t2 e2 f2 g2 h2 i2 j2 m2 → Calls Try.prog 7 #[.agg #[.string t1, .slice e1 f1 g1, .slice h1 i1 j1], .agg #[.string t2, .slice e2 f2 g2, .slice h2 i2 j2]] u fun e w' => e = .returned (.bool (decide (m1 = m2))) ∧ Below u.heap.size u w') := fun u t1 e1 f1 g1 h1 i1 j1 t2 e2 f2 g2 h2 i2 j2 k1 k2 => mailSameS_v k1 k2
  have HKI : Hid (∀ u (t1 : ByteArray) (e1 : Option Addr) (f1 g1 : Nat) (h1 : Option Addr) (i1 j1 : Nat) (t2 : ByteArray) (e2 : Option Addr) (f2 g2 : Nat) (h2 : Option Addr) (i2 j2 : Nat), RdV 1048576 u t1 e1 f1 g1 h1 i1 j1 m1 → RdV 1048576 u t2 e2 f2 g2 h2 i2 j2 m2 → Calls Try.prog 9 #[.agg #[.string t1, .slice e1 f1 g1, .slice h1 i1 j1], .agg #[.string t2, .slice e2 f2 g2, .slice h2 i2 j2]] u fun e w' => e = .returned (.bool (decide (m1 = m2))) ∧ Below u.heap.size u w') := fun u t1 e1 f1 g1 h1 i1 j1 t2 e2 f2 g2 h2 i2 j2 k1 k2 => mailSame_v k1 k2
  generalize decide (m1 = m2) = Q at *
  generalize hg1 : w.heap.size = G1 at HP12 HP22 ⊢
  have HPA : Hid (∀ u, Below w2.heap.size w2 u → MK3 u G1 (.string s1) (.slice a1 n1 c1) (.slice b1 k1 d1) ∧ MK3 u (G1 + 1) (.string s2) (.slice a2 n2 c2) (.slice b2 k2 d2)) := fun u h => ⟨HP12.out.below h, HP22.out.below h⟩
  have hlt2 : G1 + 1 < w2.heap.size := lt_of_cell HP22.out.1
  go_wp2_with fail
  refine wp_region_grow (by kernel_rfl) ?_
  refine wpAnyG_take (fuel := 4) [true, false, true] (by kernel_rfl) (by kernel_rfl) (by rfl) (by kernel_rfl) ?_
  apply Exists.intro
  refine ⟨fun x => ?_, ?_⟩
  · have y0 := fun (y : BelowT x.val) => (HPA.out y.val (nx x.below y.below)).1.1
    have y1 := fun (y : BelowT x.val) => (HPA.out y.val (nx x.below y.below)).1.2.1
    have y2 := fun (y : BelowT x.val) => (HPA.out y.val (nx x.below y.below)).1.2.2
    have z0 := fun (y : BelowT x.val) => (HPA.out y.val (nx x.below y.below)).2.1
    have z1 := fun (y : BelowT x.val) => (HPA.out y.val (nx x.below y.below)).2.2.1
    have z2 := fun (y : BelowT x.val) => (HPA.out y.val (nx x.below y.below)).2.2.2
    simp only [pickL]
    repeat (go_big_quiet_step (fail))
    exact wpQuiet_nil rfl
  refine wpAnyG_one (m := 1) (by kernel_rfl) (fun u1 g1 => ?_)
  refine wpOp_at (o := _) (by rfl) (by rfl) ?_
  go_simp
  refine (HT1.out _ g1).mono ?_
  rintro e w3 ⟨t1, e1, f1, g1x, h1x, i1, j1, rfl, hd3, hb3⟩
  refine ⟨hb3, ?_⟩
  try simp only [Act.put, List.setIfInBounds_toArray, List.set_cons_zero, List.set_cons_succ]
  refine wpAnyG_one (m := 3) (by kernel_rfl) (fun u2 g2 => ?_)
  refine wpOp_at (o := _) (by rfl) (by rfl) ?_
  go_simp
  refine (HT2.out _ (nx (nx g1 hb3) g2)).mono ?_
  rintro e w4 ⟨t2, e2, f2, g2x, h2x, i2, j2, rfl, hd4, hb4⟩
  refine ⟨hb4, ?_⟩
  try simp only [Act.put, List.setIfInBounds_toArray, List.set_cons_zero, List.set_cons_succ]
  refine wpAnyG_one (m := 4) (by kernel_rfl) (fun u3 g3 => ?_)
  refine wpOp_at (o := _) (by rfl) (by rfl) ?_
  go_simp
  refine (HKS.out _ _ _ _ _ _ _ _ _ _ _ _ _ _ _ ((hd3.below (nx g2 hb4)).below g3) (hd4.below g3)).mono ?_
  rintro e w5 ⟨rfl, hb5⟩
  refine ⟨hb5, ?_⟩
  try simp only [Act.put, List.setIfInBounds_toArray, List.set_cons_zero, List.set_cons_succ]
  refine wpAnyG_take (fuel := 0) [false, false, false, false, false, true] (by kernel_rfl) (by kernel_rfl) (by rfl) (by kernel_rfl) ?_
  apply Exists.intro
  refine ⟨fun x => ?_, ?_⟩
  · skip
    simp only [pickL]
    repeat (go_big_quiet_step (fail))
    exact wpQuiet_nil rfl
  refine wpAnyG_done (by kernel_rfl) (fun x => ?_) _
  have hbx := x.below
  generalize x.val = w6 at *
  have HB6 : Hid (Below w2.heap.size w2 w6) := nx (nx (nx g1 hb3) (nx g2 hb4)) (nx (nx g3 hb5) hbx)
  clear g1 hb3 g2 hb4 g3 hb5 hbx hd3 hd4
  obtain ⟨⟨y0, y1, y2⟩, ⟨z0, z1, z2⟩⟩ := HPA.out _ HB6.out
  go_wp2_with fail
  refine (HT1.out _ HB6.out).mono ?_
  rintro e w7 ⟨t7, e7, f7, g7x, h7x, i7, j7, rfl, hd7, hb7⟩
  clear y0 y1 y2 z0 z1 z2
  have HB7 := Lib.hid (nx HB6.out hb7)
  have HD7 := Lib.hid hd7
  obtain ⟨⟨y0, y1, y2⟩, ⟨z0, z1, z2⟩⟩ := HPA.out _ HB7.out
  have hs7 : G1 + 1 < w7.heap.size := Nat.lt_of_lt_of_le hlt2 HB7.out.size
  have hA7 : Below w7.heap.size w7 (w7.alloc (.cells #[.string t7, .slice e7 f7 g7x, .slice h7x i7 j7] 27)) := (Below.refl _ _).alloc (Nat.le_refl _) _
  have HA7 := Lib.hid (nx HB7.out hA7)
  have HK7 := Lib.hid (MK3.new w7 (.string t7) (.slice e7 f7 g7x) (.slice h7x i7 j7) 27)
  have HD7' := Lib.hid (hd7.below hA7)
  clear hd7 hb7
  go_wp2_with fail
  refine (HT2.out _ HA7.out).mono ?_
  rintro e w8 ⟨t8, e8, f8, g8x, h8x, i8, j8, rfl, hd8, hb8⟩
  clear y0 y1 y2 z0 z1 z2
  have HB8 := Lib.hid (nx HA7.out hb8)
  have HK8 := Lib.hid (HK7.out.below hb8)
  have HD8 := Lib.hid (HD7'.out.below hb8)
  have hX0 := lt_of_cell HK8.out.1
  obtain ⟨k0, k1, k2⟩ := HK8.out
  have hA8 : Below w8.heap.size w8 (w8.alloc (.cells #[.string t8, .slice e8 f8 g8x, .slice h8x i8 j8] 27)) := (Below.refl _ _).alloc (Nat.le_refl _) _
  have HA8 := Lib.hid (nx HB8.out hA8)
  have HKN := Lib.hid (MK3.new w8 (.string t8) (.slice e8 f8 g8x) (.slice h8x i8 j8) 27)
  have HD88 := Lib.hid (hd8.below hA8)
  have HD78 := Lib.hid (HD8.out.below hA8)
  have HK88 := Lib.hid (HK8.out.below hA8)
  clear hd8 hb8 hA7 hA8
  go_wp2_with fail
  refine (HKI.out _ _ _ _ _ _ _ _ _ _ _ _ _ _ _ HD78.out HD88.out).mono ?_
  rintro e w9 ⟨rfl, hb9⟩
  clear k0 k1 k2
  have HB9 := Lib.hid (nx HA8.out hb9)
  have HX0 := Lib.hid (HK88.out.below hb9)
  have HX1' := Lib.hid (HKN.out.below hb9)
  have HD79 := Lib.hid (HD78.out.below hb9)
  have HD89 := Lib.hid (HD88.out.below hb9)
  have HEQ1 : Hid (∀ u, Below w9.heap.size w9 u → ∀ (t2 : ByteArray) (e2 : Option Addr) (f2 g2 : Nat) (h2 : Option Addr) (i2 j2 : Nat), RdV 1048576 u t2 e2 f2 g2 h2 i2 j2 m1 → Calls Try.prog 10 #[.agg #[.string t7, .slice e7 f7 g7x, .slice h7x i7 j7], .agg #[.string t2, .slice e2 f2 g2, .slice h2 i2 j2]] u fun e w' => e = .returned (.bool true) ∧ Below u.heap.size u w') := fun u h t2 e2 f2 g2 h2 i2 j2 k => eqMail_v (HD79.out.below h) k
  have HEQ2 : Hid (∀ u, Below w9.heap.size w9 u → ∀ (t2 : ByteArray) (e2 : Option Addr) (f2 g2 : Nat) (h2 : Option Addr) (i2 j2 : Nat), RdV 1048576 u t2 e2 f2 g2 h2 i2 j2 m2 → Calls Try.prog 10 #[.agg #[.string t8, .slice e8 f8 g8x, .slice h8x i8 j8], .agg #[.string t2, .slice e2 f2 g2, .slice h2 i2 j2]] u fun e w' => e = .returned (.bool true) ∧ Below u.heap.size u w') := fun u h t2 e2 f2 g2 h2 i2 j2 k => eqMail_v (HD89.out.below h) k
  have HPB : Hid (∀ u, Below w9.heap.size w9 u → (MK3 u G1 (.string s1) (.slice a1 n1 c1) (.slice b1 k1 d1) ∧ MK3 u (G1 + 1) (.string s2) (.slice a2 n2 c2) (.slice b2 k2 d2)) ∧ (MK3 u w7.heap.size (.string t7) (.slice e7 f7 g7x) (.slice h7x i7 j7) ∧ MK3 u w8.heap.size (.string t8) (.slice e8 f8 g8x) (.slice h8x i8 j8))) := fun u h => ⟨HPA.out _ (nx HB9.out h), HX0.out.below h, HX1'.out.below h⟩
  cases Q
  all_goals
    go_wp2_with fail
    refine wp_region_grow (by kernel_rfl) ?_
    refine wpAnyG_take (fuel := 3) [true, true] (by kernel_rfl) (by kernel_rfl) (by rfl) (by kernel_rfl) ?_
    apply Exists.intro
    refine ⟨fun x => ?_, ?_⟩
    · have y0 := fun (y : BelowT x.val) => (HPB.out y.val (nx x.below y.below)).1.1.1
      have y1 := fun (y : BelowT x.val) => (HPB.out y.val (nx x.below y.below)).1.1.2.1
      have y2 := fun (y : BelowT x.val) => (HPB.out y.val (nx x.below y.below)).1.1.2.2
      have z0 := fun (y : BelowT x.val) => (HPB.out y.val (nx x.below y.below)).2.1.1
      have z1 := fun (y : BelowT x.val) => (HPB.out y.val (nx x.below y.below)).2.1.2.1
      have z2 := fun (y : BelowT x.val) => (HPB.out y.val (nx x.below y.below)).2.1.2.2
      simp only [pickL]
      repeat (go_big_quiet_step (fail))
      exact wpQuiet_nil rfl
    refine wpAnyG_one (m := 2) (by kernel_rfl) (fun u1 g1 => ?_)
    refine wpOp_at (o := _) (by rfl) (by rfl) ?_
    go_simp
    refine (HT1.out _ (nx HB9.out g1)).mono ?_
    rintro e w10 ⟨t10, e10, f10, g10x, h10x, i10, j10, rfl, hd10, hb10⟩
    refine ⟨hb10, ?_⟩
    try simp only [Act.put, List.setIfInBounds_toArray, List.set_cons_zero, List.set_cons_succ]
    refine wpAnyG_one (m := 3) (by kernel_rfl) (fun u2 g2 => ?_)
    refine wpOp_at (o := _) (by rfl) (by rfl) ?_
    go_simp
    refine (HEQ1.out _ (nx (nx g1 hb10) g2) _ _ _ _ _ _ _ (hd10.below g2)).mono ?_
    rintro e w11 ⟨rfl, hb11⟩
    refine ⟨hb11, ?_⟩
    try simp only [Act.put, List.setIfInBounds_toArray, List.set_cons_zero, List.set_cons_succ]
    refine wpAnyG_take (fuel := 0) [false, false, false, false, true] (by kernel_rfl) (by kernel_rfl) (by rfl) (by kernel_rfl) ?_
    apply Exists.intro
    refine ⟨fun x => ?_, ?_⟩
    · skip
      simp only [pickL]
      repeat (go_big_quiet_step (fail))
      exact wpQuiet_nil rfl
    refine wpAnyG_done (by kernel_rfl) (fun x => ?_) _
    have hbx := x.below
    generalize x.val = w12 at *
    have HB12 : Hid (Below w9.heap.size w9 w12) := nx (nx g1 hb10) (nx (nx g2 hb11) hbx)
    clear g1 hb10 g2 hb11 hbx hd10
    go_wp2_with fail
    refine wp_region_grow (by kernel_rfl) ?_
    refine wpAnyG_take (fuel := 3) [true, true] (by kernel_rfl) (by kernel_rfl) (by rfl) (by kernel_rfl) ?_
    apply Exists.intro
    refine ⟨fun x => ?_, ?_⟩
    · have y0 := fun (y : BelowT x.val) => (HPB.out y.val (nx HB12.out (nx x.below y.below))).1.2.1
      have y1 := fun (y : BelowT x.val) => (HPB.out y.val (nx HB12.out (nx x.below y.below))).1.2.2.1
      have y2 := fun (y : BelowT x.val) => (HPB.out y.val (nx HB12.out (nx x.below y.below))).1.2.2.2
      have z0 := fun (y : BelowT x.val) => (HPB.out y.val (nx HB12.out (nx x.below y.below))).2.2.1
      have z1 := fun (y : BelowT x.val) => (HPB.out y.val (nx HB12.out (nx x.below y.below))).2.2.2.1
      have z2 := fun (y : BelowT x.val) => (HPB.out y.val (nx HB12.out (nx x.below y.below))).2.2.2.2
      simp only [pickL]
      repeat (go_big_quiet_step (fail))
      exact wpQuiet_nil rfl
    refine wpAnyG_one (m := 2) (by kernel_rfl) (fun u1 g1 => ?_)
    refine wpOp_at (o := _) (by rfl) (by rfl) ?_
    go_simp
    refine (HT2.out _ (nx HB9.out (nx HB12.out g1))).mono ?_
    rintro e w13 ⟨t13, e13, f13, g13x, h13x, i13, j13, rfl, hd13, hb13⟩
    refine ⟨hb13, ?_⟩
    try simp only [Act.put, List.setIfInBounds_toArray, List.set_cons_zero, List.set_cons_succ]
    refine wpAnyG_one (m := 3) (by kernel_rfl) (fun u2 g2 => ?_)
    refine wpOp_at (o := _) (by rfl) (by rfl) ?_
    go_simp
    refine (HEQ2.out _ (nx HB12.out (nx (nx g1 hb13) g2)) _ _ _ _ _ _ _ (hd13.below g2)).mono ?_
    rintro e w14 ⟨rfl, hb14⟩
    refine ⟨hb14, ?_⟩
    try simp only [Act.put, List.setIfInBounds_toArray, List.set_cons_zero, List.set_cons_succ]
    refine wpAnyG_take (fuel := 0) [false, false, false, false, true] (by kernel_rfl) (by kernel_rfl) (by rfl) (by kernel_rfl) ?_
    apply Exists.intro
    refine ⟨fun x => ?_, ?_⟩
    · skip
      simp only [pickL]
      repeat (go_big_quiet_step (fail))
      exact wpQuiet_nil rfl
    refine wpAnyG_done (by kernel_rfl) (fun x => ?_) _
    have hbx := x.below
    generalize x.val = w15 at *
    have HB15 : Hid (Below w9.heap.size w9 w15) := nx HB12.out (nx (nx g1 hb13) (nx (nx g2 hb14) hbx))
    clear g1 hb13 g2 hb14 hbx hd13
    go_wp2
    go_ret
    exact ⟨rfl, hg1 ▸ nx HB2.out (nx HB9.out HB15.out)⟩
set_option maxRecDepth 100000 in
theorem fnExactMailSame_lifted (os : Os) (started : os.Started) (H : Type) (enc : TypeId × Value → H) :
    ReturnsInHanded {} Try.checked os 3 .any (Rows.fnExactMailSameSpec.pre6 enc Try.prog Try.f3 Rows.fnExactMailSameRow.domain false) (Rows.fnExactMailSameSpec.post enc Try.prog Try.f3 false true false false) := by
  refine returnsInHanded_of_change (C := Try.checked) own started (by kernel_rfl) Try.func3
    (ChangeSpec.witness6 (enc := enc) (C := Try.checked) false ⟨#[], #[.agg #[.string ByteArray.empty, .slice none 0 0, .slice none 0 0], .agg #[.string ByteArray.empty, .slice none 0 0, .slice none 0 0]], []⟩ 8 (by kernel_rfl) (by kernel_rfl) (by kernel_rfl) (by kernel_rfl)) ?_
  intro W base args ds gs before hval0 hW hcnd _
  have hval : ∀ (j : Nat) t v, Try.f3.params[j]? = some t → args[j]? = some v → Value.okWide Try.prog W .any base t v := hval0
  have hW' := hW
  obtain ⟨p, q, hA0, hV, rfl, hfz, hnd⟩ := hW
  have hA : DataW.TrodAll enc Try.prog W 0 (fun _ => true) true Try.f3.params.toList args.toList ds p := hA0
  rw [Try.params3] at hA hval
  obtain ⟨v0, vs0, d0, ds0, p0, q0, hargs, rfl, rfl, h0, r0⟩ := trodAll_cons hA
  obtain ⟨v1, vs1, d1, ds1, p1, q1, rfl, rfl, rfl, h1, r1⟩ := trodAll_cons r0
  obtain ⟨rfl, rfl, rfl⟩ := trodAll_nil r1
  obtain rfl : args = #[v0, v1] := by cases args; simp_all
  obtain ⟨rfl, rfl⟩ := trodVars_none hV
  have k0 := h0
  have lt0 : ∀ x ∈ p0, x.block < W.heap.size := by obtain ⟨m, hm⟩ := k0; exact DataW.trod_lt m _ _ _ hm
  obtain ⟨ml0, rfl, w0⟩ := open_mal (hval 0 24 v0 rfl rfl) h0
  have k1 := h1
  have lt1 : ∀ x ∈ p1, x.block < W.heap.size := by obtain ⟨m, hm⟩ := k1; exact DataW.trod_lt m _ _ _ hm
  obtain ⟨ml1, rfl, w1⟩ := open_mal (hval 1 24 v1 rfl rfl) h1
  clear hA0 hval0
  refine (fnExactMailSame_walk ml0 ml1 W w0 w1).mono fun e W' ⟨he, bel⟩ => ?_
  subst he
  exact ⟨_, rfl, _, _, _, [], _, [], hW', trodAll_mk1 (shut_bool Try.underlying4 _), (trodAll_cons_mk (Below.trod laidOut (by kernel_rfl) (of_decide_eq_true (by kernel_rfl)) k0 bel lt0) (trodAll_cons_mk (Below.trod laidOut (by kernel_rfl) (of_decide_eq_true (by kernel_rfl)) k1 bel lt1) trodAll_mk0)), rfl, bel.frame _, fun h => by cases h⟩
/-- FnExactMailSame: THE STATEMENT. -/
theorem fnExactMailSame_holds : Rows.FnExactMailSameSaid :=
  OpenClaim.holds_of_wide 3 Try.f3 rfl rfl rfl rfl rfl rfl rfl ⟨rfl, rfl, rfl, rfl, rfl⟩ rfl rfl rfl rfl rfl (by kernel_rfl) Try.func3 (by kernel_rfl)
    (of_decide_eq_true (by kernel_rfl)) (by unfold Func.isWrapper; first | (rw [if_pos (by decide +kernel)]; kernel_rfl) | (rw [if_neg (by decide +kernel)]; exact ⟨rfl, rfl⟩))
    (fun os started H enc _ => fnExactMailSame_lifted os started H enc)
end Go.Proofs.Ytdddmclhafbfoab
