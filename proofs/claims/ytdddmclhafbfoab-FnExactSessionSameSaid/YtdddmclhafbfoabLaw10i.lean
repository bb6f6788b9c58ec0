/-
  The exact law of equal sessions, plain: its walk. For every input of the law: it returns true, and the input reads as it did. Conditions: none but the statement's own.
-/
import Derived.Test.YtdddmclhafbfoabSsnO
import Derived.Test.YtdddmclhafbfoabGrow
namespace Go.Proofs.Ytdddmclhafbfoab
open Go.ChangeShapes Go.WideShapes Go.ChangeAt Go.RowKit
open Go.ChangeMaps (open_string shut_string)

def SsRetV (S : Ssn) (w : World) (e : Ending) (w' : World) : Prop := ∃ (u : Int) (hh s : ByteArray) (a : Option Addr) (n c : Nat) (b : Option Addr) (k d : Nat) (e' : Option Addr) (r q : Nat), e = .returned (.agg #[.int .i64 u, .string hh, .string s, .slice a n c, .slice b k d, .slice e' r q]) ∧ RdZ 1048576 w' ⟨u, hh, s, a, n, c, b, k, d, e', r, q⟩ S ∧ Below w.heap.size w w'
theorem ssRet_v {S : Ssn} {w : World} {e : Ending} {w' : World} (h : SsRet S w e w') : SsRetV S w e w' := by
  obtain ⟨⟨u, hh, s, a, n, c, b, k, d, e', r, q⟩, rfl, hz, hb⟩ := h
  exact ⟨u, hh, s, a, n, c, b, k, d, e', r, q, rfl, hz, hb⟩
set_option maxRecDepth 100000 in
set_option maxHeartbeats 8000000 in
theorem fnExactSessionSame_walk (x : SsV) (m1 : Ssn) (y : SsV) (m2 : Ssn) (w : World) (hx : RdZ maxLen w x m1) (hy : RdZ maxLen w y m2) :
    Calls Try.prog 4 #[ssVal x, ssVal y] w fun e w' => e = .returned (.bool true) ∧ Below w.heap.size w w' := by
  obtain ⟨u1, hh1, s1, a1, n1, c1, b1, k1, d1, e1, ln1, q1⟩ := x
  obtain ⟨u2, hh2, s2, a2, n2, c2, b2, k2, d2, e2, ln2, q2⟩ := y
  show Calls Try.prog 4 #[.agg #[.int .i64 u1, .string hh1, .string s1, .slice a1 n1 c1, .slice b1 k1 d1, .slice e1 ln1 q1], .agg #[.int .i64 u2, .string hh2, .string s2, .slice a2 n2 c2, .slice b2 k2 d2, .slice e2 ln2 q2]] w _
  have hbA : Below w.heap.size w (w.alloc (.cells #[.int .i64 u1, .string hh1, .string s1, .slice a1 n1 c1, .slice b1 k1 d1, .slice e1 ln1 q1] 32)) := (Below.refl _ _).alloc (Nat.le_refl _) _
  have hb0 : Below w.heap.size w ((w.alloc (.cells #[.int .i64 u1, .string hh1, .string s1, .slice a1 n1 c1, .slice b1 k1 d1, .slice e1 ln1 q1] 32)).alloc (.cells #[.int .i64 u2, .string hh2, .string s2, .slice a2 n2 c2, .slice b2 k2 d2, .slice e2 ln2 q2] 32)) := hbA.alloc (by simp) _
  have HP1 : Hid (SK6 ((w.alloc (.cells #[.int .i64 u1, .string hh1, .string s1, .slice a1 n1 c1, .slice b1 k1 d1, .slice e1 ln1 q1] 32)).alloc (.cells #[.int .i64 u2, .string hh2, .string s2, .slice a2 n2 c2, .slice b2 k2 d2, .slice e2 ln2 q2] 32)) w.heap.size (.int .i64 u1) (.string hh1) (.string s1) (.slice a1 n1 c1) (.slice b1 k1 d1) (.slice e1 ln1 q1)) := (SK6.new w _ _ _ _ _ _ _).below ((Below.refl _ _).alloc (Nat.le_refl _) _)
  have HP2 : Hid (SK6 ((w.alloc (.cells #[.int .i64 u1, .string hh1, .string s1, .slice a1 n1 c1, .slice b1 k1 d1, .slice e1 ln1 q1] 32)).alloc (.cells #[.int .i64 u2, .string hh2, .string s2, .slice a2 n2 c2, .slice b2 k2 d2, .slice e2 ln2 q2] 32)) (w.heap.size + 1) (.int .i64 u2) (.string hh2) (.string s2) (.slice a2 n2 c2) (.slice b2 k2 d2) (.slice e2 ln2 q2)) := by
    have := SK6.new (w.alloc (.cells #[.int .i64 u1, .string hh1, .string s1, .slice a1 n1 c1, .slice b1 k1 d1, .slice e1 ln1 q1] 32)) (.int .i64 u2) (.string hh2) (.string s2) (.slice a2 n2 c2) (.slice b2 k2 d2) (.slice e2 ln2 q2) 32
    have e : (w.alloc (.cells #[.int .i64 u1, .string hh1, .string s1, .slice a1 n1 c1, .slice b1 k1 d1, .slice e1 ln1 q1] 32)).heap.size = w.heap.size + 1 := by simp
    rw [e] at this; exact this
  have HR1 := Lib.hid (hx.below hb0)
  have HR2 := Lib.hid (hy.below hb0)
  clear hbA hx hy
  go_enter Try.func4, Try.ntmps4
  go_wp2_with fail
  generalize hW : ((w.alloc (.cells #[.int .i64 u1, .string hh1, .string s1, .slice a1 n1 c1, .slice b1 k1 d1, .slice e1 ln1 q1] 32)).alloc (.cells #[.int .i64 u2, .string hh2, .string s2, .slice a2 n2 c2, .slice b2 k2 d2, .slice e2 ln2 q2] 32)) = W0 at *
  refine (szSession_any ⟨u1, hh1, s1, a1, n1, c1, b1, k1, d1, e1, ln1, q1⟩ m1 1048576 _ HR1.out (by omega) (by omega)).mono ?_
  rintro e w1 ⟨r, rfl, hr1, hr2, hsz, hb1⟩
  have HB1 := Lib.hid (nx hb0 hb1)
  have HP11 := Lib.hid (HP1.out.below hb1)
  have HP21 := Lib.hid (HP2.out.below hb1)
  have HSZ := Lib.hid hsz
  clear hsz
  by_cases hneg : r < 0
  · go_wp2
    go_ret
    exact ⟨rfl, HB1.out⟩
  obtain ⟨g0, g1, g2, g3, g4, g5⟩ := HP21.out
  go_wp2_with fail
  refine (szSession_any ⟨u2, hh2, s2, a2, n2, c2, b2, k2, d2, e2, ln2, q2⟩ m2 r _ (HR2.out.below hb1) (by omega) (by omega)).mono ?_
  rintro e w2 ⟨r2, rfl, hr3, hr4, hsz2, hb2⟩
  have HB2 := Lib.hid (nx HB1.out hb2)
  have HP12 := Lib.hid (HP11.out.below hb2)
  have HP22 := Lib.hid (HP21.out.below hb2)
  have HSZ2 := Lib.hid hsz2
  have HR12 := Lib.hid ((HR1.out.below hb1).below hb2)
  have HR22 := Lib.hid ((HR2.out.below hb1).below hb2)
  clear hsz2 g0 g1 g2 g3 g4 g5 hb1 hb2
  by_cases hneg2 : r2 < 0
  · go_wp2
    go_ret
    exact ⟨rfl, HB2.out⟩
  have HT1 : Hid (∀ u, Below w2.heap.size w2 u → Calls Try.prog 13 #[.agg #[.int .i64 u1, .string hh1, .string s1, .slice a1 n1 c1, .slice b1 k1 d1, .slice e1 ln1 q1]] u (SsRetV m1 u)) := fun u h => (toSession_any ⟨u1, hh1, s1, a1, n1, c1, b1, k1, d1, e1, ln1, q1⟩ m1 u ((HR12.out.below h).up (HSZ.out (by omega))) (HSZ.out (by omega))).mono fun _ _ h => ssRet_v h
  have HT2 : Hid (∀ u, Below w2.heap.size w2 u → Calls Try.prog 13 #[.agg #[.int .i64 u2, .string hh2, .string s2, .slice a2 n2 c2, .slice b2 k2 d2, .slice e2 ln2 q2]] u (SsRetV m2 u)) := fun u h => (toSession_any ⟨u2, hh2, s2, a2, n2, c2, b2, k2, d2, e2, ln2, q2⟩ m2 u ((HR22.out.below h).up (HSZ2.out (by omega))) (HSZ2.out (by omega))).mono fun _ _ h => ssRet_v h
  have HKS : Hid (∀ u (uX : Int) (hhX sX : ByteArray) (aX : Option Addr) (nX cX : Nat) (bX : Option Addr) (kX dX : Nat) (eX : Option Addr) (lnX qX : Nat) (uY : Int) (hhY sY : ByteArray) (aY : Option Addr) (nY cY : Nat) (bY : Option Addr) (kY dY : Nat) (eY : Option Addr) (lnY qY : Nat), RdZ 1048576 u ⟨uX, hhX, sX, aX, nX, cX, bX, kX, dX, eX, lnX, qX⟩ m1 → RdZ 1048576 u ⟨uY, hhY, sY, aY, nY, cY, bY, kY, dY, eY, lnY, qY⟩ m2 → Calls Try.prog 12 #[.agg #[.int .i64 uX, .string hhX, .string sX, .slice aX nX cX, .slice bX kX dX, .slice eX lnX qX], .agg #[.int .i64 uY, .string hhY, .string sY, .slice aY nY cY, .slice bY kY dY, .slice eY lnY qY]] u fun e w' => e = .returned (.bool (decide (m1 = m2))) ∧ Below u.heap.size u w') := fun u uX hhX sX aX nX cX bX kX dX eX lnX qX uY hhY sY aY nY cY bY kY dY eY lnY qY p1 p2 => sessionSameS_any 1048576 ⟨uX, hhX, sX, aX, nX, cX, bX, kX, dX, eX, lnX, qX⟩ ⟨uY, hhY, sY, aY, nY, cY, bY, kY, dY, eY, lnY, qY⟩ m1 m2 u p1 p2 (by unfold maxLen; omega)
  have HKI : Hid (∀ u (uX : Int) (hhX sX : ByteArray) (aX : Option Addr) (nX cX : Nat) (bX : Option Addr) (kX dX : Nat) (eX : Option Addr) (lnX qX : Nat) (uY : Int) (hhY sY : ByteArray) (aY : Option Addr) (nY cY : Nat) (bY : Option Addr) (kY dY : Nat) (eY : Option Addr) (lnY qY : Nat), RdZ 1048576 u ⟨uX, hhX, sX, aX, nX, cX, bX, kX, dX, eX, lnX, qX⟩ m1 → RdZ 1048576 u ⟨uY, hhY, sY, aY, nY, cY, bY, kY, dY, eY, lnY, qY⟩ m2 → Calls Try.prog 14 #[.agg #[.int .i64 uX, .string hhX, .string sX, .slice aX nX cX, .slice bX kX dX, .slice eX lnX qX], .agg #[.int .i64 uY, .string hhY, .string sY, .slice aY nY cY, .slice bY kY dY, .slice eY lnY qY]] u fun e w' => e = .returned (.bool (decide (m1 = m2))) ∧ Below u.heap.size u w') := fun u uX hhX sX aX nX cX bX kX dX eX lnX qX uY hhY sY aY nY cY bY kY dY eY lnY qY p1 p2 => sessionSame_any 1048576 ⟨uX, hhX, sX, aX, nX, cX, bX, kX, dX, eX, lnX, qX⟩ ⟨uY, hhY, sY, aY, nY, cY, bY, kY, dY, eY, lnY, qY⟩ m1 m2 u p1 p2 (by unfold maxLen; omega)
  generalize decide (m1 = m2) = Q at *
  generalize hg1 : w.heap.size = G1 at HP12 HP22 ⊢
  have HPA : Hid (∀ u, Below w2.heap.size w2 u → SK6 u G1 (.int .i64 u1) (.string hh1) (.string s1) (.slice a1 n1 c1) (.slice b1 k1 d1) (.slice e1 ln1 q1) ∧ SK6 u (G1 + 1) (.int .i64 u2) (.string hh2) (.string s2) (.slice a2 n2 c2) (.slice b2 k2 d2) (.slice e2 ln2 q2)) := fun u h => ⟨HP12.out.below h, HP22.out.below h⟩
  have hlt2 : G1 + 1 < w2.heap.size := lt_of_cell HP22.out.1
  go_wp2_with fail
  refine wp_region_grow (by kernel_rfl) ?_
  refine wpAnyG_take (fuel := 4) [true, false, true] (by kernel_rfl) (by kernel_rfl) (by rfl) (by kernel_rfl) ?_
  apply Exists.intro
  refine ⟨fun x => ?_, ?_⟩
  · have y0 := fun (y : BelowT x.val) => (HPA.out y.val (nx x.below y.below)).1.1
    have y1 := fun (y : BelowT x.val) => (HPA.out y.val (nx x.below y.below)).1.2.1
    have y2 := fun (y : BelowT x.val) => (HPA.out y.val (nx x.below y.below)).1.2.2.1
    have y3 := fun (y : BelowT x.val) => (HPA.out y.val (nx x.below y.below)).1.2.2.2.1
    have y4 := fun (y : BelowT x.val) => (HPA.out y.val (nx x.below y.below)).1.2.2.2.2.1
    have y5 := fun (y : BelowT x.val) => (HPA.out y.val (nx x.below y.below)).1.2.2.2.2.2
    have z0 := fun (y : BelowT x.val) => (HPA.out y.val (nx x.below y.below)).2.1
    have z1 := fun (y : BelowT x.val) => (HPA.out y.val (nx x.below y.below)).2.2.1
    have z2 := fun (y : BelowT x.val) => (HPA.out y.val (nx x.below y.below)).2.2.2.1
    have z3 := fun (y : BelowT x.val) => (HPA.out y.val (nx x.below y.below)).2.2.2.2.1
    have z4 := fun (y : BelowT x.val) => (HPA.out y.val (nx x.below y.below)).2.2.2.2.2.1
    have z5 := fun (y : BelowT x.val) => (HPA.out y.val (nx x.below y.below)).2.2.2.2.2.2
    simp only [pickL]
    repeat (go_big_quiet_step (fail))
    exact wpQuiet_nil rfl
  refine wpAnyG_one (m := 1) (by kernel_rfl) (fun ua g1 => ?_)
  refine wpOp_at (o := _) (by rfl) (by rfl) ?_
  go_simp
  refine (HT1.out _ g1).mono ?_
  rintro e w3 ⟨uv1, hhv1, sv1, av1, nv1, cv1, bv1, kv1, dv1, ev1, lnv1, qv1, rfl, hd3, hb3⟩
  refine ⟨hb3, ?_⟩
  try simp only [Act.put, List.setIfInBounds_toArray, List.set_cons_zero, List.set_cons_succ]
  refine wpAnyG_one (m := 3) (by kernel_rfl) (fun ub g2 => ?_)
  refine wpOp_at (o := _) (by rfl) (by rfl) ?_
  go_simp
  refine (HT2.out _ (nx (nx g1 hb3) g2)).mono ?_
  rintro e w4 ⟨uv2, hhv2, sv2, av2, nv2, cv2, bv2, kv2, dv2, ev2, lnv2, qv2, rfl, hd4, hb4⟩
  refine ⟨hb4, ?_⟩
  try simp only [Act.put, List.setIfInBounds_toArray, List.set_cons_zero, List.set_cons_succ]
  refine wpAnyG_one (m := 4) (by kernel_rfl) (fun uc g3 => ?_)
  refine wpOp_at (o := _) (by rfl) (by rfl) ?_
  go_simp
  refine (HKS.out _ _ _ _ _ _ _ _ _ _ _ _ _ _ _ _ _ _ _ _ _ _ _ _ _ ((hd3.below (nx g2 hb4)).below g3) (hd4.below g3)).mono ?_
  rintro e w5 ⟨rfl, hb5⟩
  refine ⟨hb5, ?_⟩
  try simp only [Act.put, List.setIfInBounds_toArray, List.set_cons_zero, List.set_cons_succ]
  refine wpAnyG_take (fuel := 0) [false, false, false, false, false, true] (by kernel_rfl) (by kernel_rfl) (by rfl) (by kernel_rfl) ?_
  apply Exists.intro
  refine ⟨fun x => ?_, ?_⟩
  · skip
    simp only [pickL]
    repeat (go_big_quiet_step (fail))
    exact wpQuiet_nil rfl
  refine wpAnyG_done (by kernel_rfl) (fun x => ?_) _
  have hbx := x.below
  generalize x.val = w6 at *
  have HB6 : Hid (Below w2.heap.size w2 w6) := nx (nx (nx g1 hb3) (nx g2 hb4)) (nx (nx g3 hb5) hbx)
  clear g1 hb3 g2 hb4 g3 hb5 hbx hd3 hd4
  obtain ⟨⟨y0, y1, y2, y3, y4, y5⟩, ⟨z0, z1, z2, z3, z4, z5⟩⟩ := HPA.out _ HB6.out
  go_wp2_with fail
  refine (HT1.out _ HB6.out).mono ?_
  rintro e w7 ⟨uv7, hhv7, sv7, av7, nv7, cv7, bv7, kv7, dv7, ev7, lnv7, qv7, rfl, hd7, hb7⟩
  clear y0 y1 y2 y3 y4 y5 z0 z1 z2 z3 z4 z5
  have HB7 := Lib.hid (nx HB6.out hb7)
  have HD7 := Lib.hid hd7
  obtain ⟨⟨y0, y1, y2, y3, y4, y5⟩, ⟨z0, z1, z2, z3, z4, z5⟩⟩ := HPA.out _ HB7.out
  have hs7 : G1 + 1 < w7.heap.size := Nat.lt_of_lt_of_le hlt2 HB7.out.size
  have hA7 : Below w7.heap.size w7 (w7.alloc (.cells #[.int .i64 uv7, .string hhv7, .string sv7, .slice av7 nv7 cv7, .slice bv7 kv7 dv7, .slice ev7 lnv7 qv7] 37)) := (Below.refl _ _).alloc (Nat.le_refl _) _
  have HA7 := Lib.hid (nx HB7.out hA7)
  have HK7 := Lib.hid (SK6.new w7 (.int .i64 uv7) (.string hhv7) (.string sv7) (.slice av7 nv7 cv7) (.slice bv7 kv7 dv7) (.slice ev7 lnv7 qv7) 37)
  have HD7' := Lib.hid (hd7.below hA7)
  clear hd7 hb7
  go_wp2_with fail
  refine (HT2.out _ HA7.out).mono ?_
  rintro e w8 ⟨uv8, hhv8, sv8, av8, nv8, cv8, bv8, kv8, dv8, ev8, lnv8, qv8, rfl, hd8, hb8⟩
  clear y0 y1 y2 y3 y4 y5 z0 z1 z2 z3 z4 z5
  have HB8 := Lib.hid (nx HA7.out hb8)
  have HK8 := Lib.hid (HK7.out.below hb8)
  have HD8 := Lib.hid (HD7'.out.below hb8)
  have hX0 := lt_of_cell HK8.out.1
  obtain ⟨j0, j1, j2, j3, j4, j5⟩ := HK8.out
  have hA8 : Below w8.heap.size w8 (w8.alloc (.cells #[.int .i64 uv8, .string hhv8, .string sv8, .slice av8 nv8 cv8, .slice bv8 kv8 dv8, .slice ev8 lnv8 qv8] 37)) := (Below.refl _ _).alloc (Nat.le_refl _) _
  have HA8 := Lib.hid (nx HB8.out hA8)
  have HKN := Lib.hid (SK6.new w8 (.int .i64 uv8) (.string hhv8) (.string sv8) (.slice av8 nv8 cv8) (.slice bv8 kv8 dv8) (.slice ev8 lnv8 qv8) 37)
  have HD88 := Lib.hid (hd8.below hA8)
  have HD78 := Lib.hid (HD8.out.below hA8)
  have HK88 := Lib.hid (HK8.out.below hA8)
  clear hd8 hb8 hA7 hA8
  go_wp2_with fail
  refine (HKI.out _ _ _ _ _ _ _ _ _ _ _ _ _ _ _ _ _ _ _ _ _ _ _ _ _ HD78.out HD88.out).mono ?_
  rintro e w9 ⟨rfl, hb9⟩
  clear j0 j1 j2 j3 j4 j5
  have HB9 := Lib.hid (nx HA8.out hb9)
  have HX0 := Lib.hid (HK88.out.below hb9)
  have HX1' := Lib.hid (HKN.out.below hb9)
  have HD79 := Lib.hid (HD78.out.below hb9)
  have HD89 := Lib.hid (HD88.out.below hb9)
  have HEQ1 : Hid (∀ u, Below w9.heap.size w9 u → ∀ (uX : Int) (hhX sX : ByteArray) (aX : Option Addr) (nX cX : Nat) (bX : Option Addr) (kX dX : Nat) (eX : Option Addr) (lnX qX : Nat), RdZ 1048576 u ⟨uX, hhX, sX, aX, nX, cX, bX, kX, dX, eX, lnX, qX⟩ m1 → Calls Try.prog 15 #[.agg #[.int .i64 uv7, .string hhv7, .string sv7, .slice av7 nv7 cv7, .slice bv7 kv7 dv7, .slice ev7 lnv7 qv7], .agg #[.int .i64 uX, .string hhX, .string sX, .slice aX nX cX, .slice bX kX dX, .slice eX lnX qX]] u fun e w' => e = .returned (.bool true) ∧ Below u.heap.size u w') := fun u h uX hhX sX aX nX cX bX kX dX eX lnX qX k => by
    have := eqSession_any 1048576 ⟨uv7, hhv7, sv7, av7, nv7, cv7, bv7, kv7, dv7, ev7, lnv7, qv7⟩ ⟨uX, hhX, sX, aX, nX, cX, bX, kX, dX, eX, lnX, qX⟩ m1 m1 u (HD79.out.below h) k (by unfold maxLen; omega)
    rw [decide_eq_true (rfl : m1 = m1)] at this; exact this
  have HEQ2 : Hid (∀ u, Below w9.heap.size w9 u → ∀ (uX : Int) (hhX sX : ByteArray) (aX : Option Addr) (nX cX : Nat) (bX : Option Addr) (kX dX : Nat) (eX : Option Addr) (lnX qX : Nat), RdZ 1048576 u ⟨uX, hhX, sX, aX, nX, cX, bX, kX, dX, eX, lnX, qX⟩ m2 → Calls Try.prog 15 #[.agg #[.int .i64 uv8, .string hhv8, .string sv8, .slice av8 nv8 cv8, .slice bv8 kv8 dv8, .slice ev8 lnv8 qv8], .agg #[.int .i64 uX, .string hhX, .string sX, .slice aX nX cX, .slice bX kX dX, .slice eX lnX qX]] u fun e w' => e = .returned (.bool true) ∧ Below u.heap.size u w') := fun u h uX hhX sX aX nX cX bX kX dX eX lnX qX k => by
    have := eqSession_any 1048576 ⟨uv8, hhv8, sv8, av8, nv8, cv8, bv8, kv8, dv8, ev8, lnv8, qv8⟩ ⟨uX, hhX, sX, aX, nX, cX, bX, kX, dX, eX, lnX, qX⟩ m2 m2 u (HD89.out.below h) k (by unfold maxLen; omega)
    rw [decide_eq_true (rfl : m2 = m2)] at this; exact this
  have HPB : Hid (∀ u, Below w9.heap.size w9 u → (SK6 u G1 (.int .i64 u1) (.string hh1) (.string s1) (.slice a1 n1 c1) (.slice b1 k1 d1) (.slice e1 ln1 q1) ∧ SK6 u (G1 + 1) (.int .i64 u2) (.string hh2) (.string s2) (.slice a2 n2 c2) (.slice b2 k2 d2) (.slice e2 ln2 q2)) ∧ (SK6 u w7.heap.size (.int .i64 uv7) (.string hhv7) (.string sv7) (.slice av7 nv7 cv7) (.slice bv7 kv7 dv7) (.slice ev7 lnv7 qv7) ∧ SK6 u w8.heap.size (.int .i64 uv8) (.string hhv8) (.string sv8) (.slice av8 nv8 cv8) (.slice bv8 kv8 dv8) (.slice ev8 lnv8 qv8))) := fun u h => ⟨HPA.out _ (nx HB9.out h), HX0.out.below h, HX1'.out.below h⟩
  cases Q
  all_goals
    go_wp2_with fail
    refine wp_region_grow (by kernel_rfl) ?_
    refine wpAnyG_take (fuel := 3) [true, true] (by kernel_rfl) (by kernel_rfl) (by rfl) (by kernel_rfl) ?_
    apply Exists.intro
    refine ⟨fun x => ?_, ?_⟩
    · have y0 := fun (y : BelowT x.val) => (HPB.out y.val (nx x.below y.below)).1.1.1
      have y1 := fun (y : BelowT x.val) => (HPB.out y.val (nx x.below y.below)).1.1.2.1
      have y2 := fun (y : BelowT x.val) => (HPB.out y.val (nx x.below y.below)).1.1.2.2.1
      have y3 := fun (y : BelowT x.val) => (HPB.out y.val (nx x.below y.below)).1.1.2.2.2.1
      have y4 := fun (y : BelowT x.val) => (HPB.out y.val (nx x.below y.below)).1.1.2.2.2.2.1
      have y5 := fun (y : BelowT x.val) => (HPB.out y.val (nx x.below y.below)).1.1.2.2.2.2.2
      have z0 := fun (y : BelowT x.val) => (HPB.out y.val (nx x.below y.below)).2.1.1
      have z1 := fun (y : BelowT x.val) => (HPB.out y.val (nx x.below y.below)).2.1.2.1
      have z2 := fun (y : BelowT x.val) => (HPB.out y.val (nx x.below y.below)).2.1.2.2.1
      have z3 := fun (y : BelowT x.val) => (HPB.out y.val (nx x.below y.below)).2.1.2.2.2.1
      have z4 := fun (y : BelowT x.val) => (HPB.out y.val (nx x.below y.below)).2.1.2.2.2.2.1
      have z5 := fun (y : BelowT x.val) => (HPB.out y.val (nx x.below y.below)).2.1.2.2.2.2.2
      simp only [pickL]
      repeat (go_big_quiet_step (fail))
      exact wpQuiet_nil rfl
    refine wpAnyG_one (m := 2) (by kernel_rfl) (fun ua g1 => ?_)
    refine wpOp_at (o := _) (by rfl) (by rfl) ?_
    go_simp
    refine (HT1.out _ (nx HB9.out g1)).mono ?_
    rintro e w10 ⟨uv10, hhv10, sv10, av10, nv10, cv10, bv10, kv10, dv10, ev10, lnv10, qv10, rfl, hd10, hb10⟩
    refine ⟨hb10, ?_⟩
    try simp only [Act.put, List.setIfInBounds_toArray, List.set_cons_zero, List.set_cons_succ]
    refine wpAnyG_one (m := 3) (by kernel_rfl) (fun ub g2 => ?_)
    refine wpOp_at (o := _) (by rfl) (by rfl) ?_
    go_simp
    refine (HEQ1.out _ (nx (nx g1 hb10) g2) _ _ _ _ _ _ _ _ _ _ _ _ (hd10.below g2)).mono ?_
    rintro e w11 ⟨rfl, hb11⟩
    refine ⟨hb11, ?_⟩
    try simp only [Act.put, List.setIfInBounds_toArray, List.set_cons_zero, List.set_cons_succ]
    refine wpAnyG_take (fuel := 0) [false, false, false, false, true] (by kernel_rfl) (by kernel_rfl) (by rfl) (by kernel_rfl) ?_
    apply Exists.intro
    refine ⟨fun x => ?_, ?_⟩
    · skip
      simp only [pickL]
      repeat (go_big_quiet_step (fail))
      exact wpQuiet_nil rfl
    refine wpAnyG_done (by kernel_rfl) (fun x => ?_) _
    have hbx := x.below
    generalize x.val = w12 at *
    have HB12 : Hid (Below w9.heap.size w9 w12) := nx (nx g1 hb10) (nx (nx g2 hb11) hbx)
    clear g1 hb10 g2 hb11 hbx hd10
    go_wp2_with fail
    refine wp_region_grow (by kernel_rfl) ?_
    refine wpAnyG_take (fuel := 3) [true, true] (by kernel_rfl) (by kernel_rfl) (by rfl) (by kernel_rfl) ?_
    apply Exists.intro
    refine ⟨fun x => ?_, ?_⟩
    · have y0 := fun (y : BelowT x.val) => (HPB.out y.val (nx HB12.out (nx x.below y.below))).1.2.1
      have y1 := fun (y : BelowT x.val) => (HPB.out y.val (nx HB12.out (nx x.below y.below))).1.2.2.1
      have y2 := fun (y : BelowT x.val) => (HPB.out y.val (nx HB12.out (nx x.below y.below))).1.2.2.2.1
      have y3 := fun (y : BelowT x.val) => (HPB.out y.val (nx HB12.out (nx x.below y.below))).1.2.2.2.2.1
      have y4 := fun (y : BelowT x.val) => (HPB.out y.val (nx HB12.out (nx x.below y.below))).1.2.2.2.2.2.1
      have y5 := fun (y : BelowT x.val) => (HPB.out y.val (nx HB12.out (nx x.below y.below))).1.2.2.2.2.2.2
      have z0 := fun (y : BelowT x.val) => (HPB.out y.val (nx HB12.out (nx x.below y.below))).2.2.1
      have z1 := fun (y : BelowT x.val) => (HPB.out y.val (nx HB12.out (nx x.below y.below))).2.2.2.1
      have z2 := fun (y : BelowT x.val) => (HPB.out y.val (nx HB12.out (nx x.below y.below))).2.2.2.2.1
      have z3 := fun (y : BelowT x.val) => (HPB.out y.val (nx HB12.out (nx x.below y.below))).2.2.2.2.2.1
      have z4 := fun (y : BelowT x.val) => (HPB.out y.val (nx HB12.out (nx x.below y.below))).2.2.2.2.2.2.1
      have z5 := fun (y : BelowT x.val) => (HPB.out y.val (nx HB12.out (nx x.below y.below))).2.2.2.2.2.2.2
      simp only [pickL]
      repeat (go_big_quiet_step (fail))
      exact wpQuiet_nil rfl
    refine wpAnyG_one (m := 2) (by kernel_rfl) (fun ua g1 => ?_)
    refine wpOp_at (o := _) (by rfl) (by rfl) ?_
    go_simp
    refine (HT2.out _ (nx HB9.out (nx HB12.out g1))).mono ?_
    rintro e w13 ⟨uv13, hhv13, sv13, av13, nv13, cv13, bv13, kv13, dv13, ev13, lnv13, qv13, rfl, hd13, hb13⟩
    refine ⟨hb13, ?_⟩
    try simp only [Act.put, List.setIfInBounds_toArray, List.set_cons_zero, List.set_cons_succ]
    refine wpAnyG_one (m := 3) (by kernel_rfl) (fun ub g2 => ?_)
    refine wpOp_at (o := _) (by rfl) (by rfl) ?_
    go_simp
    refine (HEQ2.out _ (nx HB12.out (nx (nx g1 hb13) g2)) _ _ _ _ _ _ _ _ _ _ _ _ (hd13.below g2)).mono ?_
    rintro e w14 ⟨rfl, hb14⟩
    refine ⟨hb14, ?_⟩
    try simp only [Act.put, List.setIfInBounds_toArray, List.set_cons_zero, List.set_cons_succ]
    refine wpAnyG_take (fuel := 0) [false, false, false, false, true] (by kernel_rfl) (by kernel_rfl) (by rfl) (by kernel_rfl) ?_
    apply Exists.intro
    refine ⟨fun x => ?_, ?_⟩
    · skip
      simp only [pickL]
      repeat (go_big_quiet_step (fail))
      exact wpQuiet_nil rfl
    refine wpAnyG_done (by kernel_rfl) (fun x => ?_) _
    have hbx := x.below
    generalize x.val = w15 at *
    have HB15 : Hid (Below w9.heap.size w9 w15) := nx HB12.out (nx (nx g1 hb13) (nx (nx g2 hb14) hbx))
    clear g1 hb13 g2 hb14 hbx hd13
    go_wp2
    go_ret
    exact ⟨rfl, hg1 ▸ nx HB2.out (nx HB9.out HB15.out)⟩
set_option maxRecDepth 100000 in
theorem fnExactSessionSame_lifted (os : Os) (started : os.Started) (H : Type) (enc : TypeId × Value → H) :
    ReturnsInHanded {} Try.checked os 4 .any (Rows.fnExactSessionSameSpec.pre6 enc Try.prog Try.f4 Rows.fnExactSessionSameRow.domain false) (Rows.fnExactSessionSameSpec.post enc Try.prog Try.f4 false true false false) := by
  refine returnsInHanded_of_change (C := Try.checked) own started (by kernel_rfl) Try.func4
    (ChangeSpec.witness6 (enc := enc) (C := Try.checked) false ⟨#[], #[.agg #[.int .i64 0, .string ByteArray.empty, .string ByteArray.empty, .slice none 0 0, .slice none 0 0, .slice none 0 0], .agg #[.int .i64 0, .string ByteArray.empty, .string ByteArray.empty, .slice none 0 0, .slice none 0 0, .slice none 0 0]], []⟩ 8 (by kernel_rfl) (by kernel_rfl) (by kernel_rfl) (by kernel_rfl)) ?_
  intro W base args ds gs before hval0 hW hcnd _
  have hval : ∀ (j : Nat) t v, Try.f4.params[j]? = some t → args[j]? = some v → Value.okWide Try.prog W .any base t v := hval0
  have hW' := hW
  obtain ⟨p, q, hA0, hV, rfl, hfz, hnd⟩ := hW
  have hA : DataW.TrodAll enc Try.prog W 0 (fun _ => true) true Try.f4.params.toList args.toList ds p := hA0
  rw [Try.params4] at hA hval
  obtain ⟨v0, vs0, d0, ds0, p0, q0, hargs, rfl, rfl, h0, r0⟩ := trodAll_cons hA
  obtain ⟨v1, vs1, d1, ds1, p1, q1, rfl, rfl, rfl, h1, r1⟩ := trodAll_cons r0
  obtain ⟨rfl, rfl, rfl⟩ := trodAll_nil r1
  obtain rfl : args = #[v0, v1] := by cases args; simp_all
  obtain ⟨rfl, rfl⟩ := trodVars_none hV
  have k0 := h0
  have lt0 : ∀ x ∈ p0, x.block < W.heap.size := by obtain ⟨m, hm⟩ := k0; exact DataW.trod_lt m _ _ _ hm
  obtain ⟨ml0, sn0, rfl, w0⟩ := open_ssnV (hval 0 32 v0 rfl rfl) h0
  have k1 := h1
  have lt1 : ∀ x ∈ p1, x.block < W.heap.size := by obtain ⟨m, hm⟩ := k1; exact DataW.trod_lt m _ _ _ hm
  obtain ⟨ml1, sn1, rfl, w1⟩ := open_ssnV (hval 1 32 v1 rfl rfl) h1
  clear hA0 hval0
  refine (fnExactSessionSame_walk ml0 sn0 ml1 sn1 W w0 w1).mono fun e W' ⟨he, bel⟩ => ?_
  subst he
  exact ⟨_, rfl, _, _, _, [], _, [], hW', trodAll_mk1 (shut_bool Try.underlying4 _), (trodAll_cons_mk (Below.trod laidOut (by kernel_rfl) (of_decide_eq_true (by kernel_rfl)) k0 bel lt0) (trodAll_cons_mk (Below.trod laidOut (by kernel_rfl) (of_decide_eq_true (by kernel_rfl)) k1 bel lt1) trodAll_mk0)), rfl, bel.frame _, fun h => by cases h⟩
/-- FnExactSessionSame: THE STATEMENT. -/
theorem fnExactSessionSame_holds : Rows.FnExactSessionSameSaid :=
  OpenClaim.holds_of_wide 4 Try.f4 rfl rfl rfl rfl rfl rfl rfl ⟨rfl, rfl, rfl, rfl, rfl⟩ rfl rfl rfl rfl rfl (by kernel_rfl) Try.func4 (by kernel_rfl)
    (of_decide_eq_true (by kernel_rfl)) (by unfold Func.isWrapper; first | (rw [if_pos (by decide +kernel)]; kernel_rfl) | (rw [if_neg (by decide +kernel)]; exact ⟨rfl, rfl⟩))
    (fun os started H enc _ => fnExactSessionSame_lifted os started H enc)
end Go.Proofs.Ytdddmclhafbfoab
