/-
  The exact law of valid sessions: its walk. For every input of the law: it returns true, and the input reads as it did. Conditions: none but the statement's own.
-/
import Derived.Test.YtdddmclhafbfoabDoorSsnO
import Derived.Test.YtdddmclhafbfoabDoorZip
namespace Go.Proofs.YtdddmclhafbfoabDoor
open Go.ChangeShapes Go.WideShapes Go.ChangeAt Go.RowKit
open Go.ChangeMaps (open_string shut_string)

def SsRetV (S : Ssn) (w : World) (e : Ending) (w' : World) : Prop := ∃ (u : Int) (hh s : ByteArray) (a : Option Addr) (n c : Nat) (b : Option Addr) (k d : Nat) (e' : Option Addr) (r q : Nat), e = .returned (.agg #[.int .i64 u, .string hh, .string s, .slice a n c, .slice b k d, .slice e' r q]) ∧ RdZ 1048576 w' ⟨u, hh, s, a, n, c, b, k, d, e', r, q⟩ S ∧ Below w.heap.size w w'
theorem ssRet_v {S : Ssn} {w : World} {e : Ending} {w' : World} (h : SsRet S w e w') : SsRetV S w e w' := by
  obtain ⟨⟨u, hh, s, a, n, c, b, k, d, e', r, q⟩, rfl, hz, hb⟩ := h
  exact ⟨u, hh, s, a, n, c, b, k, d, e', r, q, rfl, hz, hb⟩
set_option maxRecDepth 100000 in
set_option maxHeartbeats 8000000 in
theorem fnExactSessionValid_walk (x : SsV) (m1 : Ssn) (w : World) (en : Env w) (hx : RdZ maxLen w x m1) :
    Calls Tryd.prog 5 #[ssVal x] w fun e w' => e = .returned (.bool true) ∧ Below w.heap.size w w' := by
  obtain ⟨u1, hh1, s1, a1, n1, c1, b1, k1, d1, e1, ln1, q1⟩ := x
  show Calls Tryd.prog 5 #[.agg #[.int .i64 u1, .string hh1, .string s1, .slice a1 n1 c1, .slice b1 k1 d1, .slice e1 ln1 q1]] w _
  have hb0 : Below w.heap.size w (w.alloc (.cells #[.int .i64 u1, .string hh1, .string s1, .slice a1 n1 c1, .slice b1 k1 d1, .slice e1 ln1 q1] 36)) := (Below.refl _ _).alloc (Nat.le_refl _) _
  have HP1 := Lib.hid (SK6.new w (.int .i64 u1) (.string hh1) (.string s1) (.slice a1 n1 c1) (.slice b1 k1 d1) (.slice e1 ln1 q1) 36)
  have HR1 := Lib.hid (hx.below hb0)
  have HT0 := Lib.hid (en.below hb0)
  clear hx en
  go_enter Tryd.func5, Tryd.ntmps5
  go_wp2_with fail
  generalize hW : w.alloc (.cells #[.int .i64 u1, .string hh1, .string s1, .slice a1 n1 c1, .slice b1 k1 d1, .slice e1 ln1 q1] 36) = W0 at *
  refine (szSession_any ⟨u1, hh1, s1, a1, n1, c1, b1, k1, d1, e1, ln1, q1⟩ m1 1048576 _ HR1.out (by omega) (by omega)).mono ?_
  rintro e w1 ⟨r, rfl, hr1, hr2, hsz, hb1⟩
  have HB1 := Lib.hid (nx hb0 hb1)
  have HP11 := Lib.hid (HP1.out.below hb1)
  have HTB := Lib.hid (HT0.out.below hb1)
  have HR11 := Lib.hid (HR1.out.below hb1)
  have HSZ := Lib.hid hsz
  clear hsz hb0 hb1 hW HP1 HR1 HT0
  by_cases hneg : r < 0
  · go_wp2
    go_ret
    exact ⟨rfl, HB1.out⟩
  have HSM : Hid (SmallS 1048576 m1) := HSZ.out (by omega)
  have HT1 : Hid (∀ u, Below w1.heap.size w1 u → Calls Tryd.prog 15 #[.agg #[.int .i64 u1, .string hh1, .string s1, .slice a1 n1 c1, .slice b1 k1 d1, .slice e1 ln1 q1]] u (SsRetV m1 u)) := fun u h => (toSession_any ⟨u1, hh1, s1, a1, n1, c1, b1, k1, d1, e1, ln1, q1⟩ m1 u ((HR11.out.below h).up HSM.out) HSM.out).mono fun _ _ h => ssRet_v h
  have HVS : Hid (∀ u (uX : Int) (hhX sX : ByteArray) (aX : Option Addr) (nX cX : Nat) (bX : Option Addr) (kX dX : Nat) (eX : Option Addr) (lnX qX : Nat), RdZ 1048576 u ⟨uX, hhX, sX, aX, nX, cX, bX, kX, dX, eX, lnX, qX⟩ m1 → Calls Tryd.prog 14 #[.agg #[.int .i64 uX, .string hhX, .string sX, .slice aX nX cX, .slice bX kX dX, .slice eX lnX qX]] u fun e w' => e = .returned (.bool (isSsn m1)) ∧ Below u.heap.size u w') := fun u uX hhX sX aX nX cX bX kX dX eX lnX qX h => sessionValidS_any 1048576 ⟨uX, hhX, sX, aX, nX, cX, bX, kX, dX, eX, lnX, qX⟩ m1 u h (by omega)
  have HVI : Hid (∀ u (uX : Int) (hhX sX : ByteArray) (aX : Option Addr) (nX cX : Nat) (bX : Option Addr) (kX dX : Nat) (eX : Option Addr) (lnX qX : Nat), Env u → RdZ 1048576 u ⟨uX, hhX, sX, aX, nX, cX, bX, kX, dX, eX, lnX, qX⟩ m1 → Calls Tryd.prog 16 #[.agg #[.int .i64 uX, .string hhX, .string sX, .slice aX nX cX, .slice bX kX dX, .slice eX lnX qX]] u fun e w' => e = .returned (.bool (isSsn m1)) ∧ Below u.heap.size u w') := fun u uX hhX sX aX nX cX bX kX dX eX lnX qX t h => sessionValid_any 1048576 ⟨uX, hhX, sX, aX, nX, cX, bX, kX, dX, eX, lnX, qX⟩ m1 u t h (by omega)
  have HEQ : Hid (∀ u (uX : Int) (hhX sX : ByteArray) (aX : Option Addr) (nX cX : Nat) (bX : Option Addr) (kX dX : Nat) (eX : Option Addr) (lnX qX : Nat) (uY : Int) (hhY sY : ByteArray) (aY : Option Addr) (nY cY : Nat) (bY : Option Addr) (kY dY : Nat) (eY : Option Addr) (lnY qY : Nat), RdZ 1048576 u ⟨uX, hhX, sX, aX, nX, cX, bX, kX, dX, eX, lnX, qX⟩ m1 → RdZ 1048576 u ⟨uY, hhY, sY, aY, nY, cY, bY, kY, dY, eY, lnY, qY⟩ m1 → Calls Tryd.prog 17 #[.agg #[.int .i64 uX, .string hhX, .string sX, .slice aX nX cX, .slice bX kX dX, .slice eX lnX qX], .agg #[.int .i64 uY, .string hhY, .string sY, .slice aY nY cY, .slice bY kY dY, .slice eY lnY qY]] u fun e w' => e = .returned (.bool true) ∧ Below u.heap.size u w') := fun u uX hhX sX aX nX cX bX kX dX eX lnX qX uY hhY sY aY nY cY bY kY dY eY lnY qY h h2 => by
    have := eqSession_any 1048576 ⟨uX, hhX, sX, aX, nX, cX, bX, kX, dX, eX, lnX, qX⟩ ⟨uY, hhY, sY, aY, nY, cY, bY, kY, dY, eY, lnY, qY⟩ m1 m1 u h h2 (by unfold maxLen; omega)
    rw [decide_eq_true (rfl : m1 = m1)] at this; exact this
  clear HR11 HSM HSZ hr1 hr2
  generalize isSsn m1 = Q at *
  have hne : (Q != Q) = false := by simp
  generalize hg1 : w.heap.size = G1 at HP11 ⊢
  have HG1 := Lib.hid hg1
  clear hg1
  obtain ⟨y0, y1, y2, y3, y4, y5⟩ := HP11.out
  go_wp2_with fail
  refine (HT1.out _ (Below.refl _ _)).mono ?_
  rintro e w2 ⟨uv2, hhv2, sv2, av2, nv2, cv2, bv2, kv2, dv2, ev2, lnv2, qv2, rfl, hd2, hb2⟩
  have HD2 := Lib.hid hd2
  clear hd2
  go_wp2_with fail
  refine (HVS.out _ _ _ _ _ _ _ _ _ _ _ _ _ HD2.out).mono ?_
  rintro e w3 ⟨rfl, hb3⟩
  have hb13 := nx hb2 hb3
  clear y0 y1 y2 y3 y4 y5 HD2 hb2 hb3
  obtain ⟨y0, y1, y2, y3, y4, y5⟩ := HP11.out.below hb13
  go_wp2_with fail
  refine (HT1.out _ hb13).mono ?_
  rintro e w4 ⟨uv4, hhv4, sv4, av4, nv4, cv4, bv4, kv4, dv4, ev4, lnv4, qv4, rfl, hd4, hb4⟩
  have hb14 := nx hb13 hb4
  have hA4 : Below w4.heap.size w4 (w4.alloc (.cells #[.int .i64 uv4, .string hhv4, .string sv4, .slice av4 nv4 cv4, .slice bv4 kv4 dv4, .slice ev4 lnv4 qv4] 41)) := (Below.refl _ _).alloc (Nat.le_refl _) _
  have HX5 := Lib.hid (SK6.new w4 (.int .i64 uv4) (.string hhv4) (.string sv4) (.slice av4 nv4 cv4) (.slice bv4 kv4 dv4) (.slice ev4 lnv4 qv4) 41)
  have HD5 := Lib.hid (hd4.below hA4)
  have hb15 := nx hb14 hA4
  clear y0 y1 y2 y3 y4 y5 hd4
  obtain ⟨y0, y1, y2, y3, y4, y5⟩ := HP11.out.below hb15
  go_wp2_with fail
  refine (HVI.out _ _ _ _ _ _ _ _ _ _ _ _ _ (HTB.out.below hb15) HD5.out).mono ?_
  rintro e w9 ⟨rfl, hb9⟩
  have HB9 : Hid (Below w1.heap.size w1 w9) := nx hb15 hb9
  have HD9 := Lib.hid (HD5.out.below hb9)
  have HPB : Hid (∀ u, Below w9.heap.size w9 u → SK6 u G1 (.int .i64 u1) (.string hh1) (.string s1) (.slice a1 n1 c1) (.slice b1 k1 d1) (.slice e1 ln1 q1) ∧ SK6 u w4.heap.size (.int .i64 uv4) (.string hhv4) (.string sv4) (.slice av4 nv4 cv4) (.slice bv4 kv4 dv4) (.slice ev4 lnv4 qv4)) := fun u h => ⟨HP11.out.below (nx HB9.out h), HX5.out.below (nx hb9 h)⟩
  clear y0 y1 y2 y3 y4 y5 hb9 hb15 hA4 hb14 hb4 hb13
  go_wp2_with fail
  refine wp_region_grow (by kernel_rfl) ?_
  refine wpAnyG_take (fuel := 3) [true, true] (by kernel_rfl) (by kernel_rfl) (by rfl) (by kernel_rfl) ?_
  apply Exists.intro
  refine ⟨fun x => ?_, ?_⟩
  · have y0 := fun (y : BelowT x.val) => (HPB.out y.val (nx x.below y.below)).1.1
    have y1 := fun (y : BelowT x.val) => (HPB.out y.val (nx x.below y.below)).1.2.1
    have y2 := fun (y : BelowT x.val) => (HPB.out y.val (nx x.below y.below)).1.2.2.1
    have y3 := fun (y : BelowT x.val) => (HPB.out y.val (nx x.below y.below)).1.2.2.2.1
    have y4 := fun (y : BelowT x.val) => (HPB.out y.val (nx x.below y.below)).1.2.2.2.2.1
    have y5 := fun (y : BelowT x.val) => (HPB.out y.val (nx x.below y.below)).1.2.2.2.2.2
    have z0 := fun (y : BelowT x.val) => (HPB.out y.val (nx x.below y.below)).2.1
    have z1 := fun (y : BelowT x.val) => (HPB.out y.val (nx x.below y.below)).2.2.1
    have z2 := fun (y : BelowT x.val) => (HPB.out y.val (nx x.below y.below)).2.2.2.1
    have z3 := fun (y : BelowT x.val) => (HPB.out y.val (nx x.below y.below)).2.2.2.2.1
    have z4 := fun (y : BelowT x.val) => (HPB.out y.val (nx x.below y.below)).2.2.2.2.2.1
    have z5 := fun (y : BelowT x.val) => (HPB.out y.val (nx x.below y.below)).2.2.2.2.2.2
    simp only [pickL]
    repeat (go_big_quiet_step (fail))
    exact wpQuiet_nil rfl
  refine wpAnyG_one (m := 2) (by kernel_rfl) (fun ua ga => ?_)
  refine wpOp_at (o := _) (by rfl) (by rfl) ?_
  go_simp
  refine (HT1.out _ (nx HB9.out ga)).mono ?_
  rintro e w10 ⟨uv10, hhv10, sv10, av10, nv10, cv10, bv10, kv10, dv10, ev10, lnv10, qv10, rfl, hd10, hb10⟩
  refine ⟨hb10, ?_⟩
  try simp only [Act.put, List.setIfInBounds_toArray, List.set_cons_zero, List.set_cons_succ]
  refine wpAnyG_one (m := 3) (by kernel_rfl) (fun ub gb => ?_)
  refine wpOp_at (o := _) (by rfl) (by rfl) ?_
  go_simp
  refine (HEQ.out _ _ _ _ _ _ _ _ _ _ _ _ _ _ _ _ _ _ _ _ _ _ _ _ _ (HD9.out.below (nx (nx ga hb10) gb)) (hd10.below gb)).mono ?_
  rintro e w11 ⟨rfl, hb11⟩
  refine ⟨hb11, ?_⟩
  try simp only [Act.put, List.setIfInBounds_toArray, List.set_cons_zero, List.set_cons_succ]
  refine wpAnyG_take (fuel := 0) [false, false, false, false, true] (by kernel_rfl) (by kernel_rfl) (by rfl) (by kernel_rfl) ?_
  apply Exists.intro
  refine ⟨fun x => ?_, ?_⟩
  · skip
    simp only [pickL]
    repeat (go_big_quiet_step (fail))
    exact wpQuiet_nil rfl
  refine wpAnyG_done (by kernel_rfl) (fun x => ?_) _
  have hbx := x.below
  generalize x.val = w12 at *
  have HB12 : Hid (Below w9.heap.size w9 w12) := nx (nx ga hb10) (nx (nx gb hb11) hbx)
  clear ga hb10 gb hb11 hbx hd10
  go_wp2
  go_ret
  exact ⟨rfl, HG1.out ▸ nx HB1.out (nx HB9.out HB12.out)⟩
end Go.Proofs.YtdddmclhafbfoabDoor
