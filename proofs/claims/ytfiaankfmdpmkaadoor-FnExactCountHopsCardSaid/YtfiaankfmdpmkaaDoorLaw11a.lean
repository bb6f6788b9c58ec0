/-
  The exact law of counted hops: its walk. For every input of the law: it returns true, and the input reads as it did. Conditions: none but the statement's own.
-/
import Derived.Test.YtfiaankfmdpmkaaDoorMalU
import Derived.Test.YtfiaankfmdpmkaaDoorZip
namespace Go.Proofs.YtfiaankfmdpmkaaDoor
open Go.ChangeShapes Go.WideShapes Go.ChangeAt Go.RowKit
open Go.ChangeMaps (open_string shut_string)

set_option maxRecDepth 100000 in
set_option maxHeartbeats 4000000 in
theorem fnExactCountHops_walk (x : MlA) (w : World) (en : Env w) (hx : RdM maxLen w x) :
    Calls Tryd.prog 5 #[mlV x] w fun e w' => e = .returned (.bool true) ∧ Below w.heap.size w w' := by
  obtain ⟨s1, a1, n1, c1, b1, k1, d1, m1, hv1, hr1⟩ : ∃ s a n c b k d m, mlV x = .agg #[.string s, .slice a n c, .slice b k d] ∧ RdV maxLen w s a n c b k d m := ⟨_, _, _, _, _, _, _, x.m, rfl, RdV.of hx⟩
  rw [hv1]
  have hb0 : Below w.heap.size w (w.alloc (.cells #[.string s1, .slice a1 n1 c1, .slice b1 k1 d1] 32)) := (Below.refl _ _).alloc (Nat.le_refl _) _
  have HP1 := Lib.hid (MK3.new w (.string s1) (.slice a1 n1 c1) (.slice b1 k1 d1) 32)
  have HG0 := Lib.hid (hr1.below hb0)
  have HT0 := Lib.hid (en.below hb0)
  have HSZ := Lib.hid (szMail_v HG0.out (t := 1048576) (by omega) (by omega))
  clear hr1 en hx hv1
  generalize hW : w.alloc (.cells #[.string s1, .slice a1 n1 c1, .slice b1 k1 d1] 32) = W0 at *
  have HW := Lib.hid hW
  have HRT : Hid (∀ w1 u, SmallM 1048576 m1 → Below W0.heap.size W0 w1 → Below w1.heap.size w1 u → RdV 1048576 u s1 a1 n1 c1 b1 k1 d1 m1) := fun w1 u ho hb1 h => ((HG0.out.below hb1).below h).up ho
  have HT1 : Hid (∀ u, RdV 1048576 u s1 a1 n1 c1 b1 k1 d1 m1 → Calls Tryd.prog 17 #[.agg #[.string s1, .slice a1 n1 c1, .slice b1 k1 d1]] u (MalRetV m1 u)) := fun u h => toMail_v h
  have HVS : Hid (∀ u (s : ByteArray) (a : Option Addr) (n c : Nat) (b : Option Addr) (k d : Nat), RdV 1048576 u s a n c b k d m1 → Calls Tryd.prog 16 #[.agg #[.string s, .slice a n c, .slice b k d]] u fun e w' => e = .returned (.tuple #[.int .i64 (hopsM m1 : Nat), .bool (isMail m1)]) ∧ Below u.heap.size u w') := fun u s a n c b k d h => h.calls [] (fun x hx hr => hx ▸ countHopsS_any 1048576 x u hr (by omega))
  have HVI : Hid (∀ u (s : ByteArray) (a : Option Addr) (n c : Nat) (b : Option Addr) (k d : Nat), Env u → RdV 1048576 u s a n c b k d m1 → Calls Tryd.prog 18 #[.agg #[.string s, .slice a n c, .slice b k d]] u fun e w' => e = .returned (.tuple #[.int .i64 (hopsM m1 : Nat), .bool (isMail m1)]) ∧ Below u.heap.size u w') := fun u s a n c b k d t h => h.calls [] (fun x hx hr => hx ▸ countHops_any 1048576 x u t hr (by omega))
  have HEQ : Hid (∀ u (s : ByteArray) (a : Option Addr) (n c : Nat) (b : Option Addr) (k d : Nat) (s' : ByteArray) (a' : Option Addr) (n' c' : Nat) (b' : Option Addr) (k' d' : Nat), RdV 1048576 u s a n c b k d m1 → RdV 1048576 u s' a' n' c' b' k' d' m1 → Calls Tryd.prog 19 #[.agg #[.string s, .slice a n c, .slice b k d], .agg #[.string s', .slice a' n' c', .slice b' k' d']] u fun e w' => e = .returned (.bool true) ∧ Below u.heap.size u w') := fun u _ _ _ _ _ _ _ _ _ _ _ _ _ _ h h2 => eqMail_v h h2
  clear HG0
  generalize isMail m1 = q at *
  generalize ((hopsM m1 : Nat) : Int) = K at *
  have hne2 : (K != K) = false := by simp
  have hne : (q != q) = false := by simp
  clear hW
  go_enter Tryd.func5, Tryd.ntmps5
  go_wp2_with fail
  rw [HW.out]
  refine HSZ.out.mono ?_
  rintro e w1 ⟨r, rfl, hr1, hr2, hok, hb1⟩
  have HB1 := Lib.hid (nx hb0 hb1)
  have HP11 := Lib.hid (HP1.out.below hb1)
  have HTB := Lib.hid (HT0.out.below hb1)
  have HOK := Lib.hid hok
  have HBB := Lib.hid hb1
  clear hok hb0 hb1 HW
  by_cases hneg : r < 0
  · go_wp2
    go_ret
    exact ⟨rfl, HB1.out⟩
  have HR1 := Lib.hid (fun u h => HRT.out w1 u (HOK.out (by omega)) HBB.out h)
  clear HRT HOK hr1 hr2
  generalize hg1 : w.heap.size = G1 at HP11 ⊢
  have HG1 := Lib.hid hg1
  clear hg1
  obtain ⟨y0, y1, y2⟩ := HP11.out
  go_wp2_with fail
  refine (HT1.out _ (HR1.out _ (Below.refl _ _))).mono ?_
  rintro e w2 ⟨t1, e1, f1, g1, h1, i1, j1, rfl, hd2, hb2⟩
  have HD2 := Lib.hid hd2
  clear hd2
  go_wp2_with fail
  refine (HVS.out _ _ _ _ _ _ _ _ HD2.out).mono ?_
  rintro e w3 ⟨rfl, hb3⟩
  have hb13 := nx hb2 hb3
  clear y0 y1 y2 HD2 hb2 hb3
  obtain ⟨y0, y1, y2⟩ := HP11.out.below hb13
  go_wp2_with fail
  refine (HT1.out _ (HR1.out _ hb13)).mono ?_
  rintro e w4 ⟨t4, e4, f4, g4, h4, i4, j4, rfl, hd4, hb4⟩
  have hb14 := nx hb13 hb4
  have hA4 : Below w4.heap.size w4 (w4.alloc (.cells #[.string t4, .slice e4 f4 g4, .slice h4 i4 j4] 36)) := (Below.refl _ _).alloc (Nat.le_refl _) _
  have HX5 := Lib.hid (MK3.new w4 (.string t4) (.slice e4 f4 g4) (.slice h4 i4 j4) 36)
  have HD5 := Lib.hid (hd4.below hA4)
  have hb15 := nx hb14 hA4
  clear y0 y1 y2 hd4
  obtain ⟨y0, y1, y2⟩ := HP11.out.below hb15
  go_wp2_with fail
  refine (HVI.out _ _ _ _ _ _ _ _ (HTB.out.below hb15) HD5.out).mono ?_
  rintro e w9 ⟨rfl, hb9⟩
  have HB9 : Hid (Below w1.heap.size w1 w9) := nx hb15 hb9
  have HD9 := Lib.hid (HD5.out.below hb9)
  have HPB : Hid (∀ u, Below w9.heap.size w9 u → MK3 u G1 (.string s1) (.slice a1 n1 c1) (.slice b1 k1 d1) ∧ MK3 u w4.heap.size (.string t4) (.slice e4 f4 g4) (.slice h4 i4 j4)) := fun u h => ⟨HP11.out.below (nx HB9.out h), HX5.out.below (nx hb9 h)⟩
  clear y0 y1 y2 hb9 hb15 hA4 hb14 hb4 hb13
  go_wp2_with fail
  refine wp_region_grow (by kernel_rfl) ?_
  refine wpAnyG_take (fuel := 3) [true, true] (by kernel_rfl) (by kernel_rfl) (by rfl) (by kernel_rfl) ?_
  apply Exists.intro
  refine ⟨fun x => ?_, ?_⟩
  · have y0 := fun (y : BelowT x.val) => (HPB.out y.val (nx x.below y.below)).1.1
    have y1 := fun (y : BelowT x.val) => (HPB.out y.val (nx x.below y.below)).1.2.1
    have y2 := fun (y : BelowT x.val) => (HPB.out y.val (nx x.below y.below)).1.2.2
    have z0 := fun (y : BelowT x.val) => (HPB.out y.val (nx x.below y.below)).2.1
    have z1 := fun (y : BelowT x.val) => (HPB.out y.val (nx x.below y.below)).2.2.1
    have z2 := fun (y : BelowT x.val) => (HPB.out y.val (nx x.below y.below)).2.2.2
    simp only [pickL]
    repeat (go_big_quiet_step (fail))
    exact wpQuiet_nil rfl
  refine wpAnyG_one (m := 2) (by kernel_rfl) (fun u1 g1 => ?_)
  refine wpOp_at (o := _) (by rfl) (by rfl) ?_
  go_simp
  refine (HT1.out _ (HR1.out _ (nx HB9.out g1))).mono ?_
  rintro e w10 ⟨t10, e10, f10, g10, h10, i10, j10, rfl, hd10, hb10⟩
  refine ⟨hb10, ?_⟩
  try simp only [Act.put, List.setIfInBounds_toArray, List.set_cons_zero, List.set_cons_succ]
  refine wpAnyG_one (m := 3) (by kernel_rfl) (fun u2 g2 => ?_)
  refine wpOp_at (o := _) (by rfl) (by rfl) ?_
  go_simp
  refine (HEQ.out _ _ _ _ _ _ _ _ _ _ _ _ _ _ _ (HD9.out.below (nx (nx g1 hb10) g2)) (hd10.below g2)).mono ?_
  rintro e w11 ⟨rfl, hb11⟩
  refine ⟨hb11, ?_⟩
  try simp only [Act.put, List.setIfInBounds_toArray, List.set_cons_zero, List.set_cons_succ]
  refine wpAnyG_take (fuel := 0) [false, false, false, false, true] (by kernel_rfl) (by kernel_rfl) (by rfl) (by kernel_rfl) ?_
  apply Exists.intro
  refine ⟨fun x => ?_, ?_⟩
  · skip
    simp only [pickL]
    repeat (go_big_quiet_step (fail))
    exact wpQuiet_nil rfl
  refine wpAnyG_done (by kernel_rfl) (fun x => ?_) _
  have hbx := x.below
  generalize x.val = w12 at *
  have HB12 : Hid (Below w9.heap.size w9 w12) := nx (nx g1 hb10) (nx (nx g2 hb11) hbx)
  clear g1 hb10 g2 hb11 hbx hd10
  go_wp2
  go_ret
  exact ⟨rfl, HG1.out ▸ nx HB1.out (nx HB9.out HB12.out)⟩
end Go.Proofs.YtfiaankfmdpmkaaDoor
