/-
  The exact law of chapter 8 on the bytes of a body: its walk. For every input of the law: it returns true, and the input reads as it did. Conditions: none but the statement's own.
-/
import Derived.Test.YtcdmjckkencgoaaGreatDoorZip1
import Derived.Test.YtcdmjckkencgoaaGreatDoorZip3
namespace Go.Proofs.YtcdmjckkencgoaaGreatDoor
open Go.ChangeShapes Go.WideShapes Go.ChangeAt Go.RowKit
open Go.ChangeMaps (open_string shut_string)

set_option maxRecDepth 100000 in
set_option maxHeartbeats 2000000 in
theorem fnExactBodyBytes_walk (f : Nat) (v : Value) (p : Prt) (w : World) (tab : CTab w ∧ Tab w) (hr : RdG maxLen 0 w f v p) :
    Calls Tryz.prog 6 #[v] w fun e w' => e = .returned (.bool true) ∧ Below w.heap.size w w' := by
  obtain ⟨f', a1, c1, a2, c2, a3, c3, hff, rfl, _⟩ := hr.open
  have hb0 : Below w.heap.size w (w.alloc (.cells #[.slice a1 p.fields.length c1, .slice a2 p.body.length c2, .slice a3 p.kids.length c3] 26)) := (Below.refl _ _).alloc (Nat.le_refl _) _
  have HP1 := Lib.hid (KK3.new w (.slice a1 p.fields.length c1) (.slice a2 p.body.length c2) (.slice a3 p.kids.length c3) 26)
  have HG0 := Lib.hid (RdG.below hb0 f hr)
  have HT0 := Lib.hid (And.intro (tab.1.below hb0) (tab.2.below hb0))
  have HSZ := Lib.hid (sz_all f _ p 1048576 _ HG0.out (by omega) (by omega))
  clear hr hff tab
  generalize hW : w.alloc (.cells #[.slice a1 p.fields.length c1, .slice a2 p.body.length c2, .slice a3 p.kids.length c3] 26) = W0 at *
  have HW := Lib.hid hW
  have HRT : Hid (∀ w1 u, okT f p → Below W0.heap.size W0 w1 → Below w1.heap.size w1 u → RdT u f (.agg #[.slice a1 p.fields.length c1, .slice a2 p.body.length c2, .slice a3 p.kids.length c3]) p) := fun w1 u ho hb1 h => RdG.plain f (RdG.below h f (RdG.small f (RdG.below hb1 f HG0.out) ho))
  have HT1 : Hid (∀ u, RdT u f (.agg #[.slice a1 p.fields.length c1, .slice a2 p.body.length c2, .slice a3 p.kids.length c3]) p → Calls Tryz.prog 9 #[.agg #[.slice a1 p.fields.length c1, .slice a2 p.body.length c2, .slice a3 p.kids.length c3]] u fun e w' =>
      ∃ (b1 : Option Addr) (d1 : Nat) (b2 : Option Addr) (d2 : Nat) (b3 : Option Addr) (d3 : Nat), e = .returned (.agg #[.slice b1 p.fields.length d1, .slice b2 p.body.length d2, .slice b3 p.kids.length d3]) ∧ RdT w' f (.agg #[.slice b1 p.fields.length d1, .slice b2 p.body.length d2, .slice b3 p.kids.length d3]) p ∧ Below u.heap.size u w') := fun u h =>
    (to_all f _ p u h).mono fun e w' ⟨v', he, hg, hb⟩ => by
      obtain ⟨_, b1, d1, b2, d2, b3, d3, _, rfl, _⟩ := hg.open
      exact ⟨b1, d1, b2, d2, b3, d3, he, RdG.plain f hg, hb⟩
  have HVS : Hid (∀ u v, RdT u f v p → Calls Tryz.prog 26 #[v] u fun e w' => e = .returned (.tuple #[.string (str ((bytesT p).getD [])), .bool (bytesT p).isSome]) ∧ Below u.heap.size u w') := fun u v h => bodyBytesS_any f v p u h
  have HVI : Hid (∀ u v, (CTab u ∧ Tab u) → RdT u f v p → Calls Tryz.prog 27 #[v] u fun e w' => e = .returned (.tuple #[.string (str ((bytesT p).getD [])), .bool (bytesT p).isSome]) ∧ Below u.heap.size u w') := fun u v t h => bodyBytes_any f v p u t.2 t.1 h
  have e1 : ((str ((bytesT p).getD [])).toList != (str ((bytesT p).getD [])).toList) = false := by simp
  generalize str ((bytesT p).getD []) = B at *
  generalize (bytesT p).isSome = q at *
  have HEQ : Hid (∀ u v v2, RdT u f v p → RdT u f v2 p → Calls Tryz.prog 12 #[v, v2] u fun e w' => e = .returned (.bool true) ∧ Below u.heap.size u w') := fun u v v2 h h2 => eq_all f v v2 p u h h2
  clear HG0
  generalize okT f p = OKP at *
  generalize p.fields.length = n1 at *
  generalize p.body.length = n2 at *
  generalize p.kids.length = n3 at *
  have hne : (q != q) = false := by simp
  clear hW
  go_enter Tryz.func6, Tryz.ntmps6
  go_wp2_with fail
  rw [HW.out]
  refine HSZ.out.mono ?_
  rintro e w1 ⟨r, rfl, hr1, hr2, hok, hb1⟩
  have HB1 := Lib.hid (nx hb0 hb1)
  have HP11 := Lib.hid (HP1.out.below hb1)
  have HTB := Lib.hid (And.intro (HT0.out.1.below hb1) (HT0.out.2.below hb1))
  have HOK := Lib.hid hok
  have HBB := Lib.hid hb1
  clear hok hb0 hb1 HW
  by_cases hneg : r < 0
  · go_wp2
    go_ret
    exact ⟨rfl, HB1.out⟩
  have HR1 := Lib.hid (fun u h => HRT.out w1 u (HOK.out (by omega)) HBB.out h)
  clear HRT HOK hr1 hr2
  generalize hg1 : w.heap.size = G1 at HP11 ⊢
  have HG1 := Lib.hid hg1
  clear hg1
  obtain ⟨y0, y1, y2⟩ := HP11.out
  go_wp2_with fail
  refine (HT1.out _ (HR1.out _ (Below.refl _ _))).mono ?_
  rintro e w2 ⟨b1, d1, b2, d2, b3, d3, rfl, hd2, hb2⟩
  have HD2 := Lib.hid hd2
  clear hd2
  go_wp2_with fail
  refine (HVS.out _ _ HD2.out).mono ?_
  rintro e w3 ⟨rfl, hb3⟩
  have hb13 := nx hb2 hb3
  clear y0 y1 y2 HD2 hb2 hb3
  obtain ⟨y0, y1, y2⟩ := HP11.out.below hb13
  go_wp2_with fail
  refine (HT1.out _ (HR1.out _ hb13)).mono ?_
  rintro e w4 ⟨b4, d4, b5, d5, b6, d6, rfl, hd4, hb4⟩
  have hb14 := nx hb13 hb4
  have hA4 : Below w4.heap.size w4 (w4.alloc (.cells #[.slice b4 n1 d4, .slice b5 n2 d5, .slice b6 n3 d6] 33)) := (Below.refl _ _).alloc (Nat.le_refl _) _
  have HX5 := Lib.hid (KK3.new w4 (.slice b4 n1 d4) (.slice b5 n2 d5) (.slice b6 n3 d6) 33)
  have HD5 := Lib.hid (hd4.below hA4 f)
  have hb15 := nx hb14 hA4
  clear y0 y1 y2 hd4
  obtain ⟨y0, y1, y2⟩ := HP11.out.below hb15
  go_wp2_with fail
  refine (HVI.out _ _ ⟨HTB.out.1.below hb15, HTB.out.2.below hb15⟩ HD5.out).mono ?_
  rintro e w9 ⟨rfl, hb9⟩
  have HB9 : Hid (Below w1.heap.size w1 w9) := nx hb15 hb9
  have HD9 := Lib.hid (RdT.below hb9 f HD5.out)
  have HPB : Hid (∀ u, Below w9.heap.size w9 u → KK3 u G1 (.slice a1 n1 c1) (.slice a2 n2 c2) (.slice a3 n3 c3) ∧ KK3 u w4.heap.size (.slice b4 n1 d4) (.slice b5 n2 d5) (.slice b6 n3 d6)) := fun u h => ⟨HP11.out.below (nx HB9.out h), HX5.out.below (nx hb9 h)⟩
  clear y0 y1 y2 hb9 hb15 hA4 hb14 hb4 hb13
  go_wp2_with fail
  refine wp_region_grow (by kernel_rfl) ?_
  refine wpAnyG_take (fuel := 3) [true, true] (by kernel_rfl) (by kernel_rfl) (by rfl) (by kernel_rfl) ?_
  apply Exists.intro
  refine ⟨fun x => ?_, ?_⟩
  · have y0 := fun (y : BelowT x.val) => (HPB.out y.val (nx x.below y.below)).1.1
    have y1 := fun (y : BelowT x.val) => (HPB.out y.val (nx x.below y.below)).1.2.1
    have y2 := fun (y : BelowT x.val) => (HPB.out y.val (nx x.below y.below)).1.2.2
    have z0 := fun (y : BelowT x.val) => (HPB.out y.val (nx x.below y.below)).2.1
    have z1 := fun (y : BelowT x.val) => (HPB.out y.val (nx x.below y.below)).2.2.1
    have z2 := fun (y : BelowT x.val) => (HPB.out y.val (nx x.below y.below)).2.2.2
    simp only [pickL]
    repeat (go_big_quiet_step (fail))
    exact wpQuiet_nil rfl
  refine wpAnyG_one (m := 2) (by kernel_rfl) (fun u1 g1 => ?_)
  refine wpOp_at (o := _) (by rfl) (by rfl) ?_
  go_simp
  refine (HT1.out _ (HR1.out _ (nx HB9.out g1))).mono ?_
  rintro e w10 ⟨e1, k1, e2, k2, e3, k3, rfl, hd10, hb10⟩
  refine ⟨hb10, ?_⟩
  try simp only [Act.put, List.setIfInBounds_toArray, List.set_cons_zero, List.set_cons_succ]
  refine wpAnyG_one (m := 3) (by kernel_rfl) (fun u2 g2 => ?_)
  refine wpOp_at (o := _) (by rfl) (by rfl) ?_
  go_simp
  refine (HEQ.out _ _ _ (RdT.below (nx (nx g1 hb10) g2) f HD9.out) (RdT.below g2 f hd10)).mono ?_
  rintro e w11 ⟨rfl, hb11⟩
  refine ⟨hb11, ?_⟩
  try simp only [Act.put, List.setIfInBounds_toArray, List.set_cons_zero, List.set_cons_succ]
  refine wpAnyG_take (fuel := 0) [false, false, false, false, true] (by kernel_rfl) (by kernel_rfl) (by rfl) (by kernel_rfl) ?_
  apply Exists.intro
  refine ⟨fun x => ?_, ?_⟩
  · skip
    simp only [pickL]
    repeat (go_big_quiet_step (fail))
    exact wpQuiet_nil rfl
  refine wpAnyG_done (by kernel_rfl) (fun x => ?_) _
  have hbx := x.below
  generalize x.val = w12 at *
  have HB12 : Hid (Below w9.heap.size w9 w12) := nx (nx g1 hb10) (nx (nx g2 hb11) hbx)
  clear g1 hb10 g2 hb11 hbx hd10
  go_wp2
  go_ret
  exact ⟨rfl, HG1.out ▸ nx HB1.out (nx HB9.out HB12.out)⟩
end Go.Proofs.YtcdmjckkencgoaaGreatDoor
