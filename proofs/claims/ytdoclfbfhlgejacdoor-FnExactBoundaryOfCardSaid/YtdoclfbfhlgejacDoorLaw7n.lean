/-
  The exact laws of chapter 7 on kinds that are tied to the table of marks: each law's walk. For every input of the law: it returns true, and the input reads as it did. Conditions: none but the statement's own.
-/
import Derived.Test.YtdoclfbfhlgejacDoorLaw0
import Derived.Test.YtdoclfbfhlgejacDoorKindI
import Derived.Test.YtdoclfbfhlgejacDoorKindB
import Derived.Test.YtdoclfbfhlgejacDoorKind
import Derived.Test.YtdoclfbfhlgejacDoorGrow
namespace Go.Proofs.YtdoclfbfhlgejacDoor
open Go.ChangeShapes Go.WideShapes Go.ChangeAt Go.RowKit
open Go.ChangeMaps (open_string shut_string)

theorem OwnF.cap {B : Nat} {a : Option Addr} {c : Nat} {xs : List Fld} {w : World} (h : OwnF B (.slice a xs.length c) xs w) : xs.length ≤ c := by
  obtain ⟨a1, c1, e, _, _, hc⟩ := OwnR.read h (fun _ => rfl)
  injection e with _ _ e
  subst e; exact hc
set_option maxRecDepth 100000 in
set_option maxHeartbeats 2000000 in
theorem fnExactBoundaryOf_walk (m1 s1 : ByteArray) (a1 : Option Addr) (n1 c1 : Nat) (xs : List Fld) (w : World) (tab : Tab w)
    (hm1 : m1.size ≤ maxLen) (hs1 : s1.size ≤ maxLen) (hr1 : RdF w a1 n1 xs) (hn1 : n1 ≤ maxLen) (hx1 : ∀ x ∈ xs, SmallF maxLen x) :
    Calls Tryd.prog 7 #[.agg #[.string m1, .string s1, .slice a1 n1 c1]] w fun e w' => e = .returned (.bool true) ∧ Below w.heap.size w w' := by
  have hb0 : Below w.heap.size w (w.alloc (.cells #[.string m1, .string s1, .slice a1 n1 c1] 35)) := (Below.refl _ _).alloc (Nat.le_refl _) _
  have HP1 := Lib.hid (KK3.new w (.string m1) (.string s1) (.slice a1 n1 c1) 35)
  have HR1 := Lib.hid (hr1.below hb0)
  have HT0 := Lib.hid (tab.below hb0)
  have hl1 := hr1.1
  have HX1 := Lib.hid hx1
  have HL1 := Lib.hid hl1
  clear hr1 hx1 hl1 tab
  go_enter Tryd.func7, Tryd.ntmps7
  go_wp2_with fail
  generalize hW : w.alloc (.cells #[.string m1, .string s1, .slice a1 n1 c1] 35) = W0 at *
  refine (szKind_any m1 s1 a1 n1 c1 xs 1048576 _ hm1 hs1 HR1.out hn1 HX1.out (by omega) (by omega)).mono ?_
  rintro e w1 ⟨r, rfl, hr1, hr2, hsz, hb1⟩
  have HB1 := Lib.hid (nx hb0 hb1)
  have HP11 := Lib.hid (HP1.out.below hb1)
  have HSZ := Lib.hid hsz
  clear hsz hW
  by_cases hneg : r < 0
  · go_wp2
    go_ret
    exact ⟨rfl, HB1.out⟩
  have HS := Lib.hid (HSZ.out (by omega))
  have HM : Hid (xs.length ≤ 1048576) := by have := HS.out.2.2.1; show _ ≤ _; omega
  have hn1' : n1 ≤ 1073741824 := by have := HL1.out; have := HM.out; omega
  have HMX : Hid (xs.length ≤ maxLen) := by have := HM.out; show _ ≤ _; unfold maxLen; omega
  have HR2 := Lib.hid (HR1.out.below hb1)
  have HT1 : Hid (∀ u, Below w1.heap.size w1 u → Calls Tryd.prog 15 #[.agg #[.string m1, .string s1, .slice a1 n1 c1]] u (KindRet m1 s1 xs u)) := fun u h => toKind_any m1 s1 a1 n1 c1 xs u (HR2.out.below h) hn1'
  have HKS : Hid (∀ u b d, xs.length ≤ d → RdF u b xs.length xs → Calls Tryd.prog 10 #[.agg #[.string m1, .string s1, .slice b xs.length d]] u fun e w' => e = .returned (.tuple #[.string (str ((bndOf ⟨m1.data.toList, s1.data.toList, xs⟩).getD [])), .bool (bndOf ⟨m1.data.toList, s1.data.toList, xs⟩).isSome]) ∧ Below u.heap.size u w') := fun u b d hd h => boundaryOfS_any m1 s1 b xs.length d xs u (by have := HS.out.1; omega) (by have := HS.out.2.1; omega) h hd (by have := HM.out; omega) HS.out.2.2.2
  have HKI : Hid (∀ u b d, Below w1.heap.size w1 u → RdF u b xs.length xs → Calls Tryd.prog 9 #[.agg #[.string m1, .string s1, .slice b xs.length d]] u fun e w' => e = .returned (.tuple #[.string (str ((bndOf ⟨m1.data.toList, s1.data.toList, xs⟩).getD [])), .bool (bndOf ⟨m1.data.toList, s1.data.toList, xs⟩).isSome]) ∧ Below u.heap.size u w') := fun u b d hu h => boundaryOf_any m1 s1 b xs.length d xs u ((HT0.out.below hb1).below hu) (by have := HS.out.1; omega) (by have := HS.out.2.1; omega) h (by have := HM.out; omega) HS.out.2.2.2
  generalize (bndOf ⟨m1.data.toList, s1.data.toList, xs⟩).isSome = Q at *
  generalize str ((bndOf ⟨m1.data.toList, s1.data.toList, xs⟩).getD []) = QS at *
  have hne : (QS.toList != QS.toList) = false := by simp
  clear hn1 hn1' hm1 hs1
  generalize hg1 : w.heap.size = G1 at HP11 ⊢
  have HPA : Hid (∀ u, Below w1.heap.size w1 u → KK3 u G1 (.string m1) (.string s1) (.slice a1 n1 c1)) := fun u h => HP11.out.below h
  have hlt2 : G1 < w1.heap.size := lt_of_cell HP11.out.1
  obtain ⟨y0, y1, y2⟩ := HP11.out
  go_wp2_with fail
  refine (HT1.out _ (Below.refl _ _)).mono ?_
  rintro e w2 ⟨b2, d2, rfl, ho2, hd2, hb2⟩
  have HC2 := Lib.hid ho2.cap
  clear ho2 y0 y1 y2
  go_wp2_with fail
  refine (HKS.out _ _ _ HC2.out hd2).mono ?_
  rintro e w3 ⟨rfl, hb3⟩
  have HB3 := Lib.hid (nx hb2 hb3)
  clear hd2 hb2 hb3
  obtain ⟨y0, y1, y2⟩ := HPA.out _ HB3.out
  go_wp2_with fail
  refine (HT1.out _ HB3.out).mono ?_
  rintro e w7 ⟨b7, d7, rfl, _, hd7, hb7⟩
  clear y0 y1 y2
  have HB7 := Lib.hid (nx HB3.out hb7)
  have hs7 : G1 < w7.heap.size := Nat.lt_of_lt_of_le hlt2 HB7.out.size
  have hA7 : Below w7.heap.size w7 (w7.alloc (.cells #[.string m1, .string s1, .slice b7 xs.length d7] 25)) := (Below.refl _ _).alloc (Nat.le_refl _) _
  have HA7 := Lib.hid (nx HB7.out hA7)
  have HK7 := Lib.hid (KK3.new w7 (.string m1) (.string s1) (.slice b7 xs.length d7) 25)
  have HD7 := Lib.hid (hd7.below hA7)
  clear hd7 hb7
  go_wp2_with fail
  refine (HKI.out _ _ _ HA7.out HD7.out).mono ?_
  rintro e w9 ⟨rfl, hb9⟩
  have HB9 := Lib.hid (nx HA7.out hb9)
  have HK9 := Lib.hid (HK7.out.below hb9)
  have HD9 := Lib.hid (HD7.out.below hb9)
  clear hb9 hA7
  have HEQ1 : Hid (∀ u b, Below w9.heap.size w9 u → ∀ d, RdF u b xs.length xs → Calls Tryd.prog 17 #[.agg #[.string m1, .string s1, .slice b7 xs.length d7], .agg #[.string m1, .string s1, .slice b xs.length d]] u fun e w' => e = .returned (.bool true) ∧ Below u.heap.size u w') := fun u b h d k => eqKind_any m1 s1 b7 b _ d7 _ d xs u (HD9.out.below h) k HMX.out HMX.out
  have HPB : Hid (∀ u, Below w9.heap.size w9 u → KK3 u G1 (.string m1) (.string s1) (.slice a1 n1 c1) ∧ KK3 u w7.heap.size (.string m1) (.string s1) (.slice b7 xs.length d7)) := fun u h => ⟨HPA.out _ (nx HB9.out h), HK9.out.below h⟩
  cases Q
  all_goals
    go_wp2_with fail
    refine wp_region_grow (by kernel_rfl) ?_
    refine wpAnyG_take (fuel := 3) [true, true] (by kernel_rfl) (by kernel_rfl) (by rfl) (by kernel_rfl) ?_
    apply Exists.intro
    refine ⟨fun x => ?_, ?_⟩
    · have y0 := fun (y : BelowT x.val) => (HPB.out y.val (nx x.below y.below)).1.1
      have y1 := fun (y : BelowT x.val) => (HPB.out y.val (nx x.below y.below)).1.2.1
      have y2 := fun (y : BelowT x.val) => (HPB.out y.val (nx x.below y.below)).1.2.2
      have z0 := fun (y : BelowT x.val) => (HPB.out y.val (nx x.below y.below)).2.1
      have z1 := fun (y : BelowT x.val) => (HPB.out y.val (nx x.below y.below)).2.2.1
      have z2 := fun (y : BelowT x.val) => (HPB.out y.val (nx x.below y.below)).2.2.2
      simp only [pickL]
      repeat (go_big_quiet_step (fail))
      exact wpQuiet_nil rfl
    refine wpAnyG_one (m := 2) (by kernel_rfl) (fun u1 g1 => ?_)
    refine wpOp_at (o := _) (by rfl) (by rfl) ?_
    go_simp
    refine (HT1.out _ (nx HB9.out g1)).mono ?_
    rintro e w10 ⟨b10, d10, rfl, _, hd10, hb10⟩
    refine ⟨hb10, ?_⟩
    try simp only [Act.put, List.setIfInBounds_toArray, List.set_cons_zero, List.set_cons_succ]
    refine wpAnyG_one (m := 3) (by kernel_rfl) (fun u2 g2 => ?_)
    refine wpOp_at (o := _) (by rfl) (by rfl) ?_
    go_simp
    refine (HEQ1.out _ _ (nx (nx g1 hb10) g2) _ (hd10.below g2)).mono ?_
    rintro e w11 ⟨rfl, hb11⟩
    refine ⟨hb11, ?_⟩
    try simp only [Act.put, List.setIfInBounds_toArray, List.set_cons_zero, List.set_cons_succ]
    refine wpAnyG_take (fuel := 0) [false, false, false, false, true] (by kernel_rfl) (by kernel_rfl) (by rfl) (by kernel_rfl) ?_
    apply Exists.intro
    refine ⟨fun x => ?_, ?_⟩
    · skip
      simp only [pickL]
      repeat (go_big_quiet_step (fail))
      exact wpQuiet_nil rfl
    refine wpAnyG_done (by kernel_rfl) (fun x => ?_) _
    have hbx := x.below
    generalize x.val = w12 at *
    have HB12 : Hid (Below w9.heap.size w9 w12) := nx (nx g1 hb10) (nx (nx g2 hb11) hbx)
    clear g1 hb10 g2 hb11 hbx hd10
    go_wp2
    go_ret
    exact ⟨rfl, hg1 ▸ nx HB1.out (nx HB9.out HB12.out)⟩
end Go.Proofs.YtdoclfbfhlgejacDoor
