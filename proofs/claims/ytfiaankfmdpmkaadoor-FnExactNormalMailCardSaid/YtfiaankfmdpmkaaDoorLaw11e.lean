/-
  The exact law of normal mails: its walk. For every input of the law: it returns true, and the input reads as it did. Conditions: none but the statement's own.
-/
import Derived.Test.YtfiaankfmdpmkaaDoorMalH
import Derived.Test.YtfiaankfmdpmkaaDoorZip
namespace Go.Proofs.YtfiaankfmdpmkaaDoor
open Go.ChangeShapes Go.WideShapes Go.ChangeAt Go.RowKit
open Go.ChangeMaps (open_string shut_string)

theorem normO_small {M : Nat} {m : Ml} (h : SmallM M m) : SmallM M (normO m) := by
  unfold normO
  split
  · obtain ⟨h1, h2, h3, h4, h5⟩ := h
    refine ⟨h1, ?_, fun x hx => h3 x ?_, h4, h5⟩
    · have := nrm_len m.to []
      show (nrm [] m.to).length ≤ M
      simp at this; omega
    · have := (nrm_mem m.to [] x).1 hx; simpa using this
  · exact ⟨Nat.zero_le _, Nat.zero_le _, (fun x hx => by cases hx), Nat.zero_le _, (fun x hx => by cases hx)⟩
theorem MkS.own2 {G E B : Nat} {w w' : World} (k : MkS G E w w') {v : Value} {xs : List (List UInt8)} (h : OwnL B v xs w) (hB : E ≤ B) : OwnL B v xs w' := by
  refine ⟨h.1, ?_⟩
  rcases h.2 with hn | ⟨g, cap, cur, hv, hg1, hg2, rest⟩
  · exact .inl hn
  · exact .inr ⟨g, cap, cur, hv, hg1, by rw [k.high g (Nat.le_trans hB hg1) (lt_of_block hg2), hg2], rest⟩
theorem ShV.marks {G E B F : Nat} {w w' : World} {a b : Option Addr} {n c k d : Nat} {m : Ml} (h : ShV B F w a n c b k d m) (t : MkS G E w w') (hB : E ≤ B) : ShV B F w' a n c b k d m :=
  ⟨h.1, h.2.1, t.own2 h.2.2.1 hB, t.own2 h.2.2.2.1 hB, h.2.2.2.2⟩
theorem ShV.rd {B F M : Nat} {w : World} {s : ByteArray} {a b : Option Addr} {n c k d : Nat} {m : Ml} (h : ShV B F w a n c b k d m) (hs : s = str m.frm) (hm : SmallM M m) : RdV M w s a n c b k d m := by
  obtain ⟨h1, h2, h3, h4, _⟩ := h
  subst h1 h2
  exact ⟨hs, rfl, rfl, h3.rdc, h4.rdc, hm⟩
theorem MK3.low {B g : Nat} {w w' : World} {v0 v1 v2 : Value} (h : MK3 w g v0 v1 v2) (t : Below B w w') (hg : g < B) : MK3 w' g v0 v1 v2 :=
  ⟨(below_at t hg).trans h.1, (below_at t hg).trans h.2.1, (below_at t hg).trans h.2.2⟩
theorem MK3.high {G E g : Nat} {w w' : World} {v0 v1 v2 : Value} (h : MK3 w g v0 v1 v2) (t : MkS G E w w') (hg : E ≤ g) : MK3 w' g v0 v1 v2 := by
  have hl := lt_of_cell h.1
  have hc : ∀ o, w'.cell? ⟨g, o, none⟩ = w.cell? ⟨g, o, none⟩ := fun o => by unfold World.cell?; rw [t.high g hg hl]
  exact ⟨(hc 0).trans h.1, (hc 1).trans h.2.1, (hc 2).trans h.2.2⟩
/-- A mail of the call's own, by its parts, and whether there is one. -/
def NrmV (m : Ml) (q : Bool) (w : World) (e : Ending) (w' : World) : Prop := ∃ (s : ByteArray) (a : Option Addr) (n c : Nat) (b : Option Addr) (k d : Nat), e = .returned (.tuple #[.agg #[.string s, .slice a n c, .slice b k d], .bool q]) ∧ RdV 1048576 w' s a n c b k d m ∧ ShV w.heap.size w'.heap.size w' a n c b k d m ∧ Below w.heap.size w w'
theorem nrmRet_v {m : Ml} {w w' : World} {e : Ending} (h : NrmRet m w e w') (hs : SmallM 1048576 m) : NrmV (normO m) (isMail m) w e w' := by
  obtain ⟨x, hx, he, ho, hb⟩ := h
  refine ⟨_, _, _, _, _, _, _, he, ?_, ?_, hb⟩
  · have := RdV.of (ho.rd (M := 1048576) (by rw [hx]; exact normO_small hs))
    rw [hx] at this ⊢; exact this
  · obtain ⟨h1, h2, h3⟩ := ho
    rw [hx] at *
    exact ⟨rfl, rfl, h1, h2, h3, fun g hg => (h1.lt g hg).2, fun g hg => (h2.lt g hg).2⟩
set_option maxRecDepth 100000 in
set_option maxHeartbeats 8000000 in
theorem fnExactNormalMail_walk (x : MlA) (w : World) (en : Env w) (hx : RdM maxLen w x) :
    Calls Tryd.prog 6 #[mlV x] w fun e w' => e = .returned (.bool true) ∧ Below w.heap.size w w' := by
  obtain ⟨s1, a1, n1, c1, b1, k1, d1, m1, hv1, hr1⟩ : ∃ s a n c b k d m, mlV x = .agg #[.string s, .slice a n c, .slice b k d] ∧ RdV maxLen w s a n c b k d m := ⟨_, _, _, _, _, _, _, x.m, rfl, RdV.of hx⟩
  rw [hv1]
  have hb0 : Below w.heap.size w (w.alloc (.cells #[.string s1, .slice a1 n1 c1, .slice b1 k1 d1] 32)) := (Below.refl _ _).alloc (Nat.le_refl _) _
  have HP1 := Lib.hid (MK3.new w (.string s1) (.slice a1 n1 c1) (.slice b1 k1 d1) 32)
  have HG0 := Lib.hid (hr1.below hb0)
  have HT0 := Lib.hid (en.below hb0)
  have HSZ := Lib.hid (szMail_v HG0.out (t := 1048576) (by omega) (by omega))
  clear hr1 en hx hv1
  generalize hW : w.alloc (.cells #[.string s1, .slice a1 n1 c1, .slice b1 k1 d1] 32) = W0 at *
  have HW := Lib.hid hW
  have HRT : Hid (∀ w1 u, SmallM 1048576 m1 → Below W0.heap.size W0 w1 → Below w1.heap.size w1 u → RdV 1048576 u s1 a1 n1 c1 b1 k1 d1 m1) := fun w1 u ho hb1 h => ((HG0.out.below hb1).below h).up ho
  have HT1 : Hid (∀ u, RdV 1048576 u s1 a1 n1 c1 b1 k1 d1 m1 → Calls Tryd.prog 17 #[.agg #[.string s1, .slice a1 n1 c1, .slice b1 k1 d1]] u fun e w' => ∃ (s : ByteArray) (a : Option Addr) (n c : Nat) (b : Option Addr) (k d : Nat), e = .returned (.agg #[.string s, .slice a n c, .slice b k d]) ∧ RdV 1048576 w' s a n c b k d m1 ∧ ShV u.heap.size w'.heap.size w' a n c b k d m1 ∧ Below u.heap.size u w') := fun u h => toMail_w h
  have HVS : Hid (SmallM 1048576 m1 → ∀ u (s : ByteArray) (a : Option Addr) (n c : Nat) (b : Option Addr) (k d : Nat), RdV 1048576 u s a n c b k d m1 → Calls Tryd.prog 20 #[.agg #[.string s, .slice a n c, .slice b k d]] u (NrmV (normO m1) (isMail m1) u)) := fun hs u s a n c b k d h => h.calls [] (fun x hx hr => (normalMailS_any 1048576 x u hr (by omega)).mono fun e w' hh => by rw [hx] at hh; exact nrmRet_v hh hs)
  have HVI : Hid (SmallM 1048576 m1 → ∀ u (s : ByteArray) (a : Option Addr) (n c : Nat) (b : Option Addr) (k d : Nat), Env u → RdV 1048576 u s a n c b k d m1 → Calls Tryd.prog 21 #[.agg #[.string s, .slice a n c, .slice b k d]] u (NrmV (normO m1) (isMail m1) u)) := fun hs u s a n c b k d t h => h.calls [] (fun x hx hr => (normalMail_any 1048576 x u t hr (by omega)).mono fun e w' hh => by rw [hx] at hh; exact nrmRet_v hh hs)
  have HEQ : Hid (∀ (m : Ml) u (s : ByteArray) (a : Option Addr) (n c : Nat) (b : Option Addr) (k d : Nat) (s' : ByteArray) (a' : Option Addr) (n' c' : Nat) (b' : Option Addr) (k' d' : Nat), RdV 1048576 u s a n c b k d m → RdV 1048576 u s' a' n' c' b' k' d' m → Calls Tryd.prog 19 #[.agg #[.string s, .slice a n c, .slice b k d], .agg #[.string s', .slice a' n' c', .slice b' k' d']] u fun e w' => e = .returned (.bool true) ∧ Below u.heap.size u w') := fun m u _ _ _ _ _ _ _ _ _ _ _ _ _ _ h h2 => eqMail_v h h2
  have HMK : Hid (∀ (m : Ml) G E u (s : ByteArray) (a : Option Addr) (n c : Nat) (b : Option Addr) (k d : Nat), ShV G E u a n c b k d m → G ≤ u.heap.size → 1 + (n + k) ≤ 1073741824 → Calls Tryd.prog 22 #[.agg #[.string s, .slice a n c, .slice b k d], .int .i64 1] u fun e w' => e = .returned (.int .i64 ((1 + (n + k) : Nat) : Int)) ∧ RdL w' a n (marksFrom 1 n) ∧ RdL w' b k (marksFrom (1 + n) k) ∧ MkS G E u w') := fun m G E u s a n c b k d h hG hk => markMail_h 1 h hG (by omega) hk
  have HHM : Hid (∀ u (s : ByteArray) (a : Option Addr) (n c : Nat) (b : Option Addr) (k d : Nat), RdL u a n (marksFrom 1 n) → RdL u b k (marksFrom (1 + n) k) → 1 + (n + k) ≤ 1073741824 → Calls Tryd.prog 23 #[.agg #[.string s, .slice a n c, .slice b k d], .int .i64 1] u fun e w' => e = .returned (.int .i64 ((1 + (n + k) : Nat) : Int)) ∧ Below u.heap.size u w') := fun u s a n c b k d h1 h2 hk => heldMail_h 1 h1 h2 (by omega) hk
  clear HG0
  obtain ⟨NM, hNM⟩ : ∃ N, N = normO m1 := ⟨_, rfl⟩
  have HSN : Hid (SmallM 1048576 m1 → SmallM 1048576 NM) := fun h => hNM ▸ normO_small h
  rw [← hNM] at HVS HVI
  clear hNM
  unfold NrmV at HVS HVI
  generalize isMail m1 = q at *
  have hne : (q != q) = false := by simp
  clear hW
  go_enter Tryd.func6, Tryd.ntmps6
  go_wp2_with fail
  rw [HW.out]
  refine HSZ.out.mono ?_
  rintro e w1 ⟨r, rfl, hr1, hr2, hok, hb1⟩
  have HB1 := Lib.hid (nx hb0 hb1)
  have HP11 := Lib.hid (HP1.out.below hb1)
  have HTB := Lib.hid (HT0.out.below hb1)
  have HOK := Lib.hid hok
  have HBB := Lib.hid hb1
  clear hok hb0 hb1 HW
  by_cases hneg : r < 0
  · go_wp2
    go_ret
    exact ⟨rfl, HB1.out⟩
  have HR1 := Lib.hid (fun u h => HRT.out w1 u (HOK.out (by omega)) HBB.out h)
  have HSM : Hid (SmallM 1048576 m1) := HOK.out (by omega)
  have HVS1 := Lib.hid (HVS.out HSM.out)
  have HVI1 := Lib.hid (HVI.out HSM.out)
  have HSN1 := Lib.hid (HSN.out HSM.out)
  clear HRT HOK hr1 hr2 HVS HVI HSN
  generalize hg1 : w.heap.size = G1 at HP11 ⊢
  have HG1 := Lib.hid hg1
  clear hg1
  obtain ⟨y0, y1, y2⟩ := HP11.out
  go_wp2_with fail
  refine (HT1.out _ (HR1.out _ (Below.refl _ _))).mono ?_
  rintro e w2 ⟨t2, e2, f2, g2, h2, i2, j2, rfl, hd2, _, hb2⟩
  have HD2 := Lib.hid hd2
  clear hd2
  go_wp2_with fail
  refine (HVS1.out _ _ _ _ _ _ _ _ HD2.out).mono ?_
  rintro e w3 ⟨t3, e3, f3, g3, h3, i3, j3, rfl, hd3, _, hb3⟩
  have hb13 := nx hb2 hb3
  have hA3 : Below w3.heap.size w3 (w3.alloc (.cells #[.string t3, .slice e3 f3 g3, .slice h3 i3 j3] 36)) := (Below.refl _ _).alloc (Nat.le_refl _) _
  have HK3 := Lib.hid (MK3.new w3 (.string t3) (.slice e3 f3 g3) (.slice h3 i3 j3) 36)
  have HD3 := Lib.hid (hd3.below hA3)
  have hb14 := nx hb13 hA3
  have HB14 := Lib.hid hb14
  clear y0 y1 y2 HD2 hb2 hb3 hd3 hA3 hb13
  obtain ⟨y0, y1, y2⟩ := HP11.out.below hb14
  have hl3 := lt_of_cell HK3.out.1
  go_wp2_with fail
  generalize w3.alloc (.cells #[.string t3, .slice e3 f3 g3, .slice h3 i3 j3] 36) = W3 at *
  generalize w3.heap.size = K3 at *
  refine (HT1.out _ (HR1.out _ hb14)).mono ?_
  rintro e w5 ⟨t5, e5, f5, g5, h5, i5, j5, rfl, hd5, hs5, hb5⟩
  have hA5 : Below w5.heap.size w5 (w5.alloc (.cells #[.string t5, .slice e5 f5 g5, .slice h5 i5 j5] 36)) := (Below.refl _ _).alloc (Nat.le_refl _) _
  have HK5 := Lib.hid (MK3.new w5 (.string t5) (.slice e5 f5 g5) (.slice h5 i5 j5) 36)
  have HD5 := Lib.hid (hd5.below hA5)
  have HS5 := Lib.hid (hs5.below hA5)
  have HB35 : Hid (Below W3.heap.size W3 (w5.alloc (.cells #[.string t5, .slice e5 f5 g5, .slice h5 i5 j5] 36))) := nx hb5 hA5
  have hz35 : W3.heap.size ≤ w5.heap.size := hb5.size
  have hz5 : w5.heap.size < (w5.alloc (.cells #[.string t5, .slice e5 f5 g5, .slice h5 i5 j5] 36)).heap.size := by simp
  clear y0 y1 y2 hd5 hs5 hb5 hA5
  have k5 := HK5.out
  go_wp2_with fail
  generalize w5.alloc (.cells #[.string t5, .slice e5 f5 g5, .slice h5 i5 j5] 36) = W5 at *
  generalize w5.heap.size = K5 at *
  obtain ⟨z50, z51, z52⟩ := k5
  refine (HVI1.out _ _ _ _ _ _ _ _ (HTB.out.below (nx hb14 HB35.out)) HD5.out).mono ?_
  rintro e w7 ⟨t7, e7, f7, g7, h7, i7, j7, rfl, hd7, hs7, hb7⟩
  have hA7 : Below w7.heap.size w7 (w7.alloc (.cells #[.string t7, .slice e7 f7 g7, .slice h7 i7 j7] 36)) := (Below.refl _ _).alloc (Nat.le_refl _) _
  have HK7 := Lib.hid (MK3.new w7 (.string t7) (.slice e7 f7 g7) (.slice h7 i7 j7) 36)
  have HD7 := Lib.hid (hd7.below hA7)
  have HS7 := Lib.hid (hs7.below hA7)
  have HB57 : Hid (Below W5.heap.size W5 (w7.alloc (.cells #[.string t7, .slice e7 f7 g7, .slice h7 i7 j7] 36))) := nx hb7 hA7
  have hz57 : W5.heap.size ≤ w7.heap.size := hb7.size
  have hz7 : w7.heap.size < (w7.alloc (.cells #[.string t7, .slice e7 f7 g7, .slice h7 i7 j7] 36)).heap.size := by simp
  clear hd7 hs7 hb7 hA7 z50 z51 z52
  have HK57 := Lib.hid (HK5.out.below HB57.out)
  have HK37 := Lib.hid ((HK3.out.below HB35.out).below HB57.out)
  have HD37 := Lib.hid ((HD3.out.below HB35.out).below HB57.out)
  have HD57 := Lib.hid (HD5.out.below HB57.out)
  have HS57 := Lib.hid (HS5.out.below HB57.out)
  have HB37 : Hid (Below W3.heap.size W3 (w7.alloc (.cells #[.string t7, .slice e7 f7 g7, .slice h7 i7 j7] 36))) := nx HB35.out HB57.out
  obtain ⟨k30, k31, k32⟩ := HK37.out
  go_wp2_with fail
  generalize w7.alloc (.cells #[.string t7, .slice e7 f7 g7, .slice h7 i7 j7] 36) = W7 at *
  generalize w7.heap.size = K7 at *
  clear k30 k31 k32
  refine (HEQ.out _ _ _ _ _ _ _ _ _ _ _ _ _ _ _ _ HD7.out HD37.out).mono ?_
  rintro e w8 ⟨rfl, hb8⟩
  have HB8 := Lib.hid hb8
  clear hb8
  have HB78 : Hid (∀ u, Below w8.heap.size w8 u → MK3 u G1 (.string s1) (.slice a1 n1 c1) (.slice b1 k1 d1) ∧ MK3 u K5 (.string t5) (.slice e5 f5 g5) (.slice h5 i5 j5)) := fun u hu => ⟨HP11.out.below (nx HB14.out (nx HB37.out (nx HB8.out hu))), HK57.out.below (nx HB8.out hu)⟩
  go_wp2_with fail
  refine wp_region_grow (by kernel_rfl) ?_
  refine wpAnyG_take (fuel := 3) [true, true] (by kernel_rfl) (by kernel_rfl) (by rfl) (by kernel_rfl) ?_
  apply Exists.intro
  refine ⟨fun x => ?_, ?_⟩
  · have y0 := fun (y : BelowT x.val) => (HB78.out y.val (nx x.below y.below)).1.1
    have y1 := fun (y : BelowT x.val) => (HB78.out y.val (nx x.below y.below)).1.2.1
    have y2 := fun (y : BelowT x.val) => (HB78.out y.val (nx x.below y.below)).1.2.2
    have z0 := fun (y : BelowT x.val) => (HB78.out y.val (nx x.below y.below)).2.1
    have z1 := fun (y : BelowT x.val) => (HB78.out y.val (nx x.below y.below)).2.2.1
    have z2 := fun (y : BelowT x.val) => (HB78.out y.val (nx x.below y.below)).2.2.2
    simp only [pickL]
    repeat (go_big_quiet_step (fail))
    exact wpQuiet_nil rfl
  refine wpAnyG_one (m := 2) (by kernel_rfl) (fun ua ga => ?_)
  refine wpOp_at (o := _) (by rfl) (by rfl) ?_
  go_simp
  refine (HT1.out _ (HR1.out _ (nx HB14.out (nx HB37.out (nx HB8.out ga))))).mono ?_
  rintro e w10 ⟨t10, e10, f10, g10, h10, i10, j10, rfl, hd10, _, hb10⟩
  refine ⟨hb10, ?_⟩
  try simp only [Act.put, List.setIfInBounds_toArray, List.set_cons_zero, List.set_cons_succ]
  refine wpAnyG_one (m := 3) (by kernel_rfl) (fun ub gb => ?_)
  refine wpOp_at (o := _) (by rfl) (by rfl) ?_
  go_simp
  refine (HEQ.out _ _ _ _ _ _ _ _ _ _ _ _ _ _ _ _ (HD57.out.below (nx HB8.out (nx (nx ga hb10) gb))) (hd10.below gb)).mono ?_
  rintro e w11 ⟨rfl, hb11⟩
  refine ⟨hb11, ?_⟩
  try simp only [Act.put, List.setIfInBounds_toArray, List.set_cons_zero, List.set_cons_succ]
  refine wpAnyG_take (fuel := 0) [false, false, false, false, true] (by kernel_rfl) (by kernel_rfl) (by rfl) (by kernel_rfl) ?_
  apply Exists.intro
  refine ⟨fun x => ?_, ?_⟩
  · skip
    simp only [pickL]
    repeat (go_big_quiet_step (fail))
    exact wpQuiet_nil rfl
  refine wpAnyG_done (by kernel_rfl) (fun x => ?_) _
  have hbx := x.below
  generalize x.val = w12 at *
  have HB712 : Hid (Below W7.heap.size W7 w12) := nx HB8.out (nx (nx ga hb10) (nx (nx gb hb11) hbx))
  clear ga hb10 gb hb11 hbx hd10 HB78 HB8
  obtain ⟨z50, z51, z52⟩ := HK57.out.below HB712.out
  have hk5s : 1 + (f5 + i5) ≤ 1073741824 := by have p1 := HS57.out.1; have p2 := HS57.out.2.1; have p3 := HSM.out.2.1; have p4 := HSM.out.2.2.2.1; omega
  have hk7s : 1 + (f7 + i7) ≤ 1073741824 := by have p1 := HS7.out.1; have p2 := HS7.out.2.1; have p3 := HSN1.out.2.1; have p4 := HSN1.out.2.2.2.1; omega
  obtain ⟨KP, hKP⟩ : ∃ KP : Int, KP = ((1 + (f5 + i5) : Nat) : Int) := ⟨_, rfl⟩
  have hkp : ¬ (KP < 0) := by omega
  obtain ⟨KM, hKM⟩ : ∃ KM : Int, KM = ((1 + (f7 + i7) : Nat) : Int) := ⟨_, rfl⟩
  have hkm : ¬ (KM < 0) := by omega
  have hkm2 : (KM != KM) = false := by simp
  have hz712 := HB712.out.size
  have HZ312 : Hid (W3.heap.size ≤ w12.heap.size) := Nat.le_trans HB37.out.size hz712
  have HMK5 := Lib.hid (HMK.out m1 W3.heap.size K5 w12 t5 e5 f5 g5 h5 i5 j5 (HS57.out.below HB712.out) HZ312.out hk5s)
  have HMK7 : Hid (∀ u, ShV W5.heap.size K7 u e7 f7 g7 h7 i7 j7 NM → W5.heap.size ≤ u.heap.size → Calls Tryd.prog 22 #[.agg #[.string t7, .slice e7 f7 g7, .slice h7 i7 j7], .int .i64 1] u fun e w' => e = .returned (.int .i64 ((1 + (f7 + i7) : Nat) : Int)) ∧ RdL w' e7 f7 (marksFrom 1 f7) ∧ RdL w' h7 i7 (marksFrom (1 + f7) i7) ∧ MkS W5.heap.size K7 u w') := fun u h hG => HMK.out NM _ _ u _ _ _ _ _ _ _ h hG hk7s
  have HHM7 : Hid (∀ u, RdL u e7 f7 (marksFrom 1 f7) → RdL u h7 i7 (marksFrom (1 + f7) i7) → Calls Tryd.prog 23 #[.agg #[.string t7, .slice e7 f7 g7, .slice h7 i7 j7], .int .i64 1] u fun e w' => e = .returned (.int .i64 ((1 + (f7 + i7) : Nat) : Int)) ∧ Below u.heap.size u w') := fun u h1 h2 => HHM.out u _ _ _ _ _ _ _ h1 h2 hk7s
  rw [← hKP] at HMK5
  rw [← hKM] at HMK7 HHM7
  clear hKP hKM hk5s hk7s
  go_wp2_with fail
  refine HMK5.out.mono ?_
  rintro e w13 ⟨rfl, _, _, ht13⟩
  have HT13 := Lib.hid ht13
  clear z50 z51 z52 ht13
  have hK57 : K5 ≤ K7 := by omega
  have hK5W : K5 ≤ W5.heap.size := Nat.le_of_lt hz5
  have HB313 : Hid (Below W3.heap.size W3 w13) := (nx HB37.out HB712.out).trans HT13.out.low
  have HK313 := Lib.hid (HK37.out.below HB712.out |>.low HT13.out.low hl3)
  have HK713 := Lib.hid ((HK7.out.below HB712.out).high HT13.out hK57)
  have HS713 := Lib.hid ((HS7.out.below HB712.out).marks HT13.out hK5W)
  have HTS : Hid (t7 = str NM.frm) := HD7.out.1
  have HD713 := Lib.hid (HS713.out.rd HTS.out HSN1.out)
  have HZ13 : Hid (W5.heap.size ≤ w13.heap.size) := Nat.le_trans (Nat.le_trans HB57.out.size hz712) HT13.out.low.size
  obtain ⟨k30, k31, k32⟩ := HK313.out
  obtain ⟨k70, k71, k72⟩ := HK713.out
  go_wp2_with fail
  refine (HEQ.out _ _ _ _ _ _ _ _ _ _ _ _ _ _ _ _ HD713.out (HD3.out.below HB313.out)).mono ?_
  rintro e w14 ⟨rfl, hb14x⟩
  have HB314 : Hid (Below W3.heap.size W3 w14) := nx HB313.out hb14x
  have HS714 := Lib.hid (HS713.out.below hb14x)
  have HK314 := Lib.hid (HK313.out.below hb14x)
  have HK714 := Lib.hid (HK713.out.below hb14x)
  have HZ14 : Hid (W5.heap.size ≤ w14.heap.size) := Nat.le_trans HZ13.out hb14x.size
  clear k30 k31 k32 k70 k71 k72 hb14x
  obtain ⟨k70, k71, k72⟩ := HK714.out
  go_wp2_with fail
  refine (HMK7.out _ HS714.out HZ14.out).mono ?_
  rintro e w15 ⟨rfl, hma, hmb, ht15⟩
  have hW35 : W3.heap.size ≤ W5.heap.size := Nat.le_trans hz35 hK5W
  have HB315 : Hid (Below W3.heap.size W3 w15) := HB314.out.trans (ht15.low.mono hW35)
  have HK315 := Lib.hid (HK314.out.low ht15.low (Nat.lt_of_lt_of_le hl3 hW35))
  have HK715 := Lib.hid (HK714.out.high ht15 (Nat.le_refl _))
  have HMA := Lib.hid hma
  have HMB := Lib.hid hmb
  clear k70 k71 k72 hma hmb ht15
  obtain ⟨k70, k71, k72⟩ := HK715.out
  go_wp2_with fail
  refine (HHM7.out _ HMA.out HMB.out).mono ?_
  rintro e w16 ⟨rfl, hb16⟩
  have HB316 : Hid (Below W3.heap.size W3 w16) := nx HB315.out hb16
  have HK316 := Lib.hid (HK315.out.below hb16)
  have HK716 := Lib.hid (HK715.out.below hb16)
  have HMA6 := Lib.hid (HMA.out.below hb16)
  have HMB6 := Lib.hid (HMB.out.below hb16)
  have HB116 : Hid (Below w1.heap.size w1 w16) := nx HB14.out HB316.out
  clear k70 k71 k72 hb16
  obtain ⟨y0, y1, y2⟩ := HP11.out.below HB116.out
  go_wp2_with fail
  refine (HT1.out _ (HR1.out _ HB116.out)).mono ?_
  rintro e w18 ⟨t18, e18, f18, g18, h18, i18, j18, rfl, hd18, _, hb18⟩
  have HD18 := Lib.hid hd18
  have HB118 : Hid (Below w1.heap.size w1 w18) := nx HB116.out hb18
  clear y0 y1 y2 hd18
  go_wp2_with fail
  refine (HVI1.out _ _ _ _ _ _ _ _ (HTB.out.below HB118.out) HD18.out).mono ?_
  rintro e w19 ⟨t19, e19, f19, g19, h19, i19, j19, rfl, hd19, _, hb19⟩
  have hA19 : Below w19.heap.size w19 (w19.alloc (.cells #[.string t19, .slice e19 f19 g19, .slice h19 i19 j19] 36)) := (Below.refl _ _).alloc (Nat.le_refl _) _
  have hb69 : Below w16.heap.size w16 (w19.alloc (.cells #[.string t19, .slice e19 f19 g19, .slice h19 i19 j19] 36)) := nx hb18 (nx hb19 hA19)
  have HB319 : Hid (Below W3.heap.size W3 (w19.alloc (.cells #[.string t19, .slice e19 f19 g19, .slice h19 i19 j19] 36))) := nx HB316.out hb69
  have HD19 := Lib.hid (hd19.below hA19)
  have HK319 := Lib.hid (HK316.out.below hb69)
  have HK719 := Lib.hid (HK716.out.below hb69)
  have HMA9 := Lib.hid (HMA6.out.below hb69)
  have HMB9 := Lib.hid (HMB6.out.below hb69)
  clear hd19 hA19 hb18 hb19 hb69
  obtain ⟨k30, k31, k32⟩ := HK319.out
  go_wp2_with fail
  refine (HEQ.out _ _ _ _ _ _ _ _ _ _ _ _ _ _ _ _ HD19.out (HD3.out.below HB319.out)).mono ?_
  rintro e w20 ⟨rfl, hb20⟩
  have HB320 : Hid (Below W3.heap.size W3 w20) := nx HB319.out hb20
  have HMA20 := Lib.hid (HMA9.out.below hb20)
  have HMB20 := Lib.hid (HMB9.out.below hb20)
  have HK720 := Lib.hid (HK719.out.below hb20)
  clear k30 k31 k32 hb20
  obtain ⟨k70, k71, k72⟩ := HK720.out
  go_wp2_with fail
  refine (HHM7.out _ HMA20.out HMB20.out).mono ?_
  rintro e w21 ⟨rfl, hb21⟩
  go_wp2
  go_ret
  exact ⟨rfl, HG1.out ▸ nx HB1.out (nx HB14.out (nx HB320.out hb21))⟩
end Go.Proofs.YtfiaankfmdpmkaaDoor
