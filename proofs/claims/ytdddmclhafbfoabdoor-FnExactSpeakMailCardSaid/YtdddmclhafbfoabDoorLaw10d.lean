/-
  The exact law of spoken mails: its walk. For every input of the law: it returns true, and the input reads as it did. Conditions: none but the statement's own.
-/
import Derived.Test.YtdddmclhafbfoabDoorMalK
import Derived.Test.YtdddmclhafbfoabDoorSpk
import Derived.Test.YtdddmclhafbfoabDoorZip
namespace Go.Proofs.YtdddmclhafbfoabDoor
open Go.ChangeShapes Go.WideShapes Go.ChangeAt Go.RowKit
open Go.ChangeMaps (open_string shut_string)

theorem rdL_slice {B : Nat} {a : Option Addr} {n c : Nat} {xs : List (List UInt8)} {w : World} (h : OwnL B (.slice a n c) xs w) : RdL w a n xs := by
  obtain ⟨a', c', e, hr, _⟩ := h.read
  injection e with e1 e2 e3
  subst e1 e2
  exact hr
theorem speakM_len (m : Ml) : ((speakM m).getD []).length ≤ 50 := by
  unfold speakM
  split
  · rename_i h
    rw [Bool.and_eq_true] at h
    obtain ⟨h1, _, h3⟩ := isMail_iff.1 h.1
    obtain ⟨_, h4, _⟩ := isDraft_iff.1 h1
    show (speakL m ++ [[46]]).length ≤ 50
    unfold speakL; simp; omega
  · simp
set_option maxRecDepth 100000 in
set_option maxHeartbeats 4000000 in
theorem fnExactSpeakMail_walk (x : MlA) (w : World) (en : Env w) (hx : RdM maxLen w x) :
    Calls Tryd.prog 6 #[mlV x] w fun e w' => e = .returned (.bool true) ∧ Below w.heap.size w w' := by
  obtain ⟨s1, a1, n1, c1, b1, k1, d1, m1, hv1, hr1⟩ : ∃ s a n c b k d m, mlV x = .agg #[.string s, .slice a n c, .slice b k d] ∧ RdV maxLen w s a n c b k d m := ⟨_, _, _, _, _, _, _, x.m, rfl, RdV.of hx⟩
  rw [hv1]
  have hb0 : Below w.heap.size w (w.alloc (.cells #[.string s1, .slice a1 n1 c1, .slice b1 k1 d1] 29)) := (Below.refl _ _).alloc (Nat.le_refl _) _
  have HP1 := Lib.hid (MK3.new w (.string s1) (.slice a1 n1 c1) (.slice b1 k1 d1) 29)
  have HG0 := Lib.hid (hr1.below hb0)
  have HT0 := Lib.hid (en.below hb0)
  have HSZ := Lib.hid (szMail_v HG0.out (t := 1048576) (by omega) (by omega))
  have HNK : Hid (SmallM 1048576 m1 → n1 ≤ 1048576 ∧ k1 ≤ 1048576) := fun h => ⟨hr1.2.1 ▸ h.2.1, hr1.2.2.1 ▸ h.2.2.2.1⟩
  clear hr1 en hx hv1
  generalize hW : w.alloc (.cells #[.string s1, .slice a1 n1 c1, .slice b1 k1 d1] 29) = W0 at *
  have HW := Lib.hid hW
  have HRT : Hid (∀ w1 u, SmallM 1048576 m1 → Below W0.heap.size W0 w1 → Below w1.heap.size w1 u → RdV 1048576 u s1 a1 n1 c1 b1 k1 d1 m1) := fun w1 u ho hb1 h => ((HG0.out.below hb1).below h).up ho
  have HT1 : Hid (∀ u, RdV 1048576 u s1 a1 n1 c1 b1 k1 d1 m1 → Calls Tryd.prog 11 #[.agg #[.string s1, .slice a1 n1 c1, .slice b1 k1 d1]] u fun e w' => ∃ (s : ByteArray) (a : Option Addr) (n c : Nat) (b : Option Addr) (k d : Nat), e = .returned (.agg #[.string s, .slice a n c, .slice b k d]) ∧ RdV 1048576 w' s a n c b k d m1 ∧ ShV u.heap.size w'.heap.size w' a n c b k d m1 ∧ Below u.heap.size u w') := fun u h => toMail_w h
  have HVS : Hid (∀ u (s : ByteArray) (a : Option Addr) (n c : Nat) (b : Option Addr) (k d : Nat), RdV 1048576 u s a n c b k d m1 → Calls Tryd.prog 18 #[.agg #[.string s, .slice a n c, .slice b k d]] u (SpkRet (speakM m1) u)) := fun u s a n c b k d h => h.calls [] (fun x hx hr => hx ▸ speakMailS_any 1048576 x u hr (by omega))
  have HVI : Hid (∀ u (s : ByteArray) (a : Option Addr) (n c : Nat) (b : Option Addr) (k d : Nat), Env u → RdV 1048576 u s a n c b k d m1 → Calls Tryd.prog 19 #[.agg #[.string s, .slice a n c, .slice b k d]] u (SpkRet (speakM m1) u)) := fun u s a n c b k d t h => h.calls [] (fun x hx hr => hx ▸ speakMail_any 1048576 x u t hr (by omega))
  have HEQ : Hid (∀ u (s : ByteArray) (a : Option Addr) (n c : Nat) (b : Option Addr) (k d : Nat) (s' : ByteArray) (a' : Option Addr) (n' c' : Nat) (b' : Option Addr) (k' d' : Nat), RdV 1048576 u s a n c b k d m1 → RdV 1048576 u s' a' n' c' b' k' d' m1 → Calls Tryd.prog 12 #[.agg #[.string s, .slice a n c, .slice b k d], .agg #[.string s', .slice a' n' c', .slice b' k' d']] u fun e w' => e = .returned (.bool true) ∧ Below u.heap.size u w') := fun u _ _ _ _ _ _ _ _ _ _ _ _ _ _ h h2 => eqMail_v h h2
  have HMK : Hid (∀ G E u (s : ByteArray) (a : Option Addr) (n c : Nat) (b : Option Addr) (k d : Nat), ShV G E u a n c b k d m1 → G ≤ u.heap.size → 1 + (n + k) ≤ 1073741824 → Calls Tryd.prog 21 #[.agg #[.string s, .slice a n c, .slice b k d], .int .i64 1] u fun e w' => e = .returned (.int .i64 ((1 + (n + k) : Nat) : Int)) ∧ MkS G E u w') := fun G E u s a n c b k d h hG hk => markMail_v 1 h hG (by omega) hk
  have hLL : ((speakM m1).getD []).length ≤ 500000 := by have := speakM_len m1; omega
  unfold SpkRet at HVS HVI
  generalize (speakM m1).getD [] = ls at *
  generalize (speakM m1).isSome = q at *
  obtain ⟨L, hL⟩ : ∃ L, L = ls.length := ⟨_, rfl⟩
  have HVS : Hid (∀ u (s : ByteArray) (a : Option Addr) (n c : Nat) (b : Option Addr) (k d : Nat), RdV 1048576 u s a n c b k d m1 → Calls Tryd.prog 18 #[.agg #[.string s, .slice a n c, .slice b k d]] u fun e w' => ∃ a c, e = .returned (.tuple #[.slice a L c, .bool q]) ∧ OwnL u.heap.size (.slice a L c) ls w' ∧ Below u.heap.size u w') := fun u s a n c b k d h => (HVS.out u s a n c b k d h).mono fun e w' ⟨v', he, ho, hb⟩ => by
    obtain ⟨a, c, rfl, _⟩ := ho.read
    rw [← hL] at he ho
    exact ⟨a, c, he, ho, hb⟩
  have HVI : Hid (∀ u (s : ByteArray) (a : Option Addr) (n c : Nat) (b : Option Addr) (k d : Nat), Env u → RdV 1048576 u s a n c b k d m1 → Calls Tryd.prog 19 #[.agg #[.string s, .slice a n c, .slice b k d]] u fun e w' => ∃ a c, e = .returned (.tuple #[.slice a L c, .bool q]) ∧ OwnL u.heap.size (.slice a L c) ls w' ∧ Below u.heap.size u w') := fun u s a n c b k d t h => (HVI.out u s a n c b k d t h).mono fun e w' ⟨v', he, ho, hb⟩ => by
    obtain ⟨a, c, rfl, _⟩ := ho.read
    rw [← hL] at he ho
    exact ⟨a, c, he, ho, hb⟩
  have HES : Hid (∀ u a c b d, RdL u a L ls → RdL u b L ls → Calls Tryd.prog 20 #[.slice a L c, .slice b L d] u fun e w' => e = .returned (.bool true) ∧ Below u.heap.size u w') := fun u a c b d h1 h2 => by
    have := eqStringS_any a b L c L d ls ls u h1 h2 (by unfold maxLen; omega) (by unfold maxLen; omega)
    rw [decide_eq_true (rfl : ls = ls)] at this; exact this
  have HMS : Hid (∀ B u a c, OwnL B (.slice a L c) ls u → B ≤ u.heap.size → Calls Tryd.prog 22 #[.slice a L c, .int .i64 1] u fun e w' => e = .returned (.int .i64 ((1 + L : Nat) : Int)) ∧ RdL w' a L (marksFrom 1 L) ∧ Below B u w') := fun B u a c h hB => (markStringS_any B a L c ls 1 u h hL.symm hB (by omega) (by omega)).mono fun e w' ⟨he, ho, hb⟩ => by
    have h2 : OwnL B (.slice a (marksFrom 1 L).length c) (marksFrom 1 L) w' := by rw [marksFrom_len]; exact ho
    have := rdL_slice h2
    rw [marksFrom_len] at this
    exact ⟨he, this, hb⟩
  have HHS : Hid (∀ u a c, RdL u a L (marksFrom 1 L) → Calls Tryd.prog 23 #[.slice a L c, .int .i64 1] u fun e w' => e = .returned (.int .i64 ((1 + L : Nat) : Int)) ∧ Below u.heap.size u w') := fun u a c h => heldStringS_any a L c 1 u h (by omega) (by omega)
  rw [← hL] at hLL
  obtain ⟨KM, hKM⟩ : ∃ KM : Int, KM = ((1 + L : Nat) : Int) := ⟨_, rfl⟩
  have hkm1 : ¬ (KM < 0) := by omega
  have hkm2 : (KM != KM) = false := by simp
  rw [← hKM] at HMS HHS
  clear HG0 hL hKM
  have hne : (q != q) = false := by simp
  clear hW
  go_enter Tryd.func6, Tryd.ntmps6
  go_wp2_with fail
  rw [HW.out]
  refine HSZ.out.mono ?_
  rintro e w1 ⟨r, rfl, hr1, hr2, hok, hb1⟩
  have HB1 := Lib.hid (nx hb0 hb1)
  have HP11 := Lib.hid (HP1.out.below hb1)
  have HTB := Lib.hid (HT0.out.below hb1)
  have HOK := Lib.hid hok
  have HBB := Lib.hid hb1
  clear hok hb0 hb1 HW
  by_cases hneg : r < 0
  · go_wp2
    go_ret
    exact ⟨rfl, HB1.out⟩
  have HR1 := Lib.hid (fun u h => HRT.out w1 u (HOK.out (by omega)) HBB.out h)
  have HSM : Hid (SmallM 1048576 m1) := HOK.out (by omega)
  clear HRT HOK hr1 hr2
  generalize hg1 : w.heap.size = G1 at HP11 ⊢
  have HG1 := Lib.hid hg1
  clear hg1
  obtain ⟨y0, y1, y2⟩ := HP11.out
  go_wp2_with fail
  refine (HT1.out _ (HR1.out _ (Below.refl _ _))).mono ?_
  rintro e w2 ⟨t1, e1, f1, g1x, h1x, i1, j1, rfl, hd2, _, hb2⟩
  have HD2 := Lib.hid hd2
  clear hd2
  go_wp2_with fail
  refine (HVS.out _ _ _ _ _ _ _ _ HD2.out).mono ?_
  rintro e w3 ⟨aw, cw, rfl, how, hb3⟩
  have hb13 := nx hb2 hb3
  have HB13 := Lib.hid hb13
  have HRW := Lib.hid (rdL_slice how)
  have HP3 := Lib.hid (HP11.out.below hb13)
  have HT3 := Lib.hid (HTB.out.below hb13)
  have HR3 : Hid (∀ u, Below w3.heap.size w3 u → RdV 1048576 u s1 a1 n1 c1 b1 k1 d1 m1) := fun u h => HR1.out u (nx HB13.out h)
  clear y0 y1 y2 HD2 hb2 hb3 how hb13
  obtain ⟨y0, y1, y2⟩ := HP3.out
  go_wp2_with fail
  refine (HT1.out _ (HR3.out _ (Below.refl _ _))).mono ?_
  rintro e w4 ⟨t4, e4, f4, g4x, h4x, i4, j4, rfl, hd4, hs4, hb4⟩
  have hA4 : Below w4.heap.size w4 (w4.alloc (.cells #[.string t4, .slice e4 f4 g4x, .slice h4x i4 j4] 25)) := (Below.refl _ _).alloc (Nat.le_refl _) _
  have HX5 := Lib.hid (MK3.new w4 (.string t4) (.slice e4 f4 g4x) (.slice h4x i4 j4) 25)
  have HD5 := Lib.hid (hd4.below hA4)
  have HS5 := Lib.hid (hs4.below hA4)
  have hb35 := nx hb4 hA4
  have hz34 := hb4.size
  clear y0 y1 y2 hd4 hs4
  obtain ⟨y0, y1, y2⟩ := HP3.out.below hb35
  go_wp2_with fail
  refine (HVI.out _ _ _ _ _ _ _ _ (HT3.out.below hb35) HD5.out).mono ?_
  rintro e w9 ⟨ag, cg, rfl, hog, hb9⟩
  have HZ45 : Hid (w4.heap.size ≤ (w4.alloc (.cells #[.string t4, .slice e4 f4 g4x, .slice h4x i4 j4] 25)).heap.size) := hA4.size
  have HOG : Hid (OwnL w4.heap.size (.slice ag L cg) ls w9) := hog.base hA4.size
  have HB39 : Hid (Below w3.heap.size w3 w9) := nx hb35 hb9
  have HD9 := Lib.hid (HD5.out.below hb9)
  have HS9 := Lib.hid (HS5.out.below hb9)
  have HX9 := Lib.hid (HX5.out.below hb9)
  clear y0 y1 y2 hb9 hb35 hA4 hb4 hog HX5 HD5 HS5 HZ45
  generalize hx : w4.heap.size = X at *
  clear hx
  obtain ⟨y0, y1, y2⟩ := HP3.out.below HB39.out
  go_wp2_with fail
  refine (HES.out _ _ _ _ _ (rdL_slice HOG.out) (HRW.out.below HB39.out)).mono ?_
  rintro e w10 ⟨rfl, hb10⟩
  have HB310 : Hid (Below w3.heap.size w3 w10) := nx HB39.out hb10
  have HD10 := Lib.hid (HD9.out.below hb10)
  have HS10 := Lib.hid (HS9.out.below hb10)
  have HOG10 := Lib.hid (HOG.out.keep hb10)
  have HX10 := Lib.hid (HX9.out.below hb10)
  have HPB : Hid (∀ u, Below w10.heap.size w10 u → MK3 u G1 (.string s1) (.slice a1 n1 c1) (.slice b1 k1 d1) ∧ MK3 u X (.string t4) (.slice e4 f4 g4x) (.slice h4x i4 j4)) := fun u h => ⟨HP3.out.below (nx HB310.out h), HX10.out.below h⟩
  clear y0 y1 y2 hb10
  go_wp2_with fail
  refine wp_region_grow (by kernel_rfl) ?_
  refine wpAnyG_take (fuel := 3) [true, true] (by kernel_rfl) (by kernel_rfl) (by rfl) (by kernel_rfl) ?_
  apply Exists.intro
  refine ⟨fun x => ?_, ?_⟩
  · have y0 := fun (y : BelowT x.val) => (HPB.out y.val (nx x.below y.below)).1.1
    have y1 := fun (y : BelowT x.val) => (HPB.out y.val (nx x.below y.below)).1.2.1
    have y2 := fun (y : BelowT x.val) => (HPB.out y.val (nx x.below y.below)).1.2.2
    have z0 := fun (y : BelowT x.val) => (HPB.out y.val (nx x.below y.below)).2.1
    have z1 := fun (y : BelowT x.val) => (HPB.out y.val (nx x.below y.below)).2.2.1
    have z2 := fun (y : BelowT x.val) => (HPB.out y.val (nx x.below y.below)).2.2.2
    simp only [pickL]
    repeat (go_big_quiet_step (fail))
    exact wpQuiet_nil rfl
  refine wpAnyG_one (m := 2) (by kernel_rfl) (fun u1 g1 => ?_)
  refine wpOp_at (o := _) (by rfl) (by rfl) ?_
  go_simp
  refine (HT1.out _ (HR3.out _ (nx HB310.out g1))).mono ?_
  rintro e w11 ⟨t11, e11, f11, g11x, h11x, i11, j11, rfl, hd11, _, hb11⟩
  refine ⟨hb11, ?_⟩
  try simp only [Act.put, List.setIfInBounds_toArray, List.set_cons_zero, List.set_cons_succ]
  refine wpAnyG_one (m := 3) (by kernel_rfl) (fun u2 g2 => ?_)
  refine wpOp_at (o := _) (by rfl) (by rfl) ?_
  go_simp
  refine (HEQ.out _ _ _ _ _ _ _ _ _ _ _ _ _ _ _ (HD10.out.below (nx (nx g1 hb11) g2)) (hd11.below g2)).mono ?_
  rintro e w12 ⟨rfl, hb12⟩
  refine ⟨hb12, ?_⟩
  try simp only [Act.put, List.setIfInBounds_toArray, List.set_cons_zero, List.set_cons_succ]
  refine wpAnyG_take (fuel := 0) [false, false, false, false, true] (by kernel_rfl) (by kernel_rfl) (by rfl) (by kernel_rfl) ?_
  apply Exists.intro
  refine ⟨fun x => ?_, ?_⟩
  · skip
    simp only [pickL]
    repeat (go_big_quiet_step (fail))
    exact wpQuiet_nil rfl
  refine wpAnyG_done (by kernel_rfl) (fun x => ?_) _
  have hbx := x.below
  generalize x.val = w13 at *
  have HB1013 : Hid (Below w10.heap.size w10 w13) := nx (nx g1 hb11) (nx (nx g2 hb12) hbx)
  clear g1 hb11 g2 hb12 hbx hd11
  have HB313 : Hid (Below w3.heap.size w3 w13) := nx HB310.out HB1013.out
  have HS13 := Lib.hid (HS10.out.below HB1013.out)
  have HOG13 := Lib.hid (HOG10.out.keep HB1013.out)
  have hz313 := HB313.out.size
  obtain ⟨z0, z1, z2⟩ := HX10.out.below HB1013.out
  go_wp2_with fail
  obtain ⟨KP, hKP⟩ : ∃ KP : Int, KP = ((1 + (f4 + i4) : Nat) : Int) := ⟨_, rfl⟩
  have hkp : ¬ (KP < 0) := by omega
  have HMK2 := Lib.hid (HMK.out w3.heap.size X w13 t4 e4 f4 g4x h4x i4 j4 HS13.out hz313 (by have h1 := HS13.out.1; have h2 := HS13.out.2.1; have := HSM.out.2.1; have := HSM.out.2.2.2.1; omega))
  rw [← hKP] at HMK2
  clear hKP
  refine HMK2.out.mono ?_
  rintro e w14 ⟨rfl, ht14⟩
  have HB314 : Hid (Below w3.heap.size w3 w14) := HB313.out.trans ht14.low
  have HOG14 := Lib.hid (ht14.own HOG13.out)
  have hz14 := ht14.low.size
  have hX14 : X ≤ w14.heap.size := by
    have := HOG14.out
    have h13 := lt_of_cell z0
    omega
  clear z0 z1 z2 ht14
  go_wp2_with fail
  refine (HES.out _ _ _ _ _ (rdL_slice HOG14.out) (HRW.out.below HB314.out)).mono ?_
  rintro e w15 ⟨rfl, hb15⟩
  have HB315 : Hid (Below w3.heap.size w3 w15) := nx HB314.out hb15
  have HOG15 := Lib.hid (HOG14.out.keep hb15)
  have hX15 : X ≤ w15.heap.size := Nat.le_trans hX14 hb15.size
  clear hb15
  go_wp2_with fail
  refine (HMS.out X _ _ _ HOG15.out hX15).mono ?_
  rintro e w16 ⟨rfl, hm16, hb16⟩
  have HB316 : Hid (Below w3.heap.size w3 w16) := HB315.out.trans (hb16.mono hz34)
  have HM16 := Lib.hid hm16
  clear hm16 hb16
  go_wp2_with fail
  refine (HHS.out _ _ _ HM16.out).mono ?_
  rintro e w17 ⟨rfl, hb17⟩
  have HB317 : Hid (Below w3.heap.size w3 w17) := nx HB316.out hb17
  have HM17 := Lib.hid (HM16.out.below hb17)
  clear hb17
  obtain ⟨y0, y1, y2⟩ := HP3.out.below HB317.out
  go_wp2_with fail
  refine (HT1.out _ (HR3.out _ HB317.out)).mono ?_
  rintro e w18 ⟨t18, e18, f18, g18x, h18x, i18, j18, rfl, hd18, _, hb18⟩
  have HB318 : Hid (Below w3.heap.size w3 w18) := nx HB317.out hb18
  have HM18 := Lib.hid (HM17.out.below hb18)
  have HD18 := Lib.hid hd18
  clear hd18 hb18 y0 y1 y2
  go_wp2_with fail
  refine (HVI.out _ _ _ _ _ _ _ _ (HT3.out.below HB318.out) HD18.out).mono ?_
  rintro e w19 ⟨ah, ch, rfl, hoh, hb19⟩
  have HB319 : Hid (Below w3.heap.size w3 w19) := nx HB318.out hb19
  have HM19 := Lib.hid (HM18.out.below hb19)
  have HRH := Lib.hid (rdL_slice hoh)
  clear hoh hb19
  go_wp2_with fail
  refine (HES.out _ _ _ _ _ HRH.out (HRW.out.below HB319.out)).mono ?_
  rintro e w20 ⟨rfl, hb20⟩
  have HB320 : Hid (Below w3.heap.size w3 w20) := nx HB319.out hb20
  have HM20 := Lib.hid (HM19.out.below hb20)
  clear hb20
  go_wp2_with fail
  refine (HHS.out _ _ _ HM20.out).mono ?_
  rintro e w21 ⟨rfl, hb21⟩
  go_wp2
  go_ret
  exact ⟨rfl, HG1.out ▸ nx HB1.out (nx HB13.out (nx HB320.out hb21))⟩
end Go.Proofs.YtdddmclhafbfoabDoor
