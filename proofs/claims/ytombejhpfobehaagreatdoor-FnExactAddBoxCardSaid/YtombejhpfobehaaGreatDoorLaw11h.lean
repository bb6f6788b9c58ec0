/-
  The exact law of one more mailbox: its walk. For every input of the law: it returns true, and the input reads as it did. Conditions: none but the statement's own.
-/
import Derived.Test.YtombejhpfobehaaGreatDoorZip2
import Derived.Test.YtombejhpfobehaaGreatDoorZip3
namespace Go.Proofs.YtombejhpfobehaaGreatDoor
open Go.ChangeShapes Go.WideShapes Go.ChangeAt Go.RowKit
open Go.ChangeMaps (open_string shut_string)

theorem wgBs_app (xs ys : List Bx) : wgBs (xs ++ ys) = wgBs xs + wgBs ys := by
  unfold wgBs; rw [List.length_append, List.map_append, List.sum_append]; omega
theorem wgBs_cons (x : Bx) (ys : List Bx) : wgBs (x :: ys) = 1 + wgB x + wgBs ys := by
  unfold wgBs; rw [List.length_cons, List.map_cons, List.sum_cons]; omega
theorem wgBs_addO (p : List UInt8) (bs : List Bx) : wgBs (addO p bs) ≤ wgBs bs + (1 + p.length) := by
  unfold addO
  split
  · unfold addB
    have h := wgBs_app (bs.take (cntP p (bs.map (·.path)))) (bs.drop (cntP p (bs.map (·.path))))
    rw [List.take_append_drop] at h
    have e : wgB ⟨p, []⟩ = p.length := by unfold wgB wgMs; simp
    rw [wgBs_app, wgBs_cons, e]; omega
  · exact Nat.zero_le _
theorem OwnBs.eqv {B B' : Nat} {v v' : Value} {ys zs : List BxA} {Z : List Bx} {u : World} (h : OwnBs B v ys u) (h' : OwnBs B' v' zs u) (e : ys.map BxA.b = Z) (e' : zs.map BxA.b = Z) (hz : wgBs Z ≤ 4194304) :
    Calls Tryz.prog 13 #[v, v'] u fun e w' => e = .returned (.bool true) ∧ Below u.heap.size u w' := by
  obtain ⟨a1, c1, hv1, _⟩ := h.1.read bxC_len
  obtain ⟨a2, c2, hv2, _⟩ := h'.1.read bxC_len
  subst hv1 hv2
  have hs := wgBs_small hz
  have l1 : ys.length ≤ 4194304 := by have := hs.1; rw [← e, List.length_map] at this; exact this
  have l2 : zs.length ≤ 4194304 := by have := hs.1; rw [← e', List.length_map] at this; exact this
  have := eqBoxS_any 4194304 a1 a2 ys.length c1 zs.length c2 ys zs u rfl rfl (h.rd (fun x hx => hs.2 x.b (e ▸ List.mem_map_of_mem hx))).1 (h'.rd (fun x hx => hs.2 x.b (e' ▸ List.mem_map_of_mem hx))).1 (by unfold maxLen; omega) (by unfold maxLen; omega) (by unfold maxLen; omega)
  rw [decide_eq_true (e.trans e'.symm)] at this; exact this
theorem OwnBs.mark {B : Nat} {v : Value} {ys : List BxA} {Z : List Bx} {u : World} (h : OwnBs B v ys u) (e : ys.map BxA.b = Z) (hz : wgBs Z ≤ 4194304) :
    Calls Tryz.prog 14 #[v, .int .i64 1] u (fun e w' => e = .returned (.int .i64 ((1 + cntBs Z : Nat) : Int)) ∧ OwnBs B v (mkBs 1 ys) w' ∧ Turn (blkB v ys) u w') := by
  obtain ⟨a1, c1, hv1, _⟩ := h.1.read bxC_len
  subst hv1
  have hc : smB ys = cntBs Z := by rw [smB_cnt, e]
  have := markBoxS_any B a1 ys.length c1 ys 1 u h rfl (by omega) (by rw [hc]; have := cntBs_le Z; omega)
  unfold MkBRet at this
  rw [hc] at this; exact this
theorem OwnBs.held {B : Nat} {v : Value} {ys : List BxA} {Z : List Bx} {u : World} (h : OwnBs B v (mkBs 1 ys) u) (e : ys.map BxA.b = Z) (hz : wgBs Z ≤ 4194304) :
    Calls Tryz.prog 15 #[v, .int .i64 1] u (fun e w' => e = .returned (.int .i64 ((1 + cntBs Z : Nat) : Int)) ∧ Below u.heap.size u w') := by
  obtain ⟨a1, c1, hv1, _⟩ := h.1.read bxC_len
  subst hv1
  have hc : smB ys = cntBs Z := by rw [smB_cnt, e]
  have hr := (h.rd (M := wgBs ((mkBs 1 ys).map BxA.b)) (fun x hx => (wgBs_small (Nat.le_refl _)).2 x.b (List.mem_map_of_mem hx))).1
  have := heldBoxS_any _ a1 ys.length (c1) ys 1 u hr rfl (by omega) (by rw [hc]; have := cntBs_le Z; omega)
  rw [hc] at this
  rw [mkBs_len]; exact this
set_option maxRecDepth 100000 in
set_option maxHeartbeats 4000000 in
theorem fnExactAddBox_walk (a : Option Addr) (n c : Nat) (xs : List BxA) (s : ByteArray) (w : World) (en : Env w) (hx : xs.length = n ∧ n ≤ maxLen ∧ n ≤ c ∧ (a = none → c = 0) ∧ RdBs maxLen w a xs) (hs : s.size ≤ maxLen) :
    Calls Tryz.prog 3 #[.slice a n c, .string s] w fun e w' => e = .returned (.bool true) ∧ Below w.heap.size w w' := by
  unfold maxLen at hs
  by_cases hbig : 1048576 < s.size
  · have d1 : (1048576 : Int) < (s.size : Int) := by omega
    clear hx
    go_enter Tryz.func3, Tryz.ntmps3
    go_wp2
    go_ret
    exact ⟨rfl, Below.refl _ _⟩
  have d1 : ¬ (1048576 : Int) < (s.size : Int) := by omega
  obtain ⟨hl, hn, _, _, hr⟩ := hx
  obtain ⟨p, hp⟩ : ∃ p, s = str p := ⟨s.data.toList, (str_of s).symm⟩
  have hpl : p.length ≤ 1048576 := by rw [← str_size, ← hp]; omega
  obtain ⟨bs, hbs⟩ : ∃ bs, bs = xs.map BxA.b := ⟨_, rfl⟩
  have HSZ : Hid (Calls Tryz.prog 9 #[.slice a n c, .int .i64 1048576] w (SizedC 1048576 (wgBs bs) w)) := hbs ▸ szBoxS_c a n c xs 1048576 w hl hr hn (by omega) (by omega)
  have HT : Hid (∀ u, wgBs bs ≤ 1048576 → Below w.heap.size w u → Calls Tryz.prog 11 #[.slice a n c] u (fun e w' => ∃ (v : Value) (ys : List BxA), e = .returned v ∧ ys.map BxA.b = bs ∧ OwnBs u.heap.size v ys w' ∧ Below u.heap.size u w')) := fun u h hb => by
    have hsm := wgBs_small h
    exact (toBoxS_own a n c xs u hl ((hr.below hb).up (fun y hy => hsm.2 y.b (hbs ▸ List.mem_map_of_mem hy))) (by have := hsm.1; rw [hbs, List.length_map] at this; omega)).mono fun e w' ⟨a', ys, he, h1, h2, h3, _, h5⟩ => ⟨_, ys, he, h1.trans hbs.symm, h3, h5⟩
  have HVS : Hid (∀ u B v ys, wgBs bs ≤ 1048576 → OwnBs B v ys u → ys.map BxA.b = bs → Calls Tryz.prog 10 #[v, .string s] u (AddRet (addO p bs) (addOk p bs) u)) := fun u B v ys h ho he => by
    have hsm := wgBs_small h
    obtain ⟨a1, c1, hv1, _⟩ := ho.1.read bxC_len
    subst hv1
    rw [hp, ← he]
    exact addBoxS_any 1048576 a1 ys.length c1 ys p u rfl (ho.rd (fun x hx => hsm.2 x.b (he ▸ List.mem_map_of_mem hx))).1 (by omega) (by have := hsm.1; rw [← he, List.length_map] at this; omega) (by omega)
  have HVI : Hid (∀ u B v ys, wgBs bs ≤ 1048576 → Below w.heap.size w u → OwnBs B v ys u → ys.map BxA.b = bs → Calls Tryz.prog 12 #[v, .string s] u (AddRet (addO p bs) (addOk p bs) u)) := fun u B v ys h hb ho he => by
    have hsm := wgBs_small h
    obtain ⟨a1, c1, hv1, _⟩ := ho.1.read bxC_len
    subst hv1
    rw [hp, ← he]
    exact addBox_any 1048576 a1 ys.length c1 ys p u (en.below hb) rfl (ho.rd (fun x hx => hsm.2 x.b (he ▸ List.mem_map_of_mem hx))).1 (by omega) (by have := hsm.1; rw [← he, List.length_map] at this; omega) (by omega)
  have HAO : Hid (wgBs bs ≤ 1048576 → wgBs (addO p bs) ≤ 4194304 ∧ wgBs bs ≤ 4194304) := fun h => ⟨by have := wgBs_addO p bs; omega, by omega⟩
  clear hr hl hn hbs en hp hpl
  generalize addO p bs = AO at *
  generalize addOk p bs = ok at *
  have hne : (ok != ok) = false := by simp
  go_enter Tryz.func3, Tryz.ntmps3
  go_wp2_with fail
  refine HSZ.out.mono ?_
  rintro e w1 ⟨r, rfl, hr1, hr2, hok, hb1⟩
  have HOK := Lib.hid hok
  clear hok
  by_cases hneg : r < 0
  · go_wp2
    go_ret
    exact ⟨rfl, hb1⟩
  have hsm : wgBs bs ≤ 1048576 := by have := HOK.out (by omega); omega
  have HT1 := Lib.hid (fun u h => HT.out u hsm h)
  have HVS1 := Lib.hid (fun u B v ys h1 h2 => HVS.out u B v ys hsm h1 h2)
  have HVI1 := Lib.hid (fun u B v ys h0 h1 h2 => HVI.out u B v ys hsm h0 h1 h2)
  have HZ := Lib.hid (HAO.out hsm)
  clear hr1 hr2 HOK HT HVS HVI HAO hsm
  go_wp2_with fail
  refine (HT1.out _ hb1).mono ?_
  rintro e w2 ⟨v2, ys2, rfl, h21, h22, hb2⟩
  have hb02 := nx hb1 hb2
  have HS2 := Lib.hid (HVS1.out w2 _ v2 ys2 h22 h21)
  clear h21 h22
  go_wp2_with fail
  refine HS2.out.mono ?_
  rintro e w3 ⟨v3, zs3, rfl, h31, h32, hb3⟩
  have H31 := Lib.hid h31
  have H32 := Lib.hid h32
  have hb03 := nx hb02 hb3
  clear h31 h32 HS2 hb2 hb3
  go_wp2_with fail
  refine (HT1.out _ hb03).mono ?_
  rintro e w4 ⟨v4, ys4, rfl, h41, h42, hb4⟩
  have H41 := Lib.hid h41
  have H42 := Lib.hid h42
  have H324 := Lib.hid (H32.out.keep hb4)
  have hb04 := nx hb03 hb4
  have hs34 : w3.heap.size ≤ w4.heap.size := hb4.size
  have HB4 : Hid (∀ g, blkB v4 ys4 g → w3.heap.size ≤ g ∧ g < w4.heap.size) := fun g hg => h42.lt hg
  have HB3 : Hid (∀ g, blkB v3 zs3 g → g < w3.heap.size) := fun g hg => (H32.out.lt hg).2
  have HI4 := Lib.hid (HVI1.out w4 _ v4 ys4 hb04 h42 h41)
  clear h41 h42 hb4
  go_wp2_with fail
  refine HI4.out.mono ?_
  rintro e w5 ⟨v5, zs5, rfl, h51, h52, hb5⟩
  have H51 := Lib.hid h51
  have H52 := Lib.hid h52
  have H325 := Lib.hid (H324.out.keep hb5)
  have H425 := Lib.hid (H42.out.keep hb5)
  have hb05 := nx hb04 hb5
  have HEQ5 := Lib.hid (h52.eqv H325.out h51 H31.out HZ.out.1)
  clear h51 h52 hb5 HI4
  go_wp2_with fail
  refine HEQ5.out.mono ?_
  rintro e w6 ⟨rfl, hb6⟩
  have hb06 := nx hb05 hb6
  go_wp2_with fail
  refine (HT1.out _ hb06).mono ?_
  rintro e w7 ⟨v7, ys7, rfl, h71, h72, hb7⟩
  have H427 := Lib.hid ((H425.out.keep hb6).keep hb7)
  have H327 := Lib.hid ((H325.out.keep hb6).keep hb7)
  have H527 := Lib.hid ((H52.out.keep hb6).keep hb7)
  have hb07 := nx hb06 hb7
  have HEQ7 := Lib.hid (H427.out.eqv h72 H41.out h71 HZ.out.2)
  clear h71 h72 hb6 hb7 HEQ5
  go_wp2_with fail
  refine HEQ7.out.mono ?_
  rintro e w8 ⟨rfl, hb8⟩
  have H428 := Lib.hid (H427.out.keep hb8)
  have H328 := Lib.hid (H327.out.keep hb8)
  have H528 := Lib.hid (H527.out.keep hb8)
  have hb08 := nx hb07 hb8
  have HMK8 := Lib.hid (H428.out.mark H41.out HZ.out.2)
  have n1 : ¬ (((1 + cntBs bs : Nat) : Int) < 0) := by omega
  clear hb8 HEQ7
  obtain ⟨KX, hKX⟩ : ∃ K : Int, K = ((1 + cntBs bs : Nat) : Int) := ⟨_, rfl⟩
  rw [← hKX] at HMK8 n1
  clear hKX
  go_wp2_with fail
  refine HMK8.out.mono ?_
  rintro e w9 ⟨rfl, _, ht9⟩
  have H329 := Lib.hid (H328.out.turned ht9 (fun g hg k => by have := HB3.out g hg; have := HB4.out g k; omega))
  have H529 := Lib.hid (H528.out.turned ht9 (fun g hg k => by have := (H52.out.lt hg).1; have := HB4.out g k; omega))
  have hb09 := hb08.trans (ht9.below (fun g hg => by have := (HB4.out g hg).1; have := hb03.size; omega) hb08.size)
  have HEQ9 := Lib.hid (H529.out.eqv H329.out H51.out H31.out HZ.out.1)
  clear ht9 HMK8
  go_wp2_with fail
  refine HEQ9.out.mono ?_
  rintro e w10 ⟨rfl, hb10⟩
  have H3210 := Lib.hid (H329.out.keep hb10)
  have H5210 := Lib.hid (H529.out.keep hb10)
  have hb010 := nx hb09 hb10
  have HMK10 := Lib.hid (H5210.out.mark H51.out HZ.out.1)
  have n2 : ¬ (((1 + cntBs AO : Nat) : Int) < 0) := by omega
  have HHD : Hid (∀ u, OwnBs w4.heap.size v5 (mkBs 1 zs5) u → Calls Tryz.prog 15 #[v5, .int .i64 1] u (fun e w' => e = .returned (.int .i64 ((1 + cntBs AO : Nat) : Int)) ∧ Below u.heap.size u w')) := fun u h => h.held H51.out HZ.out.1
  clear hb10 HEQ9
  obtain ⟨KM, hKM⟩ : ∃ K : Int, K = ((1 + cntBs AO : Nat) : Int) := ⟨_, rfl⟩
  rw [← hKM] at HMK10 n2 HHD
  clear hKM
  have hkm : (KM != KM) = false := by simp
  go_wp2_with fail
  refine HMK10.out.mono ?_
  rintro e w11 ⟨rfl, hm11, ht11⟩
  have HM11 := Lib.hid hm11
  have H3211 := Lib.hid (H3210.out.turned ht11 (fun g hg k => by have := HB3.out g hg; have := (H52.out.lt k).1; omega))
  have hb011 := hb010.trans (ht11.below (fun g hg => by have := (H52.out.lt hg).1; have := hb04.size; omega) hb010.size)
  have HH11 := Lib.hid (HHD.out w11 hm11)
  clear ht11 hm11 HMK10
  go_wp2_with fail
  refine HH11.out.mono ?_
  rintro e w12 ⟨rfl, hb12⟩
  have HM12 := Lib.hid (HM11.out.keep hb12)
  have H3212 := Lib.hid (H3211.out.keep hb12)
  have hb012 := nx hb011 hb12
  clear hb12 HH11
  go_wp2_with fail
  refine (HT1.out _ hb012).mono ?_
  rintro e w13 ⟨v13, ys13, rfl, h131, h132, hb13⟩
  have HM13 := Lib.hid (HM12.out.keep hb13)
  have H3213 := Lib.hid (H3212.out.keep hb13)
  have hb013 := nx hb012 hb13
  have HI13 := Lib.hid (HVI1.out w13 _ v13 ys13 hb013 h132 h131)
  clear h131 h132 hb13
  go_wp2_with fail
  refine HI13.out.mono ?_
  rintro e w14 ⟨v14, zs14, rfl, h141, h142, hb14⟩
  have HM14 := Lib.hid (HM13.out.keep hb14)
  have H3214 := Lib.hid (H3213.out.keep hb14)
  have hb014 := nx hb013 hb14
  have HEQ14 := Lib.hid (h142.eqv H3214.out h141 H31.out HZ.out.1)
  clear h141 h142 hb14 HI13
  go_wp2_with fail
  refine HEQ14.out.mono ?_
  rintro e w15 ⟨rfl, hb15⟩
  have hb015 := nx hb014 hb15
  have HH15 := Lib.hid (HHD.out w15 (HM14.out.keep hb15))
  clear hb15 HEQ14
  go_wp2_with fail
  refine HH15.out.mono ?_
  rintro e w16 ⟨rfl, hb16⟩
  go_wp2
  go_ret
  exact ⟨rfl, nx hb015 hb16⟩
end Go.Proofs.YtombejhpfobehaaGreatDoor
