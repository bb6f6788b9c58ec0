/-
  The exact law of a mail that is taken: its walk. For every input of the law: it returns true, and the input reads as it did. Conditions: none but the statement's own.
-/
import Derived.Test.YtombejhpfobehaaGreatDoorZip3
import Derived.Test.YtombejhpfobehaaGreatDoorZip2
namespace Go.Proofs.YtombejhpfobehaaGreatDoor
open Go.ChangeShapes Go.WideShapes Go.ChangeAt Go.RowKit
open Go.ChangeMaps (open_string shut_string)

theorem wgBs_set : ∀ (bs : List Bx) (k : Nat) (b : Bx), k < bs.length → wgB b ≤ wgB (bs.getD k bx0) → wgBs (bs.set k b) ≤ wgBs bs
  | [], _, _, h, _ => by simp at h
  | x :: bs, 0, b, _, h => by
    have h' : wgB b ≤ wgB x := h
    unfold wgBs
    simp only [List.set_cons_zero, List.length_cons, List.map_cons, List.sum_cons]; omega
  | x :: bs, k + 1, b, hk, h => by
    have := wgBs_set bs k b (by simpa using hk) (by simpa using h)
    unfold wgBs at *
    simp only [List.set_cons_succ, List.length_cons, List.map_cons, List.sum_cons]; omega
theorem takeAt_lt {p : List UInt8} {bs : List Bx} {k : Nat} (h : takeAt p bs = some k) : k < bs.length := by
  unfold takeAt at h
  split at h
  · split at h
    · rename_i k' hf
      split at h
      · cases h
      · injection h with h; subst h
        obtain ⟨h1, _⟩ := fndP_some hf
        simpa using h1
    · cases h
  · cases h
theorem wgMs_tail (ms : List Ml) : wgMs ms.tail ≤ wgMs ms := by
  cases ms with
  | nil => exact Nat.le_refl _
  | cons m ms =>
    unfold wgMs
    simp only [List.tail_cons, List.length_cons, List.map_cons, List.sum_cons]; omega
theorem wgBs_takeBs (p : List UInt8) (bs : List Bx) : wgBs (takeBs p bs) ≤ wgBs bs := by
  unfold takeBs
  cases h : takeAt p bs with
  | none => exact Nat.zero_le _
  | some k =>
    refine wgBs_set bs k _ (takeAt_lt h) ?_
    unfold wgB
    have := wgMs_tail (bs.getD k bx0).mails
    show (bs.getD k bx0).path.length + wgMs (bs.getD k bx0).mails.tail ≤ (bs.getD k bx0).path.length + wgMs (bs.getD k bx0).mails
    omega
theorem wgM_takeMl (p : List UInt8) (bs : List Bx) : wgM (takeMl p bs) ≤ wgBs bs := by
  unfold takeMl
  cases h : takeAt p bs with
  | none => exact Nat.zero_le _
  | some k =>
    have hk := takeAt_lt h
    have hm : bs.getD k bx0 ∈ bs := by rw [List.getD_eq_getElem?_getD, List.getElem?_eq_getElem hk]; exact List.getElem_mem hk
    have h1 := wgBs_mem _ hm
    simp only []
    cases hc : (bs.getD k bx0).mails with
    | nil => exact Nat.zero_le _
    | cons m ms =>
      have h2 : wgM m ≤ wgMs (bs.getD k bx0).mails := wgMs_mem m (by rw [hc]; exact List.mem_cons_self)
      have h3 : wgMs (bs.getD k bx0).mails ≤ wgB (bs.getD k bx0) := by unfold wgB; omega
      show wgM m ≤ _
      omega
theorem OwnBs.eqv2 {B B' : Nat} {v v' : Value} {ys zs : List BxA} {Z : List Bx} {u : World} (h : OwnBs B v ys u) (h' : OwnBs B' v' zs u) (e : ys.map BxA.b = Z) (e' : zs.map BxA.b = Z) (hz : wgBs Z ≤ 4194304) :
    Calls Tryz.prog 13 #[v, v'] u fun e w' => e = .returned (.bool true) ∧ Below u.heap.size u w' := by
  obtain ⟨a1, c1, hv1, _⟩ := h.1.read bxC_len
  obtain ⟨a2, c2, hv2, _⟩ := h'.1.read bxC_len
  subst hv1 hv2
  have hs := wgBs_small hz
  have l1 : ys.length ≤ 4194304 := by have := hs.1; rw [← e, List.length_map] at this; exact this
  have l2 : zs.length ≤ 4194304 := by have := hs.1; rw [← e', List.length_map] at this; exact this
  have := eqBoxS_any 4194304 a1 a2 ys.length c1 zs.length c2 ys zs u rfl rfl (h.rd (fun x hx => hs.2 x.b (e ▸ List.mem_map_of_mem hx))).1 (h'.rd (fun x hx => hs.2 x.b (e' ▸ List.mem_map_of_mem hx))).1 (by unfold maxLen; omega) (by unfold maxLen; omega) (by unfold maxLen; omega)
  rw [decide_eq_true (e.trans e'.symm)] at this; exact this
theorem OwnBs.mark2 {B : Nat} {v : Value} {ys : List BxA} {Z : List Bx} {u : World} (h : OwnBs B v ys u) (e : ys.map BxA.b = Z) (hz : wgBs Z ≤ 4194304) :
    Calls Tryz.prog 14 #[v, .int .i64 1] u (fun e w' => e = .returned (.int .i64 ((1 + cntBs Z : Nat) : Int)) ∧ OwnBs B v (mkBs 1 ys) w' ∧ Turn (blkB v ys) u w') := by
  obtain ⟨a1, c1, hv1, _⟩ := h.1.read bxC_len
  subst hv1
  have hc : smB ys = cntBs Z := by rw [smB_cnt, e]
  have := markBoxS_any B a1 ys.length c1 ys 1 u h rfl (by omega) (by rw [hc]; have := cntBs_le Z; omega)
  unfold MkBRet at this
  rw [hc] at this; exact this
theorem OwnBs.held2 {B : Nat} {v : Value} {ys : List BxA} {Z : List Bx} {u : World} (h : OwnBs B v (mkBs 1 ys) u) (e : ys.map BxA.b = Z) (hz : wgBs Z ≤ 4194304) :
    Calls Tryz.prog 15 #[v, .int .i64 1] u (fun e w' => e = .returned (.int .i64 ((1 + cntBs Z : Nat) : Int)) ∧ Below u.heap.size u w') := by
  obtain ⟨a1, c1, hv1, _⟩ := h.1.read bxC_len
  subst hv1
  have hc : smB ys = cntBs Z := by rw [smB_cnt, e]
  have hr := (h.rd (M := wgBs ((mkBs 1 ys).map BxA.b)) (fun x hx => (wgBs_small (Nat.le_refl _)).2 x.b (List.mem_map_of_mem hx))).1
  have := heldBoxS_any _ a1 ys.length (c1) ys 1 u hr rfl (by omega) (by rw [hc]; have := cntBs_le Z; omega)
  rw [hc] at this
  rw [mkBs_len]; exact this
theorem blkB_mk {v : Value} {g : Nat} : ∀ {ys : List BxA} {q : Nat}, blkB v (mkBs q ys) g → blkB v ys g := fun {ys} {q} h => by
  rcases h with h | ⟨x, hx, h⟩
  · exact .inl h
  · suffices H : ∀ (ys : List BxA) (q : Nat), x ∈ mkBs q ys → ∃ y ∈ ys, blkX y g by
      exact .inr (H ys q hx)
    intro ys
    induction ys with
    | nil => intro q hx; cases hx
    | cons y ys ih =>
      intro q hx
      rw [mkBs] at hx
      rcases List.mem_cons.1 hx with rfl | hx
      · refine ⟨y, List.mem_cons_self, ?_⟩
        rcases h with h | h
        · exact .inl (by
            have e : (mkB q y).xs.length = y.xs.length := mkMs_len _ _
            rw [e] at h; exact h)
        · exact .inr (blk_mkMs g _ _ h)
      · obtain ⟨z, hz, h'⟩ := ih _ hx
        exact ⟨z, List.mem_cons_of_mem _ hz, h'⟩
theorem OwnM.eqm {B B' : Nat} {x y : MlA} {Z : Ml} {u : World} (h : OwnM B u x) (h' : OwnM B' u y) (e : x.m = Z) (e' : y.m = Z) (hz : SmallM 1048576 Z) :
    Calls Tryz.prog 18 #[.agg #[.string (str x.m.frm), .slice x.a1 x.m.to.length x.c1, .slice x.a2 x.m.lines.length x.c2], .agg #[.string (str y.m.frm), .slice y.a1 y.m.to.length y.c1, .slice y.a2 y.m.lines.length y.c2]] u fun e w' => e = .returned (.bool true) ∧ Below u.heap.size u w' := by
  have h1 := RdV.of (h.rd (M := 1048576) (e ▸ hz))
  have h2 := RdV.of (h'.rd (M := 1048576) (e' ▸ hz))
  rw [e'.trans e.symm] at h2 ⊢
  exact eqMail_v h1 h2
set_option maxRecDepth 100000 in
set_option maxHeartbeats 4000000 in
theorem fnExactTakeMail_walk (a : Option Addr) (n c : Nat) (xs : List BxA) (s : ByteArray) (w : World) (en : Env w) (hx : xs.length = n ∧ n ≤ maxLen ∧ n ≤ c ∧ (a = none → c = 0) ∧ RdBs maxLen w a xs) (hs : s.size ≤ maxLen) :
    Calls Tryz.prog 4 #[.slice a n c, .string s] w fun e w' => e = .returned (.bool true) ∧ Below w.heap.size w w' := by
  unfold maxLen at hs
  by_cases hbig : 1048576 < s.size
  · have d1 : (1048576 : Int) < (s.size : Int) := by omega
    clear hx
    go_enter Tryz.func4, Tryz.ntmps4
    go_wp2
    go_ret
    exact ⟨rfl, Below.refl _ _⟩
  have d1 : ¬ (1048576 : Int) < (s.size : Int) := by omega
  obtain ⟨hl, hn, _, _, hr⟩ := hx
  obtain ⟨p, hp⟩ : ∃ p, s = str p := ⟨s.data.toList, (str_of s).symm⟩
  obtain ⟨bs, hbs⟩ : ∃ bs, bs = xs.map BxA.b := ⟨_, rfl⟩
  have HSZ : Hid (Calls Tryz.prog 9 #[.slice a n c, .int .i64 1048576] w (SizedC 1048576 (wgBs bs) w)) := hbs ▸ szBoxS_c a n c xs 1048576 w hl hr hn (by omega) (by omega)
  have HT : Hid (∀ u, wgBs bs ≤ 1048576 → Below w.heap.size w u → Calls Tryz.prog 11 #[.slice a n c] u (fun e w' => ∃ (v : Value) (ys : List BxA), e = .returned v ∧ ys.map BxA.b = bs ∧ OwnBs u.heap.size v ys w' ∧ Below u.heap.size u w')) := fun u h hb => by
    have hsm := wgBs_small h
    exact (toBoxS_own a n c xs u hl ((hr.below hb).up (fun y hy => hsm.2 y.b (hbs ▸ List.mem_map_of_mem hy))) (by have := hsm.1; rw [hbs, List.length_map] at this; omega)).mono fun e w' ⟨a', ys, he, h1, h2, h3, _, h5⟩ => ⟨_, ys, he, h1.trans hbs.symm, h3, h5⟩
  have HVS : Hid (∀ u B v ys, wgBs bs ≤ 1048576 → OwnBs B v ys u → ys.map BxA.b = bs → Calls Tryz.prog 16 #[v, .string s] u (TakeRet (takeBs p bs) (takeMl p bs) (takeAt p bs).isSome u)) := fun u B v ys h ho he => by
    have hsm := wgBs_small h
    obtain ⟨a1, c1, hv1, _⟩ := ho.1.read bxC_len
    subst hv1
    rw [hp, ← he]
    exact takeMailS_any 1048576 a1 ys.length c1 ys p u rfl (ho.rd (fun x hx => hsm.2 x.b (he ▸ List.mem_map_of_mem hx))).1 (by omega) (by have := hsm.1; rw [← he, List.length_map] at this; omega)
  have HVI : Hid (∀ u B v ys, wgBs bs ≤ 1048576 → Below w.heap.size w u → OwnBs B v ys u → ys.map BxA.b = bs → Calls Tryz.prog 17 #[v, .string s] u (TakeRet (takeBs p bs) (takeMl p bs) (takeAt p bs).isSome u)) := fun u B v ys h hb ho he => by
    have hsm := wgBs_small h
    obtain ⟨a1, c1, hv1, _⟩ := ho.1.read bxC_len
    subst hv1
    rw [hp, ← he]
    exact takeMail_any 1048576 a1 ys.length c1 ys p u (en.below hb) rfl (ho.rd (fun x hx => hsm.2 x.b (he ▸ List.mem_map_of_mem hx))).1 (by omega) (by have := hsm.1; rw [← he, List.length_map] at this; omega)
  have HAO : Hid (wgBs bs ≤ 1048576 → wgBs (takeBs p bs) ≤ 4194304 ∧ wgBs bs ≤ 4194304 ∧ SmallM 1048576 (takeMl p bs) ∧ (takeMl p bs).to.length + (takeMl p bs).lines.length ≤ 1048576) := fun h => ⟨by have := wgBs_takeBs p bs; omega, by omega, wgM_small (Nat.le_trans (wgM_takeMl p bs) h), by have := wgM_takeMl p bs; unfold wgM at this; omega⟩
  clear hr hl hn hbs en hp
  generalize takeBs p bs = AO at *
  generalize takeMl p bs = TM at *
  generalize (takeAt p bs).isSome = ok at *
  have hne : (ok != ok) = false := by simp
  go_enter Tryz.func4, Tryz.ntmps4
  go_wp2_with fail
  refine HSZ.out.mono ?_
  rintro e w1 ⟨r, rfl, hr1, hr2, hok, hb1⟩
  have HOK := Lib.hid hok
  clear hok
  by_cases hneg : r < 0
  · go_wp2
    go_ret
    exact ⟨rfl, hb1⟩
  have hsm : wgBs bs ≤ 1048576 := by have := HOK.out (by omega); omega
  have HT1 := Lib.hid (fun u h => HT.out u hsm h)
  have HVS1 := Lib.hid (fun u B v ys h1 h2 => HVS.out u B v ys hsm h1 h2)
  have HVI1 := Lib.hid (fun u B v ys h0 h1 h2 => HVI.out u B v ys hsm h0 h1 h2)
  have HZ := Lib.hid (HAO.out hsm)
  clear hr1 hr2 HOK HT HVS HVI HAO hsm
  go_wp2_with fail
  refine (HT1.out _ hb1).mono ?_
  rintro e w2 ⟨v2, ys2, rfl, h21, h22, hb2⟩
  have hb02 := nx hb1 hb2
  have HS2 := Lib.hid (HVS1.out w2 _ v2 ys2 h22 h21)
  clear h21 h22
  go_wp2_with fail
  refine HS2.out.mono ?_
  rintro e w3 ⟨v3, zs3, x3, rfl, h31, h3m, h32, h3o, _, hb3⟩
  have H31 := Lib.hid h31
  have H3M := Lib.hid h3m
  have hA3 : Below w3.heap.size w3 (w3.alloc (.cells #[.string (str x3.m.frm), .slice x3.a1 x3.m.to.length x3.c1, .slice x3.a2 x3.m.lines.length x3.c2] 33)) := (Below.refl _ _).alloc (Nat.le_refl _) _
  have HK3 := Lib.hid (MK3.new w3 (.string (str x3.m.frm)) (.slice x3.a1 x3.m.to.length x3.c1) (.slice x3.a2 x3.m.lines.length x3.c2) 33)
  have H32 := Lib.hid (h32.keep hA3)
  have H3O := Lib.hid (h3o.keep hA3)
  have hb03 := nx (nx hb02 hb3) hA3
  have HB3 : Hid (∀ g, blkB v3 zs3 g → g < w3.heap.size) := fun g hg => (h32.lt hg).2
  have HB3M : Hid (∀ g, blk1 x3 g → g < w3.heap.size) := fun g hg => (h3o.lt hg).2
  have hz3 : w3.heap.size < (w3.alloc (.cells #[.string (str x3.m.frm), .slice x3.a1 x3.m.to.length x3.c1, .slice x3.a2 x3.m.lines.length x3.c2] 33)).heap.size := by simp
  clear h31 h32 h3m h3o HS2 hb2 hb3 hA3
  go_wp2_with fail
  generalize w3.alloc (.cells #[.string (str x3.m.frm), .slice x3.a1 x3.m.to.length x3.c1, .slice x3.a2 x3.m.lines.length x3.c2] 33) = W3 at *
  generalize w3.heap.size = K3 at *
  refine (HT1.out _ hb03).mono ?_
  rintro e w4 ⟨v4, ys4, rfl, h41, h42, hb4⟩
  have H41 := Lib.hid h41
  have H42 := Lib.hid h42
  have H324 := Lib.hid (H32.out.keep hb4)
  have H3O4 := Lib.hid (H3O.out.keep hb4)
  have HK34 := Lib.hid (HK3.out.below hb4)
  have hb04 := nx hb03 hb4
  have hs34 : W3.heap.size ≤ w4.heap.size := hb4.size
  have HB4 : Hid (∀ g, blkB v4 ys4 g → W3.heap.size ≤ g ∧ g < w4.heap.size) := fun g hg => h42.lt hg
  have HI4 := Lib.hid (HVI1.out w4 _ v4 ys4 hb04 h42 h41)
  clear h41 h42 hb4
  go_wp2_with fail
  refine HI4.out.mono ?_
  rintro e w5 ⟨v5, zs5, x5, rfl, h51, h5m, h52, h5o, h5a, hb5⟩
  have H51 := Lib.hid h51
  have H5M := Lib.hid h5m
  have hA5 : Below w5.heap.size w5 (w5.alloc (.cells #[.string (str x5.m.frm), .slice x5.a1 x5.m.to.length x5.c1, .slice x5.a2 x5.m.lines.length x5.c2] 33)) := (Below.refl _ _).alloc (Nat.le_refl _) _
  have HK5 := Lib.hid (MK3.new w5 (.string (str x5.m.frm)) (.slice x5.a1 x5.m.to.length x5.c1) (.slice x5.a2 x5.m.lines.length x5.c2) 33)
  have hs45 : w4.heap.size ≤ w5.heap.size := hb5.size
  have HB5 : Hid (∀ g, blkB v5 zs5 g → w4.heap.size ≤ g ∧ g < w5.heap.size) := fun g hg => h52.lt hg
  have HB5M : Hid (∀ g, blk1 x5 g → w4.heap.size ≤ g ∧ g < w5.heap.size) := fun g hg => h5o.lt hg
  have HAP5 := Lib.hid h5a
  have H52 := Lib.hid (h52.keep hA5)
  have H5O := Lib.hid (h5o.keep hA5)
  have hb45 := nx hb5 hA5
  have H325 := Lib.hid (H324.out.keep hb45)
  have H3O5 := Lib.hid (H3O4.out.keep hb45)
  have HK35 := Lib.hid (HK34.out.below hb45)
  have H425 := Lib.hid (H42.out.keep hb45)
  have hb05 := nx hb04 hb45
  clear h51 h52 h5m h5o h5a hb5 HI4 hA5 hb45
  go_wp2_with fail
  generalize w5.alloc (.cells #[.string (str x5.m.frm), .slice x5.a1 x5.m.to.length x5.c1, .slice x5.a2 x5.m.lines.length x5.c2] 33) = W5 at *
  generalize w5.heap.size = K5 at *
  have HEQ5 := Lib.hid (H52.out.eqv2 H325.out H51.out H31.out HZ.out.1)
  refine HEQ5.out.mono ?_
  rintro e w6 ⟨rfl, hb6⟩
  have HEM6 := Lib.hid ((H5O.out.keep hb6).eqm (H3O5.out.keep hb6) H5M.out H3M.out HZ.out.2.2.1)
  obtain ⟨k50, k51, k52⟩ := HK5.out.below hb6
  obtain ⟨k30, k31, k32⟩ := HK35.out.below hb6
  clear HEQ5
  go_wp2_with fail
  refine HEM6.out.mono ?_
  rintro e w6' ⟨rfl, hb6'⟩
  have hb66 := nx hb6 hb6'
  have hb06 := nx hb05 hb66
  have HK36 := Lib.hid (HK35.out.below hb66)
  have HK56 := Lib.hid (HK5.out.below hb66)
  have H426 := Lib.hid (H425.out.keep hb66)
  have H326 := Lib.hid (H325.out.keep hb66)
  have H3O6 := Lib.hid (H3O5.out.keep hb66)
  have H526 := Lib.hid (H52.out.keep hb66)
  have H5O6 := Lib.hid (H5O.out.keep hb66)
  clear k50 k51 k52 k30 k31 k32 HEM6 hb6 hb6' hb66
  go_wp2_with fail
  refine (HT1.out _ hb06).mono ?_
  rintro e w7 ⟨v7, ys7, rfl, h71, h72, hb7⟩
  have HEQ7 := Lib.hid ((H426.out.keep hb7).eqv2 h72 H41.out h71 HZ.out.2.1)
  clear h71 h72
  go_wp2_with fail
  refine HEQ7.out.mono ?_
  rintro e w8 ⟨rfl, hb8⟩
  have hb68 := nx hb7 hb8
  have hb08 := nx hb06 hb68
  have HK38 := Lib.hid (HK36.out.below hb68)
  have HK58 := Lib.hid (HK56.out.below hb68)
  have H328 := Lib.hid (H326.out.keep hb68)
  have H3O8 := Lib.hid (H3O6.out.keep hb68)
  have H528 := Lib.hid (H526.out.keep hb68)
  have H5O8 := Lib.hid (H5O6.out.keep hb68)
  have HMK8 := Lib.hid ((H426.out.keep hb68).mark2 H41.out HZ.out.2.1)
  have n1 : ¬ (((1 + cntBs bs : Nat) : Int) < 0) := by omega
  clear hb7 hb8 hb68 HEQ7
  obtain ⟨KX, hKX⟩ : ∃ K : Int, K = ((1 + cntBs bs : Nat) : Int) := ⟨_, rfl⟩
  rw [← hKX] at HMK8 n1
  clear hKX
  go_wp2_with fail
  refine HMK8.out.mono ?_
  rintro e w9 ⟨rfl, _, ht9⟩
  have H329 := Lib.hid (H328.out.turned ht9 (fun g hg k => by have := HB3.out g hg; have := HB4.out g k; omega))
  have H3O9 := Lib.hid (H3O8.out.turned ht9 (fun g hg k => by have := HB3M.out g hg; have := HB4.out g k; omega))
  have H529 := Lib.hid (H528.out.turned ht9 (fun g hg k => by have := (HB5.out g hg).1; have := HB4.out g k; omega))
  have H5O9 := Lib.hid (H5O8.out.turned ht9 (fun g hg k => by have := (HB5M.out g hg).1; have := HB4.out g k; omega))
  have HK39 := Lib.hid (HK38.out.turned ht9 (fun k => by have := HB4.out _ k; omega))
  have HK59 := Lib.hid (HK58.out.turned ht9 (fun k => by have := HB4.out _ k; omega))
  have hb09 := hb08.trans (ht9.below (fun g hg => by have := (HB4.out g hg).1; have := hb03.size; omega) hb08.size)
  have HEQ9 := Lib.hid (H529.out.eqv2 H329.out H51.out H31.out HZ.out.1)
  clear ht9 HMK8
  go_wp2_with fail
  refine HEQ9.out.mono ?_
  rintro e w10 ⟨rfl, hb10⟩
  have HEM10 := Lib.hid ((H5O9.out.keep hb10).eqm (H3O9.out.keep hb10) H5M.out H3M.out HZ.out.2.2.1)
  obtain ⟨k50, k51, k52⟩ := HK59.out.below hb10
  obtain ⟨k30, k31, k32⟩ := HK39.out.below hb10
  clear HEQ9
  go_wp2_with fail
  refine HEM10.out.mono ?_
  rintro e w11 ⟨rfl, hb11⟩
  have hb911 := nx hb10 hb11
  have hb011 := nx hb09 hb911
  have HK3B := Lib.hid (HK39.out.below hb911)
  have HK5B := Lib.hid (HK59.out.below hb911)
  have H32B := Lib.hid (H329.out.keep hb911)
  have H3OB := Lib.hid (H3O9.out.keep hb911)
  have H52B := Lib.hid (H529.out.keep hb911)
  have H5OB := Lib.hid (H5O9.out.keep hb911)
  have HMKB := Lib.hid (H52B.out.mark2 H51.out HZ.out.1)
  have hcT : x5.m.to.length + x5.m.lines.length ≤ 1048576 := by have := HZ.out.2.2.2; rw [← H5M.out] at this; exact this
  have hcA : cntBs AO ≤ 4194304 := Nat.le_trans (cntBs_le AO) HZ.out.1
  have HHD : Hid (∀ u, OwnBs w4.heap.size v5 (mkBs 1 zs5) u → Calls Tryz.prog 15 #[v5, .int .i64 1] u (fun e w' => e = .returned (.int .i64 ((1 + cntBs AO : Nat) : Int)) ∧ Below u.heap.size u w')) := fun u h => h.held2 H51.out HZ.out.1
  have HMM : Hid (∀ u, OwnM w4.heap.size u x5 → Calls Tryz.prog 19 #[.agg #[.string (str x5.m.frm), .slice x5.a1 x5.m.to.length x5.c1, .slice x5.a2 x5.m.lines.length x5.c2], .int .i64 ((1 + cntBs AO : Nat) : Int)] u fun e w' => e = .returned (.int .i64 (((1 + cntBs AO) + (x5.m.to.length + x5.m.lines.length) : Nat) : Int)) ∧ OwnM w4.heap.size w' (mkMm (1 + cntBs AO) x5) ∧ Turn (blk1 x5) u w') := fun u h => markMail_t w4.heap.size (1 + cntBs AO) x5 u h (by omega) (by omega)
  have HHM : Hid (∀ u, OwnM w4.heap.size u (mkMm (1 + cntBs AO) x5) → Calls Tryz.prog 20 #[.agg #[.string (str x5.m.frm), .slice x5.a1 x5.m.to.length x5.c1, .slice x5.a2 x5.m.lines.length x5.c2], .int .i64 ((1 + cntBs AO : Nat) : Int)] u fun e w' => e = .returned (.int .i64 (((1 + cntBs AO) + (x5.m.to.length + x5.m.lines.length) : Nat) : Int)) ∧ Below u.heap.size u w') := fun u h => heldMail_t w4.heap.size (1 + cntBs AO) x5 u h (by omega) (by omega)
  have n2 : ¬ (((1 + cntBs AO : Nat) : Int) < 0) := by omega
  have n3 : ¬ ((((1 + cntBs AO) + (x5.m.to.length + x5.m.lines.length) : Nat) : Int) < 0) := by omega
  clear hb10 hb11 hb911 HEM10 k50 k51 k52 k30 k31 k32 hcT hcA
  obtain ⟨YM, hYM⟩ : ∃ Y, Y = mkMm (1 + cntBs AO) x5 := ⟨_, rfl⟩
  have HYM : Hid (∀ g, blk1 YM g → blk1 x5 g) := fun g hg => by rw [hYM] at hg; exact (blk1_mm _ _ g).1 hg
  rw [← hYM] at HMM HHM
  clear hYM
  obtain ⟨KN, hKN⟩ : ∃ K : Int, K = (((1 + cntBs AO) + (x5.m.to.length + x5.m.lines.length) : Nat) : Int) := ⟨_, rfl⟩
  rw [← hKN] at HMM HHM n3
  clear hKN
  obtain ⟨KM, hKM⟩ : ∃ K : Int, K = ((1 + cntBs AO : Nat) : Int) := ⟨_, rfl⟩
  rw [← hKM] at HMKB n2 HHD HMM HHM
  clear hKM
  have hkm : (KN != KN) = false := by simp
  go_wp2_with fail
  refine HMKB.out.mono ?_
  rintro e w12 ⟨rfl, hm12, ht12⟩
  have HM12 := Lib.hid hm12
  have H32C := Lib.hid (H32B.out.turned ht12 (fun g hg k => by have := HB3.out g hg; have := (HB5.out g k).1; omega))
  have H3OC := Lib.hid (H3OB.out.turned ht12 (fun g hg k => by have := HB3M.out g hg; have := (HB5.out g k).1; omega))
  have H5OC := Lib.hid (H5OB.out.turned ht12 (fun g hg k => HAP5.out g k hg))
  have HK3C := Lib.hid (HK3B.out.turned ht12 (fun k => by have := (HB5.out _ k).1; omega))
  have HK5C := Lib.hid (HK5B.out.turned ht12 (fun k => by have := (HB5.out _ k).2; omega))
  have hb012 := hb011.trans (ht12.below (fun g hg => by have := (HB5.out g hg).1; have := hb04.size; omega) hb011.size)
  have HBM : Hid (∀ g, blkB v5 (mkBs 1 zs5) g → blkB v5 zs5 g) := fun g hg => blkB_mk hg
  clear ht12 hm12 HMKB
  obtain ⟨k50, k51, k52⟩ := HK5C.out
  go_wp2_with fail
  refine (HMM.out w12 H5OC.out).mono ?_
  rintro e w13 ⟨rfl, hm13, ht13⟩
  have HMD := Lib.hid hm13
  have HMB13 := Lib.hid (HM12.out.turned ht13 (fun g hg k => HAP5.out g (HBM.out g hg) k))
  have H32D := Lib.hid (H32C.out.turned ht13 (fun g hg k => by have := HB3.out g hg; have := (HB5M.out g k).1; omega))
  have H3OD := Lib.hid (H3OC.out.turned ht13 (fun g hg k => by have := HB3M.out g hg; have := (HB5M.out g k).1; omega))
  have HK3D := Lib.hid (HK3C.out.turned ht13 (fun k => by have := (HB5M.out _ k).1; omega))
  have HK5D := Lib.hid (HK5C.out.turned ht13 (fun k => by have := (HB5M.out _ k).2; omega))
  have hb013 := hb012.trans (ht13.below (fun g hg => by have := (HB5M.out g hg).1; have := hb04.size; omega) hb012.size)
  clear ht13 hm13 k50 k51 k52
  go_wp2_with fail
  refine (HHD.out w13 HMB13.out).mono ?_
  rintro e w14 ⟨rfl, hb14⟩
  have HHM14 := Lib.hid (HHM.out w14 (HMD.out.keep hb14))
  obtain ⟨k50, k51, k52⟩ := HK5D.out.below hb14
  go_wp2_with fail
  refine HHM14.out.mono ?_
  rintro e w15 ⟨rfl, hb15⟩
  have hbx := nx hb14 hb15
  have hb015 := nx hb013 hbx
  have HMBF := Lib.hid (HMB13.out.keep hbx)
  have HMF := Lib.hid (HMD.out.keep hbx)
  have H32F := Lib.hid (H32D.out.keep hbx)
  have H3OF := Lib.hid (H3OD.out.keep hbx)
  have HK3F := Lib.hid (HK3D.out.below hbx)
  have HK5F := Lib.hid (HK5D.out.below hbx)
  clear hb14 hb15 hbx k50 k51 k52 HHM14
  go_wp2_with fail
  refine (HT1.out _ hb015).mono ?_
  rintro e w16 ⟨v16, ys16, rfl, h161, h162, hb16⟩
  have HI16 := Lib.hid (HVI1.out w16 _ v16 ys16 (nx hb015 hb16) h162 h161)
  clear h161 h162
  go_wp2_with fail
  refine HI16.out.mono ?_
  rintro e w17 ⟨v17, zs17, x17, rfl, h171, h17m, h172, h17o, _, hb17⟩
  have hA17 : Below w17.heap.size w17 (w17.alloc (.cells #[.string (str x17.m.frm), .slice x17.a1 x17.m.to.length x17.c1, .slice x17.a2 x17.m.lines.length x17.c2] 33)) := (Below.refl _ _).alloc (Nat.le_refl _) _
  have HK17 := Lib.hid (MK3.new w17 (.string (str x17.m.frm)) (.slice x17.a1 x17.m.to.length x17.c1) (.slice x17.a2 x17.m.lines.length x17.c2) 33)
  have hby := nx (nx hb16 hb17) hA17
  have hb017 := nx hb015 hby
  have HMBG := Lib.hid (HMBF.out.keep hby)
  have HMG := Lib.hid (HMF.out.keep hby)
  have H32G := Lib.hid (H32F.out.keep hby)
  have H3OG := Lib.hid (H3OF.out.keep hby)
  have HK3G := Lib.hid (HK3F.out.below hby)
  have HK5G := Lib.hid (HK5F.out.below hby)
  have HX17 := Lib.hid (h172.keep hA17)
  have HXO17 := Lib.hid (h17o.keep hA17)
  have HX1 := Lib.hid h171
  have HXM := Lib.hid h17m
  clear h171 h172 h17m h17o hb16 hb17 hA17 hby HI16
  go_wp2_with fail
  generalize w17.alloc (.cells #[.string (str x17.m.frm), .slice x17.a1 x17.m.to.length x17.c1, .slice x17.a2 x17.m.lines.length x17.c2] 33) = W17 at *
  generalize w17.heap.size = K17 at *
  have HEQ17 := Lib.hid (HX17.out.eqv2 H32G.out HX1.out H31.out HZ.out.1)
  refine HEQ17.out.mono ?_
  rintro e w18 ⟨rfl, hb18⟩
  have HEM18 := Lib.hid ((HXO17.out.keep hb18).eqm (H3OG.out.keep hb18) HXM.out H3M.out HZ.out.2.2.1)
  obtain ⟨k170, k171, k172⟩ := HK17.out.below hb18
  obtain ⟨k30, k31, k32⟩ := HK3G.out.below hb18
  clear HEQ17
  go_wp2_with fail
  refine HEM18.out.mono ?_
  rintro e w19 ⟨rfl, hb19⟩
  have hbz := nx hb18 hb19
  have hb019 := nx hb017 hbz
  have HMBH := Lib.hid (HMBG.out.keep hbz)
  have HMH := Lib.hid (HMG.out.keep hbz)
  have HK5H := Lib.hid (HK5G.out.below hbz)
  clear k170 k171 k172 k30 k31 k32 HEM18 hb18 hb19 hbz
  go_wp2_with fail
  refine (HHD.out w19 HMBH.out).mono ?_
  rintro e w20 ⟨rfl, hb20⟩
  have HHM20 := Lib.hid (HHM.out w20 (HMH.out.keep hb20))
  obtain ⟨k50, k51, k52⟩ := HK5H.out.below hb20
  go_wp2_with fail
  refine HHM20.out.mono ?_
  rintro e w21 ⟨rfl, hb21⟩
  go_wp2
  go_ret
  exact ⟨rfl, nx hb019 (nx hb20 hb21)⟩
end Go.Proofs.YtombejhpfobehaaGreatDoor
