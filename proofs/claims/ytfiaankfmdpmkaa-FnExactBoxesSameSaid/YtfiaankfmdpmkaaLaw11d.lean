/-
  The exact law of equal mailboxes: its walk. For every input of the law: it returns true, and the input reads as it did. Conditions: none but the statement's own.
-/
import Derived.Test.YtfiaankfmdpmkaaBoxE
import Derived.Test.YtfiaankfmdpmkaaBoxC
import Derived.Test.YtfiaankfmdpmkaaGrow
namespace Go.Proofs.Ytfiaankfmdpmkaa
open Go.ChangeShapes Go.WideShapes Go.ChangeAt Go.RowKit
open Go.ChangeMaps (open_string shut_string)

theorem bsRet_small {M : Nat} {bs : List Bx} {ys : List BxA} (h : ys.map BxA.b = bs) (hs : ∀ b ∈ bs, SmallBx M b) : ∀ y ∈ ys, SmallBx M y.b := fun y hy => hs y.b (h ▸ List.mem_map_of_mem hy)
set_option maxRecDepth 100000 in
set_option maxHeartbeats 4000000 in
theorem fnExactBoxesSame_walk (a : Option Addr) (n c : Nat) (xs : List BxA) (b : Option Addr) (m d : Nat) (zs : List BxA) (w : World) (hx : xs.length = n ∧ n ≤ maxLen ∧ n ≤ c ∧ (a = none → c = 0) ∧ RdBs maxLen w a xs) (hz : zs.length = m ∧ m ≤ maxLen ∧ m ≤ d ∧ (b = none → d = 0) ∧ RdBs maxLen w b zs) :
    Calls Try.prog 3 #[.slice a n c, .slice b m d] w fun e w' => e = .returned (.bool true) ∧ Below w.heap.size w w' := by
  obtain ⟨hl, hn, _, _, hr⟩ := hx
  obtain ⟨hl2, hm, _, _, hr2⟩ := hz
  obtain ⟨bs, hbs⟩ : ∃ bs, bs = xs.map BxA.b := ⟨_, rfl⟩
  obtain ⟨cs, hcs⟩ : ∃ bs, bs = zs.map BxA.b := ⟨_, rfl⟩
  have HSZ : Hid (Calls Try.prog 4 #[.slice a n c, .int .i64 1048576] w (SizedBs 1048576 bs w)) := hbs ▸ szBoxS_any a n c xs 1048576 w hl hr hn (by omega) (by omega)
  have HSZ2 : Hid (∀ u r, 0 ≤ r → r ≤ 1048576 → Below w.heap.size w u → Calls Try.prog 4 #[.slice b m d, .int .i64 r] u (SizedBs r cs u)) := fun u r h0 h1 hb => hcs ▸ szBoxS_any b m d zs r u hl2 (hr2.below hb) hm h0 h1
  have HT1 : Hid (∀ u, (bs.length ≤ 1048576 ∧ ∀ b ∈ bs, SmallBx 1048576 b) → Below w.heap.size w u → Calls Try.prog 6 #[.slice a n c] u fun e w' => ∃ (a' : Option Addr) (ys : List BxA), e = .returned (.slice a' n n) ∧ ys.map BxA.b = bs ∧ ys.length = n ∧ RdBs 1048576 w' a' ys ∧ Below u.heap.size u w') := fun u h hb => (toBoxS_any a n c xs u hl ((hr.below hb).up (fun y hy => h.2 y.b (hbs ▸ List.mem_map_of_mem hy))) (by have := h.1; rw [hbs, List.length_map] at this; omega)).mono fun e w' ⟨a', ys, he, h1, h2, h3, h4, h5⟩ => ⟨a', ys, he, by rw [h1, hbs], h2, h3.rd (bsRet_small (h1.trans hbs.symm) h.2), h5⟩
  have HT2 : Hid (∀ u, (cs.length ≤ 1048576 ∧ ∀ b ∈ cs, SmallBx 1048576 b) → Below w.heap.size w u → Calls Try.prog 6 #[.slice b m d] u fun e w' => ∃ (a' : Option Addr) (ys : List BxA), e = .returned (.slice a' m m) ∧ ys.map BxA.b = cs ∧ ys.length = m ∧ RdBs 1048576 w' a' ys ∧ Below u.heap.size u w') := fun u h hb => (toBoxS_any b m d zs u hl2 ((hr2.below hb).up (fun y hy => h.2 y.b (hcs ▸ List.mem_map_of_mem hy))) (by have := h.1; rw [hcs, List.length_map] at this; omega)).mono fun e w' ⟨a', ys, he, h1, h2, h3, h4, h5⟩ => ⟨a', ys, he, by rw [h1, hcs], h2, h3.rd (bsRet_small (h1.trans hcs.symm) h.2), h5⟩
  have HN : Hid ((bs.length ≤ 1048576 ∧ ∀ b ∈ bs, SmallBx 1048576 b) → n ≤ 1048576) := fun h => by have := h.1; rw [hbs, List.length_map] at this; omega
  have HN2 : Hid ((cs.length ≤ 1048576 ∧ ∀ b ∈ cs, SmallBx 1048576 b) → m ≤ 1048576) := fun h => by have := h.1; rw [hcs, List.length_map] at this; omega
  have HVS : Hid (∀ u (a' : Option Addr) (ys : List BxA) (b' : Option Addr) (vs : List BxA), n ≤ 1048576 → m ≤ 1048576 → ys.map BxA.b = bs → ys.length = n → RdBs 1048576 u a' ys → vs.map BxA.b = cs → vs.length = m → RdBs 1048576 u b' vs → Calls Try.prog 5 #[.slice a' n n, .slice b' m m] u fun e w' => e = .returned (.bool (decide (bs = cs))) ∧ Below u.heap.size u w') := fun u a' ys b' vs hn1 hm1 h1 h2 h3 k1 k2 k3 => h1 ▸ k1 ▸ boxesSameS_any 1048576 a' b' n n m m ys vs u h2 k2 h3 k3 (by unfold maxLen; omega) (by unfold maxLen; omega) (by unfold maxLen; omega)
  have HVI : Hid (∀ u (a' : Option Addr) (ys : List BxA) (b' : Option Addr) (vs : List BxA), n ≤ 1048576 → m ≤ 1048576 → ys.map BxA.b = bs → ys.length = n → RdBs 1048576 u a' ys → vs.map BxA.b = cs → vs.length = m → RdBs 1048576 u b' vs → Calls Try.prog 7 #[.slice a' n n, .slice b' m m] u fun e w' => e = .returned (.bool (decide (bs = cs))) ∧ Below u.heap.size u w') := fun u a' ys b' vs hn1 hm1 h1 h2 h3 k1 k2 k3 => h1 ▸ k1 ▸ boxesSame_any 1048576 a' b' n n m m ys vs u h2 k2 h3 k3 (by unfold maxLen; omega) (by unfold maxLen; omega) (by unfold maxLen; omega)
  have HEQ : Hid (∀ u (j : Nat) (ds : List Bx) (a' : Option Addr) (ys : List BxA) (a2 : Option Addr) (vs : List BxA), j ≤ 1048576 → ys.map BxA.b = ds → ys.length = j → RdBs 1048576 u a' ys → vs.map BxA.b = ds → vs.length = j → RdBs 1048576 u a2 vs → Calls Try.prog 8 #[.slice a' j j, .slice a2 j j] u fun e w' => e = .returned (.bool true) ∧ Below u.heap.size u w') := fun u j ds a' ys a2 vs hn1 h1 h2 h3 k1 k2 k3 => by
    have := eqBoxS_any 1048576 a' a2 j j j j ys vs u h2 k2 h3 k3 (by unfold maxLen; omega) (by unfold maxLen; omega) (by unfold maxLen; omega)
    rw [decide_eq_true (show ys.map BxA.b = vs.map BxA.b from h1.trans k1.symm)] at this; exact this
  clear hr hl hn hbs hr2 hl2 hm hcs
  generalize decide (bs = cs) = q at *
  have hne : (q != q) = false := by simp
  go_enter Try.func3, Try.ntmps3
  go_wp2_with fail
  refine HSZ.out.mono ?_
  rintro e w1 ⟨r, rfl, hr1, hr2, hok, hb1⟩
  have HOK := Lib.hid hok
  clear hok
  by_cases hneg : r < 0
  · go_wp2
    go_ret
    exact ⟨rfl, hb1⟩
  have HSM : Hid (bs.length ≤ 1048576 ∧ ∀ b ∈ bs, SmallBx 1048576 b) := HOK.out (by omega)
  have hn1 := HN.out HSM.out
  clear HOK HN
  go_wp2_with fail
  refine (HSZ2.out _ r (by omega) hr2 hb1).mono ?_
  rintro e w2 ⟨r2, rfl, hr3, hr4, hok, hb2⟩
  have HOK := Lib.hid hok
  have hb02 := nx hb1 hb2
  clear hok
  by_cases hneg2 : r2 < 0
  · go_wp2
    go_ret
    exact ⟨rfl, hb02⟩
  have HSM2 : Hid (cs.length ≤ 1048576 ∧ ∀ b ∈ cs, SmallBx 1048576 b) := HOK.out (by omega)
  have hm1 := HN2.out HSM2.out
  clear HOK HN2 hr1 hr2 hr3 hr4
  go_wp2_with fail
  refine (HT1.out _ HSM.out hb02).mono ?_
  rintro e w3 ⟨a3, ys3, rfl, h31, h32, h33, hb3⟩
  have hb03 := nx hb02 hb3
  have H31 := Lib.hid h31
  have H32 := Lib.hid h32
  have H33 := Lib.hid h33
  clear h31 h32 h33
  go_wp2_with fail
  refine (HT2.out _ HSM2.out hb03).mono ?_
  rintro e w4 ⟨a4, ys4, rfl, h41, h42, h43, hb4⟩
  have hb04 := nx hb03 hb4
  go_wp2_with fail
  refine (HVS.out _ _ ys3 _ ys4 hn1 hm1 H31.out H32.out (H33.out.below hb4) h41 h42 h43).mono ?_
  rintro e w5 ⟨rfl, hb5⟩
  have hb05 := nx hb04 hb5
  clear h41 h42 h43 H31 H32 H33
  go_wp2_with fail
  refine (HT1.out _ HSM.out hb05).mono ?_
  rintro e w6 ⟨a6, ys6, rfl, h61, h62, h63, hb6⟩
  have hb06 := nx hb05 hb6
  have H61 := Lib.hid h61
  have H62 := Lib.hid h62
  have H63 := Lib.hid h63
  clear h61 h62 h63
  go_wp2_with fail
  refine (HT2.out _ HSM2.out hb06).mono ?_
  rintro e w7 ⟨a7, ys7, rfl, h71, h72, h73, hb7⟩
  have hb07 := nx hb06 hb7
  have H71 := Lib.hid h71
  have H72 := Lib.hid h72
  have H73 := Lib.hid h73
  clear h71 h72 h73
  go_wp2_with fail
  refine (HVI.out _ _ ys6 _ ys7 hn1 hm1 H61.out H62.out (H63.out.below hb7) H71.out H72.out H73.out).mono ?_
  rintro e w8 ⟨rfl, hb8⟩
  have hb08 := nx hb07 hb8
  have hb68 := nx hb7 hb8
  go_wp2_with fail
  refine (HT1.out _ HSM.out hb08).mono ?_
  rintro e w9 ⟨a9, ys9, rfl, h91, h92, h93, hb9⟩
  have hb09 := nx hb08 hb9
  go_wp2_with fail
  refine (HEQ.out _ n bs _ ys6 _ ys9 hn1 H61.out H62.out (H63.out.below (nx hb68 hb9)) h91 h92 h93).mono ?_
  rintro e w10 ⟨rfl, hb10⟩
  have hb010 := nx hb09 hb10
  clear h91 h92 h93
  go_wp2_with fail
  refine (HT2.out _ HSM2.out hb010).mono ?_
  rintro e w11 ⟨a11, ys11, rfl, h111, h112, h113, hb11⟩
  have hb011 := nx hb010 hb11
  go_wp2_with fail
  refine (HEQ.out _ m cs _ ys7 _ ys11 hm1 H71.out H72.out (H73.out.below (nx (nx hb8 hb9) (nx hb10 hb11))) h111 h112 h113).mono ?_
  rintro e w12 ⟨rfl, hb12⟩
  go_wp2
  go_ret
  exact ⟨rfl, nx hb011 hb12⟩
set_option maxRecDepth 100000 in
theorem fnExactBoxesSame_lifted (os : Os) (started : os.Started) (H : Type) (enc : TypeId × Value → H) :
    ReturnsInHanded {} Try.checked os 3 .any (Rows.fnExactBoxesSameSpec.pre6 enc Try.prog Try.f3 Rows.fnExactBoxesSameRow.domain false) (Rows.fnExactBoxesSameSpec.post enc Try.prog Try.f3 false true false false) := by
  refine returnsInHanded_of_change (C := Try.checked) own started (by kernel_rfl) Try.func3
    (ChangeSpec.witness6 (enc := enc) (C := Try.checked) false ⟨#[], #[.slice none 0 0, .slice none 0 0], []⟩ 8 (by kernel_rfl) (by kernel_rfl) (by kernel_rfl) (by kernel_rfl)) ?_
  intro W base args ds gs before hval0 hW hcnd _
  have hval : ∀ (j : Nat) t v, Try.f3.params[j]? = some t → args[j]? = some v → Value.okWide Try.prog W .any base t v := hval0
  have hW' := hW
  obtain ⟨p, q, hA0, hV, rfl, hfz, hnd⟩ := hW
  have hA : DataW.TrodAll enc Try.prog W 0 (fun _ => true) true Try.f3.params.toList args.toList ds p := hA0
  rw [Try.params3] at hA hval
  obtain ⟨v0, vs0, d0, ds0, p0, q0, hargs, rfl, rfl, h0, r0⟩ := trodAll_cons hA
  obtain ⟨v1, vs1, d1, ds1, p1, q1, rfl, rfl, rfl, h1, r1⟩ := trodAll_cons r0
  obtain ⟨rfl, rfl, rfl⟩ := trodAll_nil r1
  obtain rfl : args = #[v0, v1] := by cases args; simp_all
  obtain ⟨rfl, rfl⟩ := trodVars_none hV
  have k0 := h0
  have lt0 : ∀ x ∈ p0, x.block < W.heap.size := by obtain ⟨m, hm⟩ := k0; exact DataW.trod_lt m _ _ _ hm
  obtain ⟨a0, n0, c0, l0, rfl, w0⟩ := open_bxs (hval 0 22 v0 rfl rfl) h0
  have k1 := h1
  have lt1 : ∀ x ∈ p1, x.block < W.heap.size := by obtain ⟨m, hm⟩ := k1; exact DataW.trod_lt m _ _ _ hm
  obtain ⟨a1, n1, c1, l1, rfl, w1⟩ := open_bxs (hval 1 22 v1 rfl rfl) h1
  clear hA0 hval0
  refine (fnExactBoxesSame_walk a0 n0 c0 l0 a1 n1 c1 l1 W w0 w1).mono fun e W' ⟨he, bel⟩ => ?_
  subst he
  exact ⟨_, rfl, _, _, _, [], _, [], hW', trodAll_mk1 (shut_bool Try.underlying4 _), (trodAll_cons_mk (Below.trod laidOut (by kernel_rfl) (of_decide_eq_true (by kernel_rfl)) k0 bel lt0) (trodAll_cons_mk (Below.trod laidOut (by kernel_rfl) (of_decide_eq_true (by kernel_rfl)) k1 bel lt1) trodAll_mk0)), rfl, bel.frame _, fun h => by cases h⟩
/-- FnExactBoxesSame: THE STATEMENT. -/
theorem fnExactBoxesSame_holds : Rows.FnExactBoxesSameSaid :=
  OpenClaim.holds_of_wide 3 Try.f3 rfl rfl rfl rfl rfl rfl rfl ⟨rfl, rfl, rfl, rfl, rfl⟩ rfl rfl rfl rfl rfl (by kernel_rfl) Try.func3 (by kernel_rfl)
    (of_decide_eq_true (by kernel_rfl)) (by unfold Func.isWrapper; first | (rw [if_pos (by decide +kernel)]; kernel_rfl) | (rw [if_neg (by decide +kernel)]; exact ⟨rfl, rfl⟩))
    (fun os started H enc _ => fnExactBoxesSame_lifted os started H enc)
end Go.Proofs.Ytfiaankfmdpmkaa
