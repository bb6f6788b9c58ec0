/-
  Mailboxes: what the model's function that compares them returns. No statement is proved here.
-/
import Derived.Test.YtfiaankfmdpmkaaBox
import Derived.Test.YtfiaankfmdpmkaaQuietB
import Derived.Deep.QuietTactic
import Derived.BigQuiet
namespace Go.Proofs.Ytfiaankfmdpmkaa
open Go.RowKit

set_option maxRecDepth 100000 in
set_option maxHeartbeats 8000000 in
theorem boxesSameS_any (M : Nat) (a1 a2 : Option Addr) (n1 c1 n2 c2 : Nat) (xs ys : List BxA) (w : World) (hx : xs.length = n1) (hy : ys.length = n2) (h1 : RdBs M w a1 xs) (h2 : RdBs M w a2 ys) (hM : M ≤ maxLen) (hn1 : n1 ≤ maxLen) (hn2 : n2 ≤ maxLen) :
    Calls Try.prog 5 #[.slice a1 n1 c1, .slice a2 n2 c2] w fun e w' => e = .returned (.bool (decide (xs.map BxA.b = ys.map BxA.b))) ∧ Below w.heap.size w w' := by
  unfold maxLen at hn1 hn2
  have X1 := Lib.hid h1
  have X2 := Lib.hid h2
  have L1 := Lib.hid hx
  have L2 := Lib.hid hy
  clear h1 h2 hx hy
  by_cases hn : n1 = n2
  · subst hn
    have e1 : ((n1 : Int) != (n1 : Int)) = false := by simp
    go_enter Try.func5, Try.ntmps5
    go_wp2_with fail
    go_loopw [5] (fun i wr => ∃ k : Nat, k ≤ n1 ∧ i = .int .i64 k ∧ Below w.heap.size w wr ∧ (xs.take k).map BxA.b = (ys.take k).map BxA.b) (fun i _ => n1 - (intOf i).toNat)
    case atStart => exact ⟨0, Nat.zero_le _, rfl, Below.refl _ _, rfl⟩
    case round =>
      obtain ⟨k, hk, rfl, hb, htk⟩ := hrel
      have HTK := Lib.hid htk
      clear htk
      by_cases hlt : k < n1
      · have k1 : k < xs.length := by rw [L1.out]; exact hlt
        have k2 : k < ys.length := by rw [L2.out]; exact hlt
        obtain ⟨b1, o1, rfl, hb1, p0, p1, p3⟩ := (X1.out.below hb).at k1
        obtain ⟨b2, o2, rfl, hb2, q0, q1, q3⟩ := (X2.out.below hb).at k2
        have hkn : (k : Int) < (n1 : Int) := by omega
        have hk0 : (0 : Int) ≤ (k : Int) := by omega
        have HT1 := Lib.hid (take_bxs k1)
        have HT2 := Lib.hid (take_bxs k2)
        have HNE := Lib.hid (bxs_ne k1 k2)
        have HRX := Lib.hid p3
        have HRY := Lib.hid q3
        clear p3 q3
        generalize hX : xs[k] = x at *
        generalize hY : ys[k] = y at *
        clear hX hY
        have HCELL : Hid (∀ u, Below wr.heap.size wr u → (u.cell? ⟨b1, o1 + k * 2, none⟩ = some (.string (str x.path)) ∧ u.cell? ⟨b1, o1 + k * 2 + 1, none⟩ = some (.slice x.a x.xs.length x.c)) ∧ u.cell? ⟨b2, o2 + k * 2, none⟩ = some (.string (str y.path)) ∧ u.cell? ⟨b2, o2 + k * 2 + 1, none⟩ = some (.slice y.a y.xs.length y.c)) := fun u hu => ⟨⟨(below_at hu hb1).trans p0, (below_at hu hb1).trans p1⟩, (below_at hu hb2).trans q0, (below_at hu hb2).trans q1⟩
        have zc0 := fun (y : BelowT wr) => (HCELL.out _ y.below).1.1
        have zc1 := fun (y : BelowT wr) => (HCELL.out _ y.below).1.2
        have zc2 := fun (y : BelowT wr) => (HCELL.out _ y.below).2.1
        have zc3 := fun (y : BelowT wr) => (HCELL.out _ y.below).2.2
        clear p0 p1 q0 q1
        have HBE := Lib.hid (Bx.eq_iff x.b y.b)
        have hd1 : ((str x.path).toList != (str y.path).toList) = !decide (str x.path = str y.path) := by rw [bne, beq_dec]
        have hd0 := beq_dec (str x.path) (str y.path)
        cases hg : decide (str x.path = str y.path)
        · have HN : Hid (xs.map BxA.b ≠ ys.map BxA.b) := HNE.out (fun e => of_decide_eq_false hg (HBE.out.1 e).1)
          rw [hg] at hd1 hd0
          generalize str x.path = s1 at *
          generalize str y.path = s2 at *
          go_wp2_with fail
          refine wp_region_quietB (W := wr) (by kernel_rfl) (by kernel_rfl) (Below.refl _ _) ?_
          repeat (go_big_quiet_step (fail))
          refine wpQuiet_nil ?_
          intro wz hwz
          obtain ⟨x9, rfl⟩ := hwz
          have hb9 := x9.below
          clear zc0 zc1 zc2 zc3
          generalize x9.val = w9 at *
          go_wp2
          go_ret
          exact ⟨ret_bool (decide_eq_false HN.out).symm, nx hb hb9⟩
        · have HSE := Lib.hid (of_decide_eq_true hg)
          rw [hg] at hd1 hd0
          clear hg
          generalize hs1 : str x.path = s1 at *
          generalize hs2 : str y.path = s2 at *
          have HS1 := Lib.hid hs1
          have HS2 := Lib.hid hs2
          clear hs1 hs2
          by_cases hln : x.xs.length = y.xs.length
          · have hd2 : ((x.xs.length : Int) != (y.xs.length : Int)) = false := by rw [hln]; simp
            have hd3 : ((x.xs.length : Int) == (y.xs.length : Int)) = true := by rw [hln]; simp
            generalize hm1 : x.xs.length = m1 at *
            generalize hm2 : y.xs.length = m2 at *
            subst hln
            have HM1 := Lib.hid hm1
            have HM2 := Lib.hid hm2
            have hm1b : m1 ≤ maxLen := by have := HRX.out.2.2.1; have e := HM1.out; omega
            unfold maxLen at hm1b
            clear hm1 hm2
            have HW := Lib.hid hb
            go_wp2_with fail
            refine wp_region_quietB (W := wr) (by kernel_rfl) (by kernel_rfl) (Below.refl _ _) ?_
            repeat (go_big_quiet_step (fail))
            refine wpQuiet_nil ?_
            intro wz hwz
            obtain ⟨x9, rfl⟩ := hwz
            have hb9 := x9.below
            clear zc0 zc1 zc2 zc3
            generalize x9.val = w9 at *
            go_wp2_with fail
            go_loopw [6] (fun i wi => ∃ j : Nat, j ≤ m1 ∧ i = .int .i64 j ∧ Below w9.heap.size w9 wi ∧ (x.xs.take j).map (·.m) = (y.xs.take j).map (·.m)) (fun i _ => m1 - (intOf i).toNat)
            case atStart => exact ⟨0, Nat.zero_le _, rfl, Below.refl _ _, rfl⟩
            case round =>
              obtain ⟨j, hj, rfl, hbi9, hmt⟩ := hrel
              have HMT := Lib.hid hmt
              have hbi := nx hb9 hbi9
              clear hmt
              obtain ⟨⟨v0, v1⟩, u0, u1⟩ := HCELL.out _ hbi
              have hlb1 := Nat.lt_of_lt_of_le hb1 hbi.size
              have hlb2 := Nat.lt_of_lt_of_le hb2 hbi.size
              by_cases hjn : j < m1
              · have j1 : j < x.xs.length := by rw [HM1.out]; exact hjn
                have j2 : j < y.xs.length := by rw [HM2.out]; exact hjn
                obtain ⟨b3, o3, ha3, hl3, r0, r1, r2, r3⟩ := ((HRX.out.below hbi).1).at j1
                obtain ⟨b4, o4, ha4, hl4, t0, t1, t2, t3⟩ := ((HRY.out.below hbi).1).at j2
                rw [ha3] at v1
                rw [ha4] at u1
                have hj0 : (0 : Int) ≤ (j : Int) := by omega
                have hjn' : (j : Int) < (m1 : Int) := by omega
                have HC : Hid (∀ yy : BelowT wr, Calls Try.prog 10 #[.agg #[.string (str x.xs[j].m.frm), .slice x.xs[j].a1 x.xs[j].m.to.length x.xs[j].c1, .slice x.xs[j].a2 x.xs[j].m.lines.length x.xs[j].c2], .agg #[.string (str y.xs[j].m.frm), .slice y.xs[j].a1 y.xs[j].m.to.length y.xs[j].c1, .slice y.xs[j].a2 y.xs[j].m.lines.length y.xs[j].c2]] yy.val fun e w' => e = .returned (.bool (decide (x.xs[j].m = y.xs[j].m))) ∧ Below yy.val.heap.size yy.val w') := fun yy => mailSameS_any M x.xs[j] y.xs[j] yy.val (r3.below yy.below) (t3.below yy.below) hM
                have z0 : ∀ yy : BelowT wr, yy.val.cell? ⟨b1, o1 + k * 2 + 1, none⟩ = _ := fun yy => by rw [below_at yy.below hlb1, v1]
                have z1 : ∀ yy : BelowT wr, yy.val.cell? ⟨b2, o2 + k * 2 + 1, none⟩ = _ := fun yy => by rw [below_at yy.below hlb2, u1]
                have z2 : ∀ yy : BelowT wr, yy.val.cell? ⟨b3, o3 + j * 3, none⟩ = _ := fun yy => by rw [below_at yy.below hl3, r0]
                have z3 : ∀ yy : BelowT wr, yy.val.cell? ⟨b3, o3 + j * 3 + 1, none⟩ = _ := fun yy => by rw [below_at yy.below hl3, r1]
                have z4 : ∀ yy : BelowT wr, yy.val.cell? ⟨b3, o3 + j * 3 + 2, none⟩ = _ := fun yy => by rw [below_at yy.below hl3, r2]
                have z5 : ∀ yy : BelowT wr, yy.val.cell? ⟨b4, o4 + j * 3, none⟩ = _ := fun yy => by rw [below_at yy.below hl4, t0]
                have z6 : ∀ yy : BelowT wr, yy.val.cell? ⟨b4, o4 + j * 3 + 1, none⟩ = _ := fun yy => by rw [below_at yy.below hl4, t1]
                have z7 : ∀ yy : BelowT wr, yy.val.cell? ⟨b4, o4 + j * 3 + 2, none⟩ = _ := fun yy => by rw [below_at yy.below hl4, t2]
                have HBB := Lib.hid hbi
                have HBB9 := Lib.hid hbi9
                have HU1 := Lib.hid (take_mls j1)
                have HU2 := Lib.hid (take_mls j2)
                have HME := Lib.hid (mls_ne j1 j2)
                clear r0 r1 r2 r3 t0 t1 t2 t3 hbi hbi9 ha3 ha4
                by_cases hq : x.xs[j].m = y.xs[j].m
                · have HN : Hid ((x.xs.take (j + 1)).map (·.m) = (y.xs.take (j + 1)).map (·.m)) := by show _ = _; rw [HU1.out, HU2.out, HMT.out, hq]
                  rw [decide_eq_true hq] at HC
                  clear hq HU1 HU2 HME
                  generalize x.xs[j] = xj at *
                  generalize y.xs[j] = yj at *
                  go_wp2_with fail
                  refine wp_region_quietB (W := wr) (by kernel_rfl) (by kernel_rfl) (Below.refl _ _) ?_
                  repeat (go_big_quiet_step (first
                    | (go_at_call 10; exact calls_belowT (HC.out _))))
                  refine wpQuiet_nil ?_
                  intro wz hwz
                  obtain ⟨x9, rfl⟩ := hwz
                  have hbx := nx HBB9.out x9.below
                  clear z0 z1 z2 z3 z4 z5 z6 z7
                  generalize x9.val = w9 at *
                  go_wp2
                  go_roundw
                  case rel => exact ⟨j + 1, by omega, by go_num, hbx, HN.out⟩
                  case measure => simp [intOf]; omega
                · have HN : Hid (xs.map BxA.b ≠ ys.map BxA.b) := HNE.out (fun e => HME.out hq (HBE.out.1 e).2)
                  rw [decide_eq_false hq] at HC
                  clear hq HU1 HU2 HME
                  generalize x.xs[j] = xj at *
                  generalize y.xs[j] = yj at *
                  go_wp2_with fail
                  refine wp_region_quietB (W := wr) (by kernel_rfl) (by kernel_rfl) (Below.refl _ _) ?_
                  repeat (go_big_quiet_step (first
                    | (go_at_call 10; exact calls_belowT (HC.out _))))
                  refine wpQuiet_nil ?_
                  intro wz hwz
                  obtain ⟨x9, rfl⟩ := hwz
                  have hbx := nx HW.out (nx HBB.out x9.below)
                  clear z0 z1 z2 z3 z4 z5 z6 z7
                  generalize x9.val = w9 at *
                  go_wp2
                  go_ret
                  exact ⟨ret_bool (decide_eq_false HN.out).symm, hbx⟩
              · have HBQ : Hid (x.b = y.b) := HBE.out.2 ⟨by show str x.path = str y.path; rw [HS1.out, HS2.out]; exact HSE.out, mls_all HM1.out HM2.out (by omega) HMT.out⟩
                have HN : Hid ((xs.take (k + 1)).map BxA.b = (ys.take (k + 1)).map BxA.b) := by show _ = _; rw [HT1.out, HT2.out, HTK.out, HBQ.out]
                have hbx := nx HW.out hbi
                generalize x.a = xa at *
                generalize y.a = ya at *
                go_wp2
                go_roundw
                case rel => exact ⟨k + 1, by omega, by go_num, hbx, HN.out⟩
                case measure => simp [intOf]; omega
          · have hd2 : ((x.xs.length : Int) != (y.xs.length : Int)) = true := by rw [bne_iff_ne]; omega
            have hd3 : ((x.xs.length : Int) == (y.xs.length : Int)) = false := by rw [beq_eq_false_iff_ne]; omega
            have HN : Hid (xs.map BxA.b ≠ ys.map BxA.b) := HNE.out (fun e => hln (by have := congrArg List.length (HBE.out.1 e).2; unfold BxA.b at this; simpa using this))
            generalize x.xs.length = m1 at *
            generalize y.xs.length = m2 at *
            go_wp2_with fail
            refine wp_region_quietB (W := wr) (by kernel_rfl) (by kernel_rfl) (Below.refl _ _) ?_
            repeat (go_big_quiet_step (fail))
            refine wpQuiet_nil ?_
            intro wz hwz
            obtain ⟨x9, rfl⟩ := hwz
            have hb9 := x9.below
            clear zc0 zc1 zc2 zc3
            generalize x9.val = w9 at *
            go_wp2
            go_ret
            exact ⟨ret_bool (decide_eq_false HN.out).symm, nx hb hb9⟩
      · have HN : Hid (xs.map BxA.b = ys.map BxA.b) := bxs_all L1.out L2.out (by omega) HTK.out
        go_wp2
        go_ret
        exact ⟨ret_bool (decide_eq_true HN.out).symm, hb⟩
  · have e1 : ((n1 : Int) != (n2 : Int)) = true := by rw [bne_iff_ne]; omega
    have HN : Hid (xs.map BxA.b ≠ ys.map BxA.b) := by show _ ≠ _; intro e; have := congrArg List.length e; rw [List.length_map, List.length_map, L1.out, L2.out] at this; exact hn this
    go_enter Try.func5, Try.ntmps5
    go_wp2
    go_ret
    exact ⟨ret_bool (decide_eq_false HN.out).symm, Below.refl _ _⟩
end Go.Proofs.Ytfiaankfmdpmkaa
