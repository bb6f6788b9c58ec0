/-
  Dates: the date of some seconds in the model. No statement is proved here.
-/
import Derived.Test.YtboopbjdehdhgaaGreatDoorDateS3
namespace Go.Proofs.YtboopbjdehdhgaaGreatDoor
open Go.RowKit

theorem Two7.ext {B : Nat} {D : Dat} {w wr w' : World} (h : Two7 B D w wr) (b : Below wr.heap.size wr w') : Two7 B D w w' := by
  have hl := lt_of_cell h.z.1
  have hl2 := lt_of_cell h.c.1
  exact ⟨h.z.below b, fun i => by rw [below_fz b hl]; exact h.zf i, h.c.below b, fun i => by rw [below_fz b hl2]; exact h.cf i, h.b.trans (b.mono (by omega))⟩
set_option maxRecDepth 100000 in
set_option maxHeartbeats 4000000 in
theorem dateOfS_any (n z : Int) (w : World) : Calls Tryz.prog 66 #[.int .i64 n, .int .i64 z] w (DateRet (dateO n z) w) := by
  have HB := Lib.hid (laid7_below 0 0 0 0 0 0 0 24 w)
  have HV3 : Hid (∀ u : World, Calls Tryz.prog 49 #[.int .i64 z] u fun e w' => e = .returned (.bool (decide (-720 ≤ z) && decide (z ≤ 840))) ∧ w' = u) := fun u => l4Zone_any z u
  by_cases h0 : 0 ≤ n
  · by_cases h1 : n < 4102444800
    · by_cases h2 : -720 ≤ z ∧ z ≤ 840
      · have e2 : (decide (-720 ≤ z) && decide (z ≤ 840)) = true := by simp; omega
        rw [e2] at HV3
        clear e2
        obtain ⟨S, hS⟩ : ∃ S, n + z * 60 = S := ⟨_, rfl⟩
        have HSS := Lib.hid hS
        have hw1 : IntKind.i64.wrap (z * 60) = z * 60 := IntWalk.i64_in _ (by omega)
        by_cases h3 : 0 ≤ S
        · by_cases h4 : S < 4102444800
          · obtain ⟨N, hN⟩ : ∃ N, S / 86400 = N := ⟨_, rfl⟩
            have hN0 : 0 ≤ N ∧ N < 47482 := by omega
            have HMK : Hid (∀ y m d, okD y m d → daysB y m d = N → dateO n z = some ⟨y, m, d, S % 86400 / 3600, S % 86400 / 60 % 60, S % 60, z⟩) := fun y m d a b => by
              rw [dateO_some]
              have := dateAt_mk ⟨h0, h1⟩ h2 a (by rw [hS, hN]; exact b)
              rw [hS] at this
              have e1 : S % 86400 / 60 % 60 = S % 3600 / 60 := by omega
              rw [e1]; exact this
            have hnew := two7_new 1970 1 0 (S % 86400 / 3600) (S % 86400 / 60 % 60) (S % 60) z 24 24 w
            have hr0 : 0 ≤ S % 86400 := by omega
            go_enter Tryz.func66, Tryz.ntmps66
            go_wp2_with fail
            refine (HV3.out _).mono ?_
            rintro e w1 ⟨rfl, rfl⟩
            go_wp2_with fail
            rw [hN, show S % 86400 % 60 = S % 60 by omega]
            generalize hB : w.heap.size = B at *
            generalize S % 86400 / 3600 = H at *
            generalize S % 86400 / 60 % 60 = MI at *
            clear hr0 hS hN h3 h4 hw1 HSS
            go_loopw [7] (fun a wr => ∃ k j : Nat, k ≤ 129 ∧ j ≤ 11 ∧ yrs k ≤ N ∧ N - yrs k < ylen (1970 + k) + 1000000 ∧ mos (1970 + k) j ≤ N - yrs k ∧ a = .int .i64 (N - yrs k - mos (1970 + k) j) ∧ Two7 B ⟨1970 + k, 1 + j, 0, H, MI, S % 60, z⟩ w wr) (fun a _ => (intOf a).toNat)
            case atStart => exact ⟨0, 0, by omega, by omega, hN0.1, by show N - 0 < _; have := ylen_ge (1970 + ((0 : Nat) : Int)); omega, by show (0 : Int) ≤ N - 0; omega, by show Value.int .i64 N = Value.int .i64 (N - 0 - 0); congr 1; omega, hnew⟩
            case round =>
              obtain ⟨k, j, hk, hj, hyn, _, hjn, rfl, htwo⟩ := hrel
              have HT := Lib.hid htwo
              obtain ⟨⟨z0, z1, z2, z3, z4, z5, z6⟩, zf, ⟨c0, c1, c2, c3, c4, c5, c6⟩, cf, hb⟩ := htwo
              simp only at c0 c1 c2 c3 c4 c5 c6
              have b5 := yrs_nn k
              have hk2099 : 1970 + (k : Int) ≤ 2099 := by omega
              have d1 := mos_nn (1970 + k) j
              have d4 := dim_ge (1970 + k) (1 + j) ⟨by omega, hk2099⟩ ⟨by omega, by omega⟩
              have d5 := dim_le (1970 + k) (1 + j)
              have HS : Hid (mos (1970 + k) (j + 1) = mos (1970 + k) j + dim (1970 + k) (1 + j)) := by show _ = _; rw [mos_succ, Int.add_comm (j : Int) 1]
              have HY : Hid (yrs (k + 1) = yrs k + ylen (1970 + k)) := yrs_succ k
              have HM12 : Hid (mos (1970 + (k : Int)) 12 = ylen (1970 + k)) := mos_year ⟨by omega, hk2099⟩
              have HL : Hid (∀ u : World, Calls Tryz.prog 48 #[.int .i64 (1970 + k), .int .i64 (1 + j)] u fun e w' => e = .returned (.int .i64 (dim (1970 + k) (1 + j))) ∧ Below u.heap.size u w') := fun u => daysOfS_any _ _ u
              have hlB : B < wr.heap.size := lt_of_cell z0
              have hlB1 : B + 1 < wr.heap.size := lt_of_cell c0
              by_cases hlt : dim (1970 + (k : Int)) (1 + (j : Int)) ≤ N - yrs k - mos (1970 + (k : Int)) j
              · have HDD : Hid (dim (1970 + (k : Int)) (1 + (j : Int)) ≤ N - yrs k - mos (1970 + (k : Int)) j) := hlt
                generalize hLL : dim (1970 + (k : Int)) (1 + (j : Int)) = L at *
                generalize hMM : mos (1970 + (k : Int)) j = M at *
                generalize hYY : yrs k = Y at *
                have HYY := Lib.hid hYY
                have HMM := Lib.hid hMM
                clear hLL hMM hYY
                go_wp2_with fail
                refine (HL.out _).mono ?_
                rintro e w2 ⟨rfl, hb2⟩
                have HT2 := Lib.hid (HT.out.ext hb2)
                clear z0 z1 z2 z3 z4 z5 z6 zf c0 c1 c2 c3 c4 c5 c6 cf hb
                obtain ⟨⟨z0, z1, z2, z3, z4, z5, z6⟩, zf, ⟨c0, c1, c2, c3, c4, c5, c6⟩, cf, hb⟩ := HT2.out
                simp only at c0 c1 c2 c3 c4 c5 c6
                go_wp2_with fail
                refine (HL.out _).mono ?_
                rintro e w3 ⟨rfl, hb3⟩
                have HT3 := Lib.hid (HT2.out.ext hb3)
                clear z0 z1 z2 z3 z4 z5 z6 zf c0 c1 c2 c3 c4 c5 c6 cf hb
                obtain ⟨⟨z0, z1, z2, z3, z4, z5, z6⟩, zf, ⟨c0, c1, c2, c3, c4, c5, c6⟩, cf, hb⟩ := HT3.out
                simp only at c0 c1 c2 c3 c4 c5 c6
                have hf0 := cf 0
                have hf1 := cf 1
                clear zf cf
                by_cases h12 : j = 11
                · subst h12
                  have hq : ylen (1970 + (k : Int)) ≤ N - Y := by
                    have e1 := HM12.out
                    have e2 := HS.out
                    rw [show (11 : Nat) + 1 = 12 from rfl] at e2
                    have e3 := HDD.out
                    omega
                  have hk2 : k ≤ 128 := by
                    by_cases e : k = 129
                    · subst e
                      have e1 := HY.out
                      rw [show (129 : Nat) + 1 = 130 from rfl, yrs_all] at e1
                      omega
                    · omega
                  have hMY : M + L = ylen (1970 + (k : Int)) := by
                    have e1 := HM12.out
                    have e2 := HS.out
                    rw [show (11 : Nat) + 1 = 12 from rfl] at e2
                    omega
                  have HMY := Lib.hid hMY
                  clear hMY
                  have HSET := Lib.hid (((HT3.out.set1 13).set1 1).set0 ((1970 : Int) + k + 1))
                  have e11 : ((11 : Nat) : Int) = 11 := rfl
                  rw [e11] at *
                  go_wp2
                  go_roundw
                  case rel =>
                    refine ⟨k + 1, 0, by omega, by omega, by rw [HY.out]; omega, by have := ylen_ge (1970 + ((k + 1 : Nat) : Int)); rw [HY.out]; omega, by show (0 : Int) ≤ _; rw [HY.out]; omega, ?_, ?_⟩
                    · show Value.int .i64 _ = Value.int .i64 (N - yrs (k + 1) - 0); congr 1; rw [HY.out]; have := HMY.out; omega
                    · have := HSET.out
                      rw [show (1970 : Int) + ((k + 1 : Nat) : Int) = 1970 + k + 1 by omega]
                      exact this
                  case measure => simp [intOf]; omega
                · have hj2 : j ≤ 10 := by omega
                  have h13 : ¬ (1 + (j : Int) + 1 = 13) := by omega
                  have HSET := Lib.hid (HT3.out.set1 ((1 : Int) + ((j + 1 : Nat) : Int)))
                  go_wp2
                  go_roundw
                  case rel =>
                    refine ⟨k, j + 1, hk, by omega, by rw [HYY.out]; exact hyn, by have := ylen_ge (1970 + (k : Int)); rw [HYY.out]; omega, by rw [HS.out, HYY.out]; omega, ?_, ?_⟩
                    · rw [HS.out, HYY.out]; congr 1; omega
                    · have := HSET.out
                      first | exact this | (rw [show (1 : Int) + j + 1 = 1 + ((j + 1 : Nat) : Int) by omega]; exact this)
                  case measure => simp [intOf]; omega
              · have HO : Hid (okD (1970 + (k : Int)) (1 + (j : Int)) (N - yrs k - mos (1970 + (k : Int)) j + 1)) := ⟨by omega, by omega, by omega, by omega, by omega, by omega⟩
                have HDB : Hid (daysB (1970 + (k : Int)) (1 + (j : Int)) (N - yrs k - mos (1970 + (k : Int)) j + 1) = N) := by
                  show _ = _
                  unfold daysB
                  rw [show (1 + (j : Int) - 1).toNat = j by omega, show (1970 + (k : Int) - 1970).toNat = k by omega]; omega
                have HR := Lib.hid (HMK.out _ _ _ HO.out HDB.out)
                have d6 : N - yrs k - mos (1970 + (k : Int)) j ≤ 31 := by omega
                have d7 : 0 ≤ N - yrs k - mos (1970 + (k : Int)) j := by omega
                clear HS HY HM12 HO HDB
                generalize dim (1970 + (k : Int)) (1 + (j : Int)) = L at *
                generalize mos (1970 + (k : Int)) j = M at *
                generalize yrs k = Y at *
                go_wp2_with fail
                refine (HL.out _).mono ?_
                rintro e w2 ⟨rfl, hb2⟩
                have HT2 := Lib.hid (HT.out.ext hb2)
                clear z0 z1 z2 z3 z4 z5 z6 zf c0 c1 c2 c3 c4 c5 c6 cf hb
                obtain ⟨⟨z0, z1, z2, z3, z4, z5, z6⟩, zf, ⟨c0, c1, c2, c3, c4, c5, c6⟩, cf, hb⟩ := HT2.out
                unfold dat0 at z0 z1 z2 z3 z4 z5 z6
                simp only at c0 c1 c2 c3 c4 c5 c6 z0 z1 z2 z3 z4 z5 z6
                have hne : B ≠ B + 1 := by omega
                have hf2 := cf 2
                have g0 := zf 0
                have g1 := zf 1
                have g2 := zf 2
                have g3 := zf 3
                have g4 := zf 4
                have g5 := zf 5
                have g6 := zf 6
                have HBW := Lib.hid hb
                clear zf cf hb
                go_wp2
                refine bodyPost_ret (v := .tuple #[.agg #[.int .i64 (1970 + k), .int .i64 (1 + j), .int .i64 (N - Y - M + 1), .int .i64 H, .int .i64 MI, .int .i64 (S % 60), .int .i64 z], .bool true]) (by simp [results, Tryz.results66, go_sem, z0, z1, z2, z3, z4, z5, z6]) rfl (dateRet_some HR.out ?_)
                subst hB
                iterate 8 refine Below.setCell ?_ (by simp) _
                exact HBW.out
          · have HN := Lib.hid (dateO_bad (n := n) (z := z) (fun c => h4 (by rw [← hS]; exact c.2.2.2)))
            go_enter Tryz.func66, Tryz.ntmps66
            go_wp2_with fail
            refine (HV3.out _).mono ?_
            rintro e w1 ⟨rfl, rfl⟩
            go_wp2
            refine bodyPost_ret (v := .tuple #[.agg #[.int .i64 0, .int .i64 0, .int .i64 0, .int .i64 0, .int .i64 0, .int .i64 0, .int .i64 0], .bool false]) (by simp [results, Tryz.results66, go_sem]) rfl (dateRet_none HN.out ?_)
            exact HB.out
        · have HN := Lib.hid (dateO_bad (n := n) (z := z) (fun c => h3 (by rw [← hS]; exact c.2.2.1)))
          go_enter Tryz.func66, Tryz.ntmps66
          go_wp2_with fail
          refine (HV3.out _).mono ?_
          rintro e w1 ⟨rfl, rfl⟩
          go_wp2
          refine bodyPost_ret (v := .tuple #[.agg #[.int .i64 0, .int .i64 0, .int .i64 0, .int .i64 0, .int .i64 0, .int .i64 0, .int .i64 0], .bool false]) (by simp [results, Tryz.results66, go_sem]) rfl (dateRet_none HN.out ?_)
          exact HB.out
      · have e2 : (decide (-720 ≤ z) && decide (z ≤ 840)) = false := by simp; omega
        rw [e2] at HV3
        have HN := Lib.hid (dateO_bad (n := n) (z := z) (fun c => h2 c.2.1))
        go_enter Tryz.func66, Tryz.ntmps66
        go_wp2_with fail
        refine (HV3.out _).mono ?_
        rintro e w1 ⟨rfl, rfl⟩
        go_wp2
        refine bodyPost_ret (v := .tuple #[.agg #[.int .i64 0, .int .i64 0, .int .i64 0, .int .i64 0, .int .i64 0, .int .i64 0, .int .i64 0], .bool false]) (by simp [results, Tryz.results66, go_sem]) rfl (dateRet_none HN.out ?_)
        exact HB.out
    · have HN := Lib.hid (dateO_bad (n := n) (z := z) (fun c => h1 c.1.2))
      go_enter Tryz.func66, Tryz.ntmps66
      go_wp2
      refine bodyPost_ret (v := .tuple #[.agg #[.int .i64 0, .int .i64 0, .int .i64 0, .int .i64 0, .int .i64 0, .int .i64 0, .int .i64 0], .bool false]) (by simp [results, Tryz.results66, go_sem]) rfl (dateRet_none HN.out ?_)
      exact HB.out
  · have HN := Lib.hid (dateO_bad (n := n) (z := z) (fun c => h0 c.1.1))
    go_enter Tryz.func66, Tryz.ntmps66
    go_wp2
    refine bodyPost_ret (v := .tuple #[.agg #[.int .i64 0, .int .i64 0, .int .i64 0, .int .i64 0, .int .i64 0, .int .i64 0, .int .i64 0], .bool false]) (by simp [results, Tryz.results66, go_sem]) rfl (dateRet_none HN.out ?_)
    exact HB.out
end Go.Proofs.YtboopbjdehdhgaaGreatDoor
