/-
  Dates: the day that so many days come before; the date of some seconds in a zone. No statement is proved here.
-/
import Derived.Test.YtejplhhlecnagaaDoorDate3
namespace Go.Proofs.YtejplhhlecnagaaDoor
open Go.RowKit

/-- Two dates that a function has laid: at B one of zeros, behind it another one; nothing below B turned. -/
structure Two7 (B : Nat) (D : Dat) (w wr : World) : Prop where
  z : Laid7 B dat0 wr
  zf : ∀ i, wr.frozen? ⟨B, i, none⟩ = false
  c : Laid7 (B + 1) D wr
  cf : ∀ i, wr.frozen? ⟨B + 1, i, none⟩ = false
  b : Below B w wr
theorem two7_new (y m d h mi s z : Int) (t t2 : TypeId) (w : World) : Two7 w.heap.size ⟨y, m, d, h, mi, s, z⟩ w ((w.alloc (.cells #[.int .i64 0, .int .i64 0, .int .i64 0, .int .i64 0, .int .i64 0, .int .i64 0, .int .i64 0] t)).alloc (.cells #[.int .i64 y, .int .i64 m, .int .i64 d, .int .i64 h, .int .i64 mi, .int .i64 s, .int .i64 z] t2)) := by
  have hb0 := laid7_below 0 0 0 0 0 0 0 t w
  have hz := laid7_new 0 0 0 0 0 0 0 t w
  have hs : (w.alloc (.cells #[.int .i64 0, .int .i64 0, .int .i64 0, .int .i64 0, .int .i64 0, .int .i64 0, .int .i64 0] t)).heap.size = w.heap.size + 1 := by simp
  have hf : ∀ i, (w.alloc (.cells #[.int .i64 0, .int .i64 0, .int .i64 0, .int .i64 0, .int .i64 0, .int .i64 0, .int .i64 0] t)).frozen? ⟨w.heap.size, i, none⟩ = false := fun i => by rw [World.frozen?_alloc_at _ _ _ _ rfl]
  generalize w.alloc (.cells #[.int .i64 0, .int .i64 0, .int .i64 0, .int .i64 0, .int .i64 0, .int .i64 0, .int .i64 0] t) = w1 at *
  have hb1 := laid7_below y m d h mi s z t2 w1
  have hc := laid7_new y m d h mi s z t2 w1
  refine ⟨hz.below hb1, fun i => ?_, ?_, fun i => ?_, nx hb0 hb1⟩
  · rw [below_fz hb1 (by omega), hf]
  · rw [← hs]; exact hc
  · rw [← hs, World.frozen?_alloc_at _ _ _ _ rfl]
theorem Two7.set0 {B : Nat} {D : Dat} {w wr : World} (h : Two7 B D w wr) (v : Int) : Two7 B { D with y := v } w (wr.setCell ⟨B + 1, 0, none⟩ (.int .i64 v)) := by
  obtain ⟨⟨z0, z1, z2, z3, z4, z5, z6⟩, zf, ⟨c0, c1, c2, c3, c4, c5, c6⟩, cf, b⟩ := h
  refine ⟨⟨?_, ?_, ?_, ?_, ?_, ?_, ?_⟩, fun i => by rw [World.frozen?_setCell]; exact zf i, ⟨cell_same c0 _, ?_, ?_, ?_, ?_, ?_, ?_⟩, fun i => by rw [World.frozen?_setCell]; exact cf i, b.setCell (by simp) _⟩
  all_goals first
    | (rw [cell_blk (by omega)]; assumption)
    | (rw [cell_off (by omega)]; assumption)
theorem Two7.set1 {B : Nat} {D : Dat} {w wr : World} (h : Two7 B D w wr) (v : Int) : Two7 B { D with mo := v } w (wr.setCell ⟨B + 1, 1, none⟩ (.int .i64 v)) := by
  obtain ⟨⟨z0, z1, z2, z3, z4, z5, z6⟩, zf, ⟨c0, c1, c2, c3, c4, c5, c6⟩, cf, b⟩ := h
  refine ⟨⟨?_, ?_, ?_, ?_, ?_, ?_, ?_⟩, fun i => by rw [World.frozen?_setCell]; exact zf i, ⟨?_, cell_same c1 _, ?_, ?_, ?_, ?_, ?_⟩, fun i => by rw [World.frozen?_setCell]; exact cf i, b.setCell (by simp) _⟩
  all_goals first
    | (rw [cell_blk (by omega)]; assumption)
    | (rw [cell_off (by omega)]; assumption)
set_option maxRecDepth 100000 in
set_option maxHeartbeats 2000000 in
theorem dayAfter_any (n : Int) (w : World) (h0 : 0 ≤ n) (h1 : n < 47482) :
    Calls Tryd.prog 26 #[.int .i64 n] w fun e w' => ∃ y m d, okD y m d ∧ daysB y m d = n ∧ e = .returned (.agg #[.int .i64 y, .int .i64 m, .int .i64 d, .int .i64 0, .int .i64 0, .int .i64 0, .int .i64 0]) ∧ Below w.heap.size w w' := by
  have hnew := two7_new 1970 1 0 0 0 0 0 24 24 w
  go_enter Tryd.func26, Tryd.ntmps26
  go_wp2_with fail
  generalize hB : w.heap.size = B at *
  go_loopw [0] (fun a wr => ∃ k : Nat, k ≤ 129 ∧ yrs k ≤ n ∧ a = .int .i64 (n - yrs k) ∧ Two7 B ⟨1970 + k, 1, 0, 0, 0, 0, 0⟩ w wr) (fun a _ => (intOf a).toNat)
  case atStart => exact ⟨0, by omega, h0, by show _ = Value.int .i64 (n - 0); congr 1; omega, hnew⟩
  case round =>
    obtain ⟨k, hk, hyn, rfl, htwo⟩ := hrel
    have HT := Lib.hid htwo
    obtain ⟨⟨z0, z1, z2, z3, z4, z5, z6⟩, zf, ⟨c0, c1, c2, c3, c4, c5, c6⟩, cf, hb⟩ := htwo
    simp only at c0 c1 c2 c3 c4 c5 c6
    have hf0 := cf 0
    have hf1 := cf 1
    have hf2 := cf 2
    have b3 := ylen_ge (1970 + k)
    have b4 := ylen_le (1970 + k)
    have b5 := yrs_nn k
    have HS : Hid (yrs (k + 1) = yrs k + ylen (1970 + k)) := yrs_succ k
    have HL : Hid (∀ u : World, Calls Tryd.prog 44 #[.int .i64 (1970 + k)] u fun e w' => e = .returned (.int .i64 (ylen (1970 + k))) ∧ w' = u) := fun u => daysOfYear_any _ u (by omega) (by omega)
    by_cases hlt : ylen (1970 + (k : Int)) ≤ n - yrs k
    · have hk2 : k ≤ 128 := by
        by_cases e : k = 129
        · subst e
          have := HS.out
          rw [show (129 : Nat) + 1 = 130 from rfl, yrs_all] at this
          omega
        · omega
      generalize ylen (1970 + (k : Int)) = L at *
      generalize hY : yrs k = Y at *
      have HY := Lib.hid hY
      clear hY
      go_wp2_with fail
      refine (HL.out _).mono ?_
      rintro e w2 ⟨rfl, rfl⟩
      go_wp2_with fail
      refine (HL.out _).mono ?_
      rintro e w2 ⟨rfl, rfl⟩
      go_wp2
      go_roundw
      case rel => exact ⟨k + 1, by omega, by rw [HS.out]; omega, by rw [HS.out]; congr 1; omega, by have := HT.out.set0 ((1970 : Int) + ((k + 1 : Nat) : Int)); first | exact this | (rw [show (1970 : Int) + k + 1 = 1970 + ((k + 1 : Nat) : Int) by omega]; exact this)⟩
      case measure => simp [intOf]; omega
    · have hk1 : 1970 + (k : Int) ≤ 2099 := by omega
      have HR : Hid (n - yrs k < mos (1970 + k) 12) := by show _ < _; rw [mos_year ⟨by omega, hk1⟩]; omega
      have HK : Hid (yrs k = yrs (1970 + (k : Int) - 1970).toNat) := by show _ = _; congr 1; omega
      clear HS b4 b3 hf1 hf2 hf0 z0 z1 z2 z3 z4 z5 z6 zf cf
      have hn5 : 0 ≤ n - yrs k ∧ n - yrs k < 47482 := by omega
      have hge : ¬ ylen (1970 + (k : Int)) ≤ n - yrs k := hlt
      generalize ylen (1970 + (k : Int)) = L at *
      generalize hY : yrs k = Y at *
      have HY := Lib.hid hY
      clear hY b5 hyn
      go_wp2_with fail
      refine (HL.out _).mono ?_
      rintro e w2 ⟨rfl, rfl⟩
      go_wp2_with fail
      generalize hyy : (1970 : Int) + (k : Int) = y at *
      have HYY := Lib.hid hyy
      have hy0 : 1970 ≤ y := by omega
      clear hyy hk hlt hge HL c0 c1 c2 c3 c4 c5 c6
      go_loopw [0] (fun a wr => ∃ j : Nat, j ≤ 11 ∧ mos y j ≤ n - Y ∧ a = .int .i64 (n - Y - mos y j) ∧ Two7 B ⟨y, 1 + j, 0, 0, 0, 0, 0⟩ w wr) (fun a _ => (intOf a).toNat)
      case atStart => exact ⟨0, by omega, hn5.1, by show _ = Value.int .i64 (n - Y - 0); congr 1; omega, HT.out⟩
      case round =>
        obtain ⟨j, hj, hjn, rfl, htwo⟩ := hrel
        have HT := Lib.hid htwo
        obtain ⟨⟨z0, z1, z2, z3, z4, z5, z6⟩, zf, ⟨c0, c1, c2, c3, c4, c5, c6⟩, cf, hb⟩ := htwo
        simp only at c0 c1 c2 c3 c4 c5 c6
        have d1 := mos_nn y j
        have d4 := dim_ge y (1 + j) ⟨hy0, hk1⟩ ⟨by omega, by omega⟩
        have d5 := dim_le y (1 + j)
        have hf1 := cf 1
        have hf2 := cf 2
        have HS : Hid (mos y (j + 1) = mos y j + dim y (1 + j)) := by show _ = _; rw [mos_succ, Int.add_comm (j : Int) 1]
        have HL : Hid (∀ u : World, Calls Tryd.prog 45 #[.int .i64 y, .int .i64 (1 + j)] u fun e w' => e = .returned (.int .i64 (dim y (1 + j))) ∧ w' = u) := fun u => daysOf_any _ _ u
        by_cases hlt : dim y (1 + (j : Int)) ≤ n - Y - mos y j
        · have hj2 : j ≤ 10 := by
            by_cases e : j = 11
            · subst e
              have := HS.out
              have := HR.out
              rw [show (11 : Nat) + 1 = 12 from rfl] at *
              omega
            · omega
          generalize dim y (1 + (j : Int)) = L at *
          generalize hM : mos y j = M at *
          have HM := Lib.hid hM
          clear hM
          go_wp2_with fail
          refine (HL.out _).mono ?_
          rintro e w2 ⟨rfl, rfl⟩
          go_wp2_with fail
          refine (HL.out _).mono ?_
          rintro e w2 ⟨rfl, rfl⟩
          go_wp2
          go_roundw
          case rel => exact ⟨j + 1, by omega, by rw [HS.out]; omega, by rw [HS.out]; congr 1; omega, by have := HT.out.set1 ((1 : Int) + ((j + 1 : Nat) : Int)); first | exact this | (rw [show (1 : Int) + j + 1 = 1 + ((j + 1 : Nat) : Int) by omega]; exact this)⟩
          case measure => simp [intOf]; omega
        · have HO : Hid (okD y (1 + j) (n - Y - mos y j + 1)) := ⟨hy0, hk1, by omega, by omega, by omega, by omega⟩
          have HDB : Hid (daysB y (1 + j) (n - Y - mos y j + 1) = n) := by
            show _ = _
            unfold daysB
            rw [← HK.out, show (1 + (j : Int) - 1).toNat = j by omega]; omega
          have d6 : n - Y - mos y j ≤ 31 := by omega
          have d7 : 0 ≤ n - Y - mos y j := by omega
          clear HS
          generalize dim y (1 + (j : Int)) = L at *
          generalize hM : mos y j = M at *
          clear hM
          have HBW := Lib.hid hb
          have hne : B ≠ B + 1 := by omega
          have hf0 := cf 0
          have hf3 := cf 3
          have hf4 := cf 4
          have hf5 := cf 5
          have hf6 := cf 6
          have g0 := zf 0
          have g1 := zf 1
          have g2 := zf 2
          have g3 := zf 3
          have g4 := zf 4
          have g5 := zf 5
          have g6 := zf 6
          unfold dat0 at z0 z1 z2 z3 z4 z5 z6
          simp only at z0 z1 z2 z3 z4 z5 z6
          clear zf cf hb
          go_wp2_with fail
          refine (HL.out _).mono ?_
          rintro e w2 ⟨rfl, rfl⟩
          go_wp2
          refine bodyPost_ret (v := .agg #[.int .i64 y, .int .i64 (1 + j), .int .i64 (n - Y - M + 1), .int .i64 0, .int .i64 0, .int .i64 0, .int .i64 0]) (by simp [results, Tryd.results26, go_sem, z0, z1, z2, z3, z4, z5, z6]) rfl ⟨y, 1 + j, n - Y - M + 1, HO.out, HDB.out, rfl, ?_⟩
          subst hB
          iterate 8 refine Below.setCell ?_ (by simp) _
          exact HBW.out
/-- What the two results of a date are. -/
def DateRet (o : Option Dat) (w : World) (e : Ending) (w' : World) : Prop := e = .returned (.tuple #[datV (o.getD dat0), .bool o.isSome]) ∧ Below w.heap.size w w'
theorem dateRet_none {o : Option Dat} {w w' : World} (h : o = none) (b : Below w.heap.size w w') : DateRet o w (.returned (.tuple #[.agg #[.int .i64 0, .int .i64 0, .int .i64 0, .int .i64 0, .int .i64 0, .int .i64 0, .int .i64 0], .bool false])) w' := by
  subst h; exact ⟨rfl, b⟩
theorem dateRet_some {o : Option Dat} {y m d h mi s z : Int} {w w' : World} (e : o = some ⟨y, m, d, h, mi, s, z⟩) (b : Below w.heap.size w w') : DateRet o w (.returned (.tuple #[.agg #[.int .i64 y, .int .i64 m, .int .i64 d, .int .i64 h, .int .i64 mi, .int .i64 s, .int .i64 z], .bool true])) w' := by
  subst e; exact ⟨rfl, b⟩
theorem dateRet_any {o : Option Dat} {y m d h mi s z : Int} {w w' : World} (e : o.getD dat0 = ⟨y, m, d, h, mi, s, z⟩) (b : Below w.heap.size w w') : DateRet o w (.returned (.tuple #[.agg #[.int .i64 y, .int .i64 m, .int .i64 d, .int .i64 h, .int .i64 mi, .int .i64 s, .int .i64 z], .bool o.isSome])) w' := by
  unfold DateRet; rw [e]; exact ⟨rfl, b⟩
theorem dateO_bad {n z : Int} (h : ¬ ((0 ≤ n ∧ n < 4102444800) ∧ (-720 ≤ z ∧ z ≤ 840) ∧ 0 ≤ n + z * 60 ∧ n + z * 60 < 4102444800)) : dateO n z = none := by
  rw [dateO_none]; rintro ⟨D, hD⟩
  have := dateO_need hD
  exact h ⟨this.1, this.2.1, this.2.2.1, this.2.2.2.1⟩
set_option maxRecDepth 100000 in
set_option maxHeartbeats 2000000 in
theorem dateOf_any (n z : Int) (w : World) : Calls Tryd.prog 13 #[.int .i64 n, .int .i64 z] w (DateRet (dateO n z) w) := by
  have hb0 := laid7_below 0 0 0 0 0 0 0 24 w
  have HB := Lib.hid hb0
  by_cases h1 : 0 ≤ n ∧ n < 4102444800
  · have e1 : (decide (0 ≤ n) && decide (n ≤ 4102444799)) = true := by simp; omega
    by_cases h2 : -720 ≤ z ∧ z ≤ 840
    · have e2 : (decide (-720 ≤ z) && decide (z ≤ 840)) = true := by simp; omega
      obtain ⟨S, hS⟩ : ∃ S, n + z * 60 = S := ⟨_, rfl⟩
      have HSS := Lib.hid hS
      have hw1 : IntKind.i64.wrap (z * 60) = z * 60 := IntWalk.i64_in _ (by omega)
      by_cases h3 : 0 ≤ S ∧ S < 4102444800
      · have e3 : (decide (0 ≤ S) && decide (S ≤ 4102444799)) = true := by simp; omega
        have hq0 : 0 ≤ S / 86400 ∧ S / 86400 < 47482 := by omega
        have HMK : Hid (∀ y m d, okD y m d → daysB y m d = S / 86400 → dateO n z = some ⟨y, m, d, S % 86400 / 3600, S % 3600 / 60, S % 60, z⟩) := fun y m d a b => by
          rw [dateO_some]
          have := dateAt_mk h1 h2 a (by rw [hS]; exact b)
          rw [hS] at this; exact this
        have HV1 : Hid (∀ u : World, Calls Tryd.prog 24 #[.int .i64 n] u fun e w' => e = .returned (.bool true) ∧ w' = u) := fun u => by rw [← e1]; exact secondsValid_any n u
        have HV2 : Hid (∀ u : World, Calls Tryd.prog 24 #[.int .i64 S] u fun e w' => e = .returned (.bool true) ∧ w' = u) := fun u => by rw [← e3]; exact secondsValid_any S u
        have HV3 : Hid (∀ u : World, Calls Tryd.prog 25 #[.int .i64 z] u fun e w' => e = .returned (.bool true) ∧ w' = u) := fun u => by rw [← e2]; exact zoneValid_any z u
        have hs0 : 0 ≤ S := h3.1
        have hsn : 0 ≤ n := h1.1
        clear e1 e2 e3
        go_enter Tryd.func13, Tryd.ntmps13
        go_wp2_with fail
        refine (HV1.out _).mono ?_
        rintro e w1 ⟨rfl, rfl⟩
        go_wp2_with fail
        refine (HV3.out _).mono ?_
        rintro e w1 ⟨rfl, rfl⟩
        go_wp2_with fail
        refine (HV2.out _).mono ?_
        rintro e w1 ⟨rfl, rfl⟩
        go_wp2_with fail
        refine (dayAfter_any (S / 86400) _ hq0.1 hq0.2).mono ?_
        rintro e w2 ⟨y, m, d, ho, hd, rfl, hb2⟩
        have hz := (laid7_new 0 0 0 0 0 0 0 24 w).below hb2
        have hzf : ∀ i, w2.frozen? ⟨w.heap.size, i, none⟩ = false := fun i => by rw [below_fz hb2 (by simp), World.frozen?_alloc_at _ _ _ _ rfl]
        have HR : Hid (dateO n z = some ⟨y, m, d, S % 86400 / 3600, S % 3600 / 60, S % 60, z⟩) := HMK.out y m d ho hd
        have HBZ := Lib.hid (nx HB.out hb2)
        have hlt : w.heap.size < w2.heap.size := by have := hb2.size; simp at this; omega
        have hne : w.heap.size ≠ w2.heap.size := by omega
        obtain ⟨z0, z1, z2, z3, z4, z5, z6⟩ := hz
        simp only at z0 z1 z2 z3 z4 z5 z6
        have g0 := hzf 0
        have g1 := hzf 1
        have g2 := hzf 2
        have g3 := hzf 3
        have g4 := hzf 4
        have g5 := hzf 5
        have g6 := hzf 6
        clear hzf hd HMK hq0 hb0 hS hw1 ho h3 hb2
        go_wp2
        have ha : ∀ (X : World) (o : Obj) (i : Nat), X.heap.size = w2.heap.size → (X.alloc o).cell? ⟨w.heap.size, i, none⟩ = X.cell? ⟨w.heap.size, i, none⟩ := fun X o i h => World.cell?_alloc_old _ _ _ (by rw [h]; exact hne)
        refine bodyPost_ret (v := .tuple #[.agg #[.int .i64 y, .int .i64 m, .int .i64 d, .int .i64 (S % 86400 / 3600), .int .i64 (S % 3600 / 60), .int .i64 (S % 60), .int .i64 z], .bool true]) (by simp [results, Tryd.results13, go_sem, ha, z0, z1, z2, z3, z4, z5, z6]) rfl (dateRet_some HR.out ?_)
        refine Below.alloc ?_ (by simp; omega) _
        iterate 7 refine Below.setCell ?_ (by simp) _
        exact HBZ.out
      · have e3 : (decide (0 ≤ S) && decide (S ≤ 4102444799)) = false := by simp; omega
        have HN := Lib.hid (dateO_bad (n := n) (z := z) (fun c => h3 (by rw [← hS]; exact c.2.2)))
        have HV1 : Hid (∀ u : World, Calls Tryd.prog 24 #[.int .i64 n] u fun e w' => e = .returned (.bool true) ∧ w' = u) := fun u => by rw [← e1]; exact secondsValid_any n u
        have HV2 : Hid (∀ u : World, Calls Tryd.prog 24 #[.int .i64 S] u fun e w' => e = .returned (.bool false) ∧ w' = u) := fun u => by rw [← e3]; exact secondsValid_any S u
        have HV3 : Hid (∀ u : World, Calls Tryd.prog 25 #[.int .i64 z] u fun e w' => e = .returned (.bool true) ∧ w' = u) := fun u => by rw [← e2]; exact zoneValid_any z u
        clear e1 e2 e3
        go_enter Tryd.func13, Tryd.ntmps13
        go_wp2_with fail
        refine (HV1.out _).mono ?_
        rintro e w1 ⟨rfl, rfl⟩
        go_wp2_with fail
        refine (HV3.out _).mono ?_
        rintro e w1 ⟨rfl, rfl⟩
        go_wp2_with fail
        refine (HV2.out _).mono ?_
        rintro e w1 ⟨rfl, rfl⟩
        go_wp2
        refine bodyPost_ret (v := .tuple #[.agg #[.int .i64 0, .int .i64 0, .int .i64 0, .int .i64 0, .int .i64 0, .int .i64 0, .int .i64 0], .bool false]) (by simp [results, Tryd.results13, go_sem]) rfl (dateRet_none HN.out ?_)
        exact HB.out
    · have e2 : (decide (-720 ≤ z) && decide (z ≤ 840)) = false := by simp; omega
      have HN := Lib.hid (dateO_bad (n := n) (z := z) (fun c => h2 c.2.1))
      have HV1 : Hid (∀ u : World, Calls Tryd.prog 24 #[.int .i64 n] u fun e w' => e = .returned (.bool true) ∧ w' = u) := fun u => by rw [← e1]; exact secondsValid_any n u
      have HV3 : Hid (∀ u : World, Calls Tryd.prog 25 #[.int .i64 z] u fun e w' => e = .returned (.bool false) ∧ w' = u) := fun u => by rw [← e2]; exact zoneValid_any z u
      clear e1 e2
      go_enter Tryd.func13, Tryd.ntmps13
      go_wp2_with fail
      refine (HV1.out _).mono ?_
      rintro e w1 ⟨rfl, rfl⟩
      go_wp2_with fail
      refine (HV3.out _).mono ?_
      rintro e w1 ⟨rfl, rfl⟩
      go_wp2
      refine bodyPost_ret (v := .tuple #[.agg #[.int .i64 0, .int .i64 0, .int .i64 0, .int .i64 0, .int .i64 0, .int .i64 0, .int .i64 0], .bool false]) (by simp [results, Tryd.results13, go_sem]) rfl (dateRet_none HN.out ?_)
      exact HB.out
  · have e1 : (decide (0 ≤ n) && decide (n ≤ 4102444799)) = false := by simp; omega
    have HN := Lib.hid (dateO_bad (n := n) (z := z) (fun c => h1 c.1))
    have HV1 : Hid (∀ u : World, Calls Tryd.prog 24 #[.int .i64 n] u fun e w' => e = .returned (.bool false) ∧ w' = u) := fun u => by rw [← e1]; exact secondsValid_any n u
    clear e1
    go_enter Tryd.func13, Tryd.ntmps13
    go_wp2_with fail
    refine (HV1.out _).mono ?_
    rintro e w1 ⟨rfl, rfl⟩
    go_wp2
    refine bodyPost_ret (v := .tuple #[.agg #[.int .i64 0, .int .i64 0, .int .i64 0, .int .i64 0, .int .i64 0, .int .i64 0, .int .i64 0], .bool false]) (by simp [results, Tryd.results13, go_sem]) rfl (dateRet_none HN.out ?_)
    exact HB.out
end Go.Proofs.YtejplhhlecnagaaDoor
