/-
  FnZoneText: the law's walk. For every input of the law: it returns true, and the input reads as it did. Conditions: none but the statement's own.
-/
import Derived.Test.YthcmdmjijdafoaaDoorLaw0f
import Derived.Test.YthcmdmjijdafoaaDoorDrawE
import Derived.Test.YthcmdmjijdafoaaDoorFmtT
namespace Go.Proofs.YthcmdmjijdafoaaDoor
open Go.ChangeShapes Go.WideShapes Go.ChangeAt Go.RowKit
open Go.ChangeMaps (open_string shut_string)

theorem emp_fz {b : ByteArray} (h : 0 < b.size) : b.toList.isEmpty = false := by
  rw [ByteArray.toList_eq, List.isEmpty_eq_false_iff]
  intro c
  have : b.data.toList.length = b.size := rfl
  rw [c] at this; simp at this; omega
/-- The last five bytes of a date's text are its zone. -/
theorem date_zone {D : Dat} (h : OkDate D) : (str (dateT D)).extract ((str (dateT D)).size - 5) (str (dateT D)).size = str (zoneT D.z) := by
  have hl := date_len h.1
  have hz : (zoneT D.z).length = 5 := rfl
  apply bytes_ext
  rw [Lib.extract_data, str_list, str_list, List.take_of_length_le (by rw [List.length_drop, str_size]; omega), str_size]
  have : dateT D = (wdayT D ++ 44 :: 32 :: (dayT D ++ 32 :: (moN D.mo ++ 32 :: (yearT D ++ 32 :: (clockT D ++ [32]))))) ++ zoneT D.z := by
    unfold dateT restT; simp
  rw [this, List.length_append, hz, Nat.add_sub_cancel, List.drop_left]
/-- The zone's text, byte by byte. -/
theorem zone_bytes (z : Int) (h : -720 ≤ z ∧ z ≤ 840) : ∃ (Z : ByteArray) (p q r t : Int), str (zoneT z) = Z ∧ Z.size = 5 ∧ (∀ h : 0 < Z.size, ((Z[0]'h).toNat : Int) = if z < 0 then 45 else 43) ∧ (∀ h : 1 < Z.size, ((Z[1]'h).toNat : Int) = 48 + p) ∧ (∀ h : 2 < Z.size, ((Z[2]'h).toNat : Int) = 48 + q) ∧
    (∀ h : 3 < Z.size, ((Z[3]'h).toNat : Int) = 48 + r) ∧ (∀ h : 4 < Z.size, ((Z[4]'h).toNat : Int) = 48 + t) ∧ 0 ≤ p ∧ p ≤ 9 ∧ 0 ≤ q ∧ q ≤ 9 ∧ 0 ≤ r ∧ r ≤ 9 ∧ 0 ≤ t ∧ t ≤ 9 ∧ (z < 0 → p * 600 + q * 60 + r * 10 + t = -z) ∧ (¬ z < 0 → p * 600 + q * 60 + r * 10 + t = z) := by
  have e : zoneT z = [if z < 0 then 45 else 43, dgt (z.natAbs / 60 / 10), dgt (z.natAbs / 60 % 10), dgt (z.natAbs % 60 / 10), dgt (z.natAbs % 60 % 10)] := rfl
  refine ⟨str (zoneT z), (z.natAbs / 60 / 10 : Nat), (z.natAbs / 60 % 10 : Nat), (z.natAbs % 60 / 10 : Nat), (z.natAbs % 60 % 10 : Nat), rfl, rfl, ?_, ?_, ?_, ?_, ?_, by omega, by omega, by omega, by omega, by omega, by omega, by omega, by omega, fun _ => by omega, fun _ => by omega⟩
  · intro _
    show (((if z < 0 then 45 else 43 : UInt8).toNat : Nat) : Int) = _
    split <;> rfl
  · intro _
    show ((dgt (z.natAbs / 60 / 10)).toNat : Int) = _
    rw [dgt_nat (by omega)]; rfl
  · intro _
    show ((dgt (z.natAbs / 60 % 10)).toNat : Int) = _
    rw [dgt_nat (by omega)]; rfl
  · intro _
    show ((dgt (z.natAbs % 60 / 10)).toNat : Int) = _
    rw [dgt_nat (by omega)]; rfl
  · intro _
    show ((dgt (z.natAbs % 60 % 10)).toNat : Int) = _
    rw [dgt_nat (by omega)]; rfl
set_option maxRecDepth 100000 in
set_option maxHeartbeats 4000000 in
theorem fnZoneText_walk (a : Option Addr) (n c : Nat) (w : World) (tab : FEnv w) (hc : Code w a n) (hnc : n ≤ c) (hm : c ≤ maxLen) :
    Calls Tryd.prog 4 #[.slice a n c] w fun e w' => e = .returned (.bool true) ∧ Below w.heap.size w w' := by
  have HTAB := Lib.hid tab
  clear tab
  have hm' := hm
  unfold maxLen at hm'
  by_cases hn : 1048576 < n
  · have hd : decide ((1048576 : Int) < n) = true := by simp; omega
    go_enter Tryd.func4, Tryd.ntmps4
    go_wp2
    go_ret
    exact ⟨rfl, Below.refl _ _⟩
  · have hd : decide ((1048576 : Int) < n) = false := by simp; omega
    go_enter Tryd.func4, Tryd.ntmps4
    go_wp2_with fail
    refine (dDrawFormatDate_any a n c w hc hnc hm).mono ?_
    rintro e w1 ⟨D, rfl, _, hb1⟩
    have HB1 := Lib.hid hb1
    have H1 := Lib.hid (fun u t => formatDate_any D u t)
    have H2 := Lib.hid (fun u => formatDateS_any D u)
    by_cases hok : OkDate D
    · rw [dateF_ok hok] at H1 H2
      have HZ := Lib.hid (date_zone hok)
      have hl := date_len hok.1
      have hsz : 30 ≤ (str (dateT D)).size ∧ (str (dateT D)).size ≤ 40 := by rw [str_size]; omega
      have hzb := hok.1.2.2.2.2
      obtain ⟨y, m, d, h, mi, s, z⟩ := D
      unfold datV at *
      simp only at H1 H2 HZ hzb hsz ⊢
      generalize str (dateT ⟨y, m, d, h, mi, s, z⟩) = X at *
      have g0 : X.toList.isEmpty = false := emp_fz (by omega)
      have g1 : (X.toList == X.toList) = true := by simp
      have g2 : (X.toList != X.toList) = false := by simp
      have HLB := Lib.hid (laid7_below y m d h mi s z 37 w1)
      have hx30 : (30 : Int) ≤ (X.size : Int) := by omega
      have hx40 : (X.size : Int) ≤ 40 := by omega
      clear hok hl hb1
      go_wp2_with fail
      have hc7 := laid7_new y m d h mi s z 37 w1
      generalize w1.alloc (.cells #[.int .i64 y, .int .i64 m, .int .i64 d, .int .i64 h, .int .i64 mi, .int .i64 s, .int .i64 z] 37) = w2 at *
      refine (H1.out _ (HTAB.out.below (nx HB1.out HLB.out))).mono ?_
      rintro e w3 ⟨rfl, hb3⟩
      have HC7 := Lib.hid hc7
      generalize hBB : w1.heap.size = BB at *
      obtain ⟨c0, c1, c2, c3, c4, c5, c6⟩ := HC7.out.below hb3
      simp only at c0 c1 c2 c3 c4 c5 c6
      clear hc7
      go_wp2_with fail
      refine (H2.out _).mono ?_
      rintro e w4 ⟨rfl, hb4⟩
      have h24 := nx hb3 hb4
      obtain ⟨d0, d1, d2, d3, d4, d5, d6⟩ := HC7.out.below h24
      clear c0 c1 c2 c3 c4 c5 c6
      go_wp2_with fail
      rw [HZ.out]
      obtain ⟨Z, p, q, r, t, hZ, z5, f0, f1, f2, f3, f4, p0, p9, q0, q9, r0, r9, t0, t9, hneg, hpos⟩ := zone_bytes z hzb
      rw [hZ]
      have x0 := f0 (by omega)
      have x1 := f1 (by omega)
      have x2 := f2 (by omega)
      have x3 := f3 (by omega)
      have x4 := f4 (by omega)
      have HB4 : Hid (Below w.heap.size w w4) := by
        have h9 := HLB.out
        rw [← hBB] at h9
        exact nx HB1.out (nx h9 h24)
      clear f0 f1 f2 f3 f4 hZ HZ HLB HC7
      by_cases hz : z < 0
      · skip
        have hM := hneg hz
        rw [if_pos hz] at x0
        obtain ⟨M, hMz⟩ : ∃ M : Int, -z = M := ⟨_, rfl⟩
        have HE : Hid ((48 + p - 48) * 600 + (48 + q - 48) * 60 + (48 + r - 48) * 10 + (48 + t - 48) = M) := by show _ = _; omega
        have k1 : (M == z) = false := by rw [beq_eq_false_iff_ne]; omega
        clear hneg hpos hM
        refine wp_region_quietB (W := w4) (by kernel_rfl) (by kernel_rfl) (Below.refl _ _) ?_
        repeat (go_big_quiet_step (fail))
        refine wpQuiet_nil ?_
        intro wz hwz
        obtain ⟨x5, rfl⟩ := hwz
        rw [HE.out]
        have hb5 := x5.below
        have hd6 := (below_at hb5 (lt_of_cell d6)).trans d6
        clear d0 d1 d2 d3 d4 d5 d6
        generalize x5.val = w5 at *
        go_wp2_with fail
        have y6 : ∀ y : BelowT w5, y.val.cell? ⟨BB, 6, none⟩ = some (.int .i64 z) := fun y => (below_at y.below (lt_of_cell hd6)).trans hd6
        clear hd6
        refine wp_region_quietB (W := w5) (by kernel_rfl) (by kernel_rfl) (Below.refl _ _) ?_
        repeat (go_big_quiet_step (fail))
        refine wpQuiet_nil ?_
        intro wz hwz
        obtain ⟨x6, rfl⟩ := hwz
        have hb6 := x6.below
        generalize x6.val = w6 at *
        go_wp2
        go_ret
        exact ⟨rfl, nx HB4.out (nx hb5 hb6)⟩
      · skip
        have hM := hpos hz
        rw [if_neg hz] at x0
        obtain ⟨M, hMz⟩ : ∃ M : Int, z = M := ⟨_, rfl⟩
        have HE : Hid ((48 + p - 48) * 600 + (48 + q - 48) * 60 + (48 + r - 48) * 10 + (48 + t - 48) = M) := by show _ = _; omega
        have k1 : decide (z < 0) = false := decide_eq_false hz
        subst hMz
        clear hneg hpos hM
        refine wp_region_quietB (W := w4) (by kernel_rfl) (by kernel_rfl) (Below.refl _ _) ?_
        repeat (go_big_quiet_step (fail))
        refine wpQuiet_nil ?_
        intro wz hwz
        obtain ⟨x5, rfl⟩ := hwz
        rw [HE.out]
        have hb5 := x5.below
        have hd6 := (below_at hb5 (lt_of_cell d6)).trans d6
        clear d0 d1 d2 d3 d4 d5 d6
        generalize x5.val = w5 at *
        go_wp2_with fail
        have y6 : ∀ y : BelowT w5, y.val.cell? ⟨BB, 6, none⟩ = some (.int .i64 z) := fun y => (below_at y.below (lt_of_cell hd6)).trans hd6
        clear hd6
        refine wp_region_quietB (W := w5) (by kernel_rfl) (by kernel_rfl) (Below.refl _ _) ?_
        repeat (go_big_quiet_step (fail))
        refine wpQuiet_nil ?_
        intro wz hwz
        obtain ⟨x6, rfl⟩ := hwz
        have hb6 := x6.below
        generalize x6.val = w6 at *
        go_wp2
        go_ret
        exact ⟨rfl, nx HB4.out (nx hb5 hb6)⟩
    · rw [dateF_no hok] at H1 H2
      obtain ⟨y, m, d, h, mi, s, z⟩ := D
      unfold datV at *
      simp only at H1 H2 ⊢
      have HLB := Lib.hid (laid7_below y m d h mi s z 37 w1)
      have e0 : str [] = ⟨#[]⟩ := rfl
      rw [e0] at H1 H2
      clear hok hb1
      go_wp2_with fail
      have hc7 := laid7_new y m d h mi s z 37 w1
      generalize w1.alloc (.cells #[.int .i64 y, .int .i64 m, .int .i64 d, .int .i64 h, .int .i64 mi, .int .i64 s, .int .i64 z] 37) = w2 at *
      refine (H1.out _ (HTAB.out.below (nx HB1.out HLB.out))).mono ?_
      rintro e w3 ⟨rfl, hb3⟩
      have HC7 := Lib.hid hc7
      generalize hBB : w1.heap.size = BB at *
      obtain ⟨c0, c1, c2, c3, c4, c5, c6⟩ := HC7.out.below hb3
      simp only at c0 c1 c2 c3 c4 c5 c6
      clear hc7
      go_wp2_with fail
      refine (H2.out _).mono ?_
      rintro e w4 ⟨rfl, hb4⟩
      have h24 := nx hb3 hb4
      obtain ⟨d0, d1, d2, d3, d4, d5, d6⟩ := HC7.out.below h24
      simp only at d0 d1 d2 d3 d4 d5 d6
      clear c0 c1 c2 c3 c4 c5 c6
      have HB4 : Hid (Below w.heap.size w w4) := by
        have h9 := HLB.out
        rw [← hBB] at h9
        exact nx HB1.out (nx h9 h24)
      go_wp2_with fail
      refine (H2.out _).mono ?_
      rintro e w5 ⟨rfl, hb5⟩
      go_wp2
      go_ret
      exact ⟨rfl, nx HB4.out hb5⟩
end Go.Proofs.YthcmdmjijdafoaaDoor
