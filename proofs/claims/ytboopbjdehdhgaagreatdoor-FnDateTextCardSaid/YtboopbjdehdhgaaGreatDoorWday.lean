/-
  The day of the week of a date: what the program's function and the model's return. No statement is proved here.
-/
import Derived.Test.YtboopbjdehdhgaaGreatDoorDateQ
import Derived.Test.YtboopbjdehdhgaaGreatDoorDateW
import Derived.Test.YtboopbjdehdhgaaGreatDoorQuietB
namespace Go.Proofs.YtboopbjdehdhgaaGreatDoor
open Go.RowKit

/-- The table of the names of days. -/
def WTab (w : World) : Prop := ∀ j, j < 7 → w.cell? ⟨1, j, none⟩ = some (.string (str (wdL.getD j [])))
theorem WTab.lt {w : World} (h : WTab w) : 1 < w.heap.size := lt_of_cell (h 0 (by omega))
theorem WTab.below {w w' : World} (h : WTab w) (b : Below w.heap.size w w') : WTab w' := fun j hj => by rw [below_at b h.lt]; exact h j hj
set_option maxRecDepth 100000 in
set_option maxHeartbeats 1000000 in
theorem weekdayOf_any (D : Dat) (w : World) (tab : WTab w) : Calls Tryz.prog 15 #[datV D] w fun e w' => e = .returned (.string (str (wdayF D))) ∧ Below w.heap.size w w' := by
  by_cases ho : OkDate D
  · have H1 : Hid (∀ u : World, Calls Tryz.prog 7 #[datV D] u fun e w' => e = .returned (.bool true) ∧ Below u.heap.size u w') := fun u => by rw [← okDB_ok ho]; exact dateValid_any D u
    have H2 : Hid (∀ u : World, Calls Tryz.prog 45 #[datV D] u fun e w' => e = .returned (.int .i64 (daysB D.y D.mo D.d)) ∧ Below u.heap.size u w') := fun u => daysBefore_any _ _ _ _ _ _ _ u ho.1.1
    have hn0 := daysB_nn ho.1.1
    have hn1 := daysB_lt ho.1.1
    rw [wdayF_ok ho]
    unfold wdayT
    generalize daysB D.y D.mo D.d = N at *
    clear ho
    obtain ⟨y, m, d, h, mi, s, z⟩ := D
    unfold datV at *
    simp only at H1 H2
    obtain ⟨J, hJ⟩ := Int.eq_ofNat_of_zero_le (show 0 ≤ N % 7 by omega)
    have hJ7 : J < 7 := by omega
    have HR : Hid (str (wdN N) = str (wdL.getD J [])) := by show _ = _; unfold wdN; rw [hJ]; rfl
    rw [HR.out]
    have HT := Lib.hid tab
    have HB := Lib.hid (laid7_below y m d h mi s z 24 w)
    clear tab
    go_enter Tryz.func15, Tryz.ntmps15
    go_wp2_with fail
    have hc := laid7_new y m d h mi s z 24 w
    generalize w.alloc (.cells #[.int .i64 y, .int .i64 m, .int .i64 d, .int .i64 h, .int .i64 mi, .int .i64 s, .int .i64 z] 24) = w1 at *
    refine (H1.out _).mono ?_
    rintro e w2 ⟨rfl, hb2⟩
    obtain ⟨c0, c1, c2, c3, c4, c5, c6⟩ := hc.below hb2
    simp only at c0 c1 c2 c3 c4 c5 c6
    clear hc
    go_wp2_with fail
    refine (H2.out _).mono ?_
    rintro e w3 ⟨rfl, hb3⟩
    have hb13 := nx HB.out (nx hb2 hb3)
    have ht := (HT.out.below hb13) J hJ7
    generalize hX : str (wdL.getD J []) = X at *
    have HX := Lib.hid hX
    clear hX
    go_wp2
    go_ret
    exact ⟨ret_str HX.out.symm, hb13⟩
  · have H1 : Hid (∀ u : World, Calls Tryz.prog 7 #[datV D] u fun e w' => e = .returned (.bool false) ∧ Below u.heap.size u w') := fun u => by rw [← okDB_no ho]; exact dateValid_any D u
    rw [wdayF_no ho]
    clear ho
    obtain ⟨y, m, d, h, mi, s, z⟩ := D
    unfold datV at *
    simp only at H1
    have HB := Lib.hid (laid7_below y m d h mi s z 24 w)
    go_enter Tryz.func15, Tryz.ntmps15
    go_wp2_with fail
    refine (H1.out _).mono ?_
    rintro e w2 ⟨rfl, hb2⟩
    go_wp2
    go_ret
    exact ⟨rfl, nx HB.out hb2⟩
theorem wd_cells (w : World) (t : TypeId) (J : Nat) (hJ : J < 7) : (w.alloc (.cells #[.string ⟨#[84, 104, 117]⟩, .string ⟨#[70, 114, 105]⟩, .string ⟨#[83, 97, 116]⟩, .string ⟨#[83, 117, 110]⟩, .string ⟨#[77, 111, 110]⟩, .string ⟨#[84, 117, 101]⟩, .string ⟨#[87, 101, 100]⟩] t)).cell? ⟨w.heap.size, J, none⟩ = some (.string (str (wdL.getD J []))) := by
  rw [World.cell?_alloc_at _ _ _ _ rfl]
  rcases (by omega : J = 0 ∨ J = 1 ∨ J = 2 ∨ J = 3 ∨ J = 4 ∨ J = 5 ∨ J = 6) with rfl | rfl | rfl | rfl | rfl | rfl | rfl <;> rfl
set_option maxRecDepth 100000 in
set_option maxHeartbeats 1000000 in
theorem weekdayOfS_any (D : Dat) (w : World) : Calls Tryz.prog 17 #[datV D] w fun e w' => e = .returned (.string (str (wdayF D))) ∧ Below w.heap.size w w' := by
  by_cases ho : OkDate D
  · have H1 : Hid (∀ u : World, Calls Tryz.prog 8 #[datV D] u fun e w' => e = .returned (.bool true) ∧ Below u.heap.size u w') := fun u => by rw [← okDB_ok ho]; exact dateValidS_any D u
    have H2 : Hid (∀ u : World, Calls Tryz.prog 23 #[datV D] u fun e w' => e = .returned (.int .i64 (secs D)) ∧ Below u.heap.size u w') := fun u => l4Seconds_any D u ho.1
    have hcl := clock_nn ho.1
    have hcd := clock_day ho.1
    have hsc : secs D + D.z * 60 = clockS D := by unfold secs; omega
    have hz := ho.1.2.2.2.2
    have hs := ho.2
    rw [wdayF_ok ho]
    unfold wdayT
    rw [← hcd]
    generalize clockS D = C at *
    generalize secs D = S at *
    clear ho hcd
    obtain ⟨y, m, d, h, mi, s, z⟩ := D
    unfold datV at *
    simp only at H1 H2 hz hsc
    obtain ⟨J, hJ⟩ := Int.eq_ofNat_of_zero_le (show 0 ≤ C / 86400 % 7 by omega)
    have hJ7 : J < 7 := by omega
    have HR : Hid (str (wdN (C / 86400)) = str (wdL.getD J [])) := by show _ = _; unfold wdN; rw [hJ]; rfl
    rw [HR.out]
    have HB := Lib.hid (laid7_below y m d h mi s z 24 w)
    go_enter Tryz.func17, Tryz.ntmps17
    go_wp2_with fail
    have hc := laid7_new y m d h mi s z 24 w
    generalize w.alloc (.cells #[.int .i64 y, .int .i64 m, .int .i64 d, .int .i64 h, .int .i64 mi, .int .i64 s, .int .i64 z] 24) = w1 at *
    refine (H1.out _).mono ?_
    rintro e w2 ⟨rfl, hb2⟩
    have hc2 := hc.below hb2
    clear hc
    go_wp2_with fail
    have hba : Below w2.heap.size w2 (w2.alloc (.cells #[.string ⟨#[84, 104, 117]⟩, .string ⟨#[70, 114, 105]⟩, .string ⟨#[83, 97, 116]⟩, .string ⟨#[83, 117, 110]⟩, .string ⟨#[77, 111, 110]⟩, .string ⟨#[84, 117, 101]⟩, .string ⟨#[87, 101, 100]⟩] 9)) := (Below.refl _ _).alloc (Nat.le_refl _) _
    have hw := wd_cells w2 9 J hJ7
    have hc3 := hc2.below hba
    have HB3 := Lib.hid (nx HB.out (nx hb2 hba))
    generalize hW : w2.alloc (.cells #[.string ⟨#[84, 104, 117]⟩, .string ⟨#[70, 114, 105]⟩, .string ⟨#[83, 97, 116]⟩, .string ⟨#[83, 117, 110]⟩, .string ⟨#[77, 111, 110]⟩, .string ⟨#[84, 117, 101]⟩, .string ⟨#[87, 101, 100]⟩] 9) = w3 at *
    generalize hBN : w2.heap.size = BN at *
    generalize hBB : w.heap.size = BB at *
    generalize hX : str (wdL.getD J []) = X at *
    have HX := Lib.hid hX
    clear hX
    have hlw := lt_of_cell hw
    have c0 : ∀ x : BelowT w3, x.val.cell? ⟨BB, 0, none⟩ = some (.int .i64 y) := fun x => (hc3.below x.below).1
    have c1 : ∀ x : BelowT w3, x.val.cell? ⟨BB, 1, none⟩ = some (.int .i64 m) := fun x => (hc3.below x.below).2.1
    have c2 : ∀ x : BelowT w3, x.val.cell? ⟨BB, 2, none⟩ = some (.int .i64 d) := fun x => (hc3.below x.below).2.2.1
    have c3 : ∀ x : BelowT w3, x.val.cell? ⟨BB, 3, none⟩ = some (.int .i64 h) := fun x => (hc3.below x.below).2.2.2.1
    have c4 : ∀ x : BelowT w3, x.val.cell? ⟨BB, 4, none⟩ = some (.int .i64 mi) := fun x => (hc3.below x.below).2.2.2.2.1
    have c5 : ∀ x : BelowT w3, x.val.cell? ⟨BB, 5, none⟩ = some (.int .i64 s) := fun x => (hc3.below x.below).2.2.2.2.2.1
    have c6 : ∀ x : BelowT w3, x.val.cell? ⟨BB, 6, none⟩ = some (.int .i64 z) := fun x => (hc3.below x.below).2.2.2.2.2.2
    have cw : ∀ x : BelowT w3, x.val.cell? ⟨BN, J, none⟩ = some (.string X) := fun x => by rw [below_at x.below hlw]; exact hw
    have q1 : IntKind.i64.wrap (z * 60) = z * 60 := IntWalk.i64_in _ (by omega)
    have q2 : IntKind.i64.wrap (S + z * 60) = C := by rw [hsc]; exact IntWalk.i64_in _ (by omega)
    have hC0 : 0 ≤ C := hcl.1
    have q5 : (0 : Int) ≤ (J : Int) := by omega
    have q6 : (J : Int) < 7 := by omega
    clear hc2 hc3 hw
    refine wp_region_quietB (W := w3) (by kernel_rfl) (by kernel_rfl) (Below.refl _ _) ?_
    repeat (go_big_quiet_step (first | (go_at_call 23; exact calls_belowT (H2.out _))))
    refine wpQuiet_nil ?_
    intro wz hwz
    obtain ⟨x, rfl⟩ := hwz
    have hbx := x.below
    generalize x.val = w9 at *
    clear q1 q2
    go_wp2
    go_ret
    exact ⟨ret_str HX.out.symm, by have h9 := HB3.out; rw [← hBB] at h9; exact nx h9 hbx⟩
  · have H1 : Hid (∀ u : World, Calls Tryz.prog 8 #[datV D] u fun e w' => e = .returned (.bool false) ∧ Below u.heap.size u w') := fun u => by rw [← okDB_no ho]; exact dateValidS_any D u
    rw [wdayF_no ho]
    clear ho
    obtain ⟨y, m, d, h, mi, s, z⟩ := D
    unfold datV at *
    simp only at H1
    have HB := Lib.hid (laid7_below y m d h mi s z 24 w)
    go_enter Tryz.func17, Tryz.ntmps17
    go_wp2_with fail
    refine (H1.out _).mono ?_
    rintro e w2 ⟨rfl, hb2⟩
    go_wp2
    go_ret
    exact ⟨rfl, nx HB.out hb2⟩
end Go.Proofs.YtboopbjdehdhgaaGreatDoor
