/-
  Dates: what the drawing functions draw. No statement is proved here.
-/
import Derived.Test.YthcmdmjijdafoaaDoorDrawD
namespace Go.Proofs.YthcmdmjijdafoaaDoor
open Go.RowKit

/-- A date is drawn; nothing that was there turns. -/
def DrawnDat (w : World) (e : Ending) (w' : World) : Prop := ∃ D : Dat, e = .returned (datV D) ∧ SmallD D ∧ Below w.heap.size w w'
theorem drawnDat_mk {w w' : World} {y m d h mi s z : Int} (hs : SmallD ⟨y, m, d, h, mi, s, z⟩) (hb : Below w.heap.size w w') : DrawnDat w (.returned (.agg #[.int .i64 y, .int .i64 m, .int .i64 d, .int .i64 h, .int .i64 mi, .int .i64 s, .int .i64 z])) w' := ⟨⟨y, m, d, h, mi, s, z⟩, rfl, hs, hb⟩
/-- Two numbers are drawn. -/
def DrawnII (w : World) (e : Ending) (w' : World) : Prop := ∃ n z : Int, e = .returned (.tuple #[.int .i64 n, .int .i64 z]) ∧ (-1 ≤ n ∧ n ≤ 4102444800) ∧ (-1000000 ≤ z ∧ z ≤ 1000000) ∧ Below w.heap.size w w'
/-- A date and a number. -/
def DrawnDI (w : World) (e : Ending) (w' : World) : Prop := ∃ (D : Dat) (z : Int), e = .returned (.tuple #[datV D, .int .i64 z]) ∧ SmallD D ∧ (-1000000 ≤ z ∧ z ≤ 1000000) ∧ Below w.heap.size w w'
theorem drawnDI_mk {w w' : World} {y m d h mi s z n : Int} (hs : SmallD ⟨y, m, d, h, mi, s, z⟩) (hn : -1000000 ≤ n ∧ n ≤ 1000000) (hb : Below w.heap.size w w') : DrawnDI w (.returned (.tuple #[.agg #[.int .i64 y, .int .i64 m, .int .i64 d, .int .i64 h, .int .i64 mi, .int .i64 s, .int .i64 z], .int .i64 n])) w' := ⟨⟨y, m, d, h, mi, s, z⟩, n, rfl, hs, hn, hb⟩
set_option maxRecDepth 100000 in
set_option maxHeartbeats 1000000 in
theorem drawDateValid_any (a : Option Addr) (n c : Nat) (w : World) (hc : Code w a n) (hnc : n ≤ c) (hm : c ≤ maxLen) :
    Calls Tryd.prog 45 #[.slice a n c] w (DrawnDat w) := by
  have hb0 := laid7_below 0 0 0 0 0 0 0 37 w
  go_enter Tryd.func45, Tryd.ntmps45
  go_wp2_with fail
  refine (open_any a n c _ (hc.below hb0) hnc hm).mono ?_
  rintro e w1 ⟨R, rfl, hR, hr1, hb1⟩
  go_wp2_with fail
  refine (l4Draw_any R 0 w1 hr1 (by omega)).mono ?_
  rintro e w2 ⟨x2, p2, rfl, g2, f2, k2, hr2, ht2⟩
  go_wp2_with fail
  refine (l4Wrong_dat R p2 x2 w2 hr2 (by omega) g2).mono ?_
  rintro e w3 ⟨x3, p3, rfl, g3, f3, k3, hr3, ht3⟩
  go_wp2_with fail
  refine (l4Wrong_dat R p3 x3 w3 hr3 (by omega) g3).mono ?_
  rintro e w4 ⟨x4, p4, rfl, g4, f4, k4, hr4, ht4⟩
  have hb14 := below_of_open hb1 hR (ht2.trans (ht3.trans ht4))
  obtain ⟨e0, e1, e2, e3, e4, e5, e6⟩ := x4
  unfold datV
  simp only
  obtain ⟨hc4, hf4⟩ := bcell hb14
  have HB := Lib.hid (nx hb0 hb14)
  have HG := Lib.hid g4
  have hsz := hb14.size
  simp at hsz
  have hlt : w.heap.size < w4.heap.size := by omega
  go_wp2
  refine bodyPost_ret (v := .agg #[.int .i64 e0, .int .i64 e1, .int .i64 e2, .int .i64 e3, .int .i64 e4, .int .i64 e5, .int .i64 e6]) (by simp [results, Tryd.results45, go_sem, hc4]) rfl (drawnDat_mk HG.out ?_)
  iterate 7 refine Below.setCell ?_ (by simp) _
  exact HB.out
set_option maxRecDepth 100000 in
set_option maxHeartbeats 400000 in
theorem dDrawFormatDate_any (a : Option Addr) (n c : Nat) (w : World) (hc : Code w a n) (hnc : n ≤ c) (hm : c ≤ maxLen) :
    Calls Tryd.prog 16 #[.slice a n c] w (DrawnDat w) := by
  have hb0 := laid7_below 0 0 0 0 0 0 0 37 w
  go_enter Tryd.func16, Tryd.ntmps16
  go_wp2_with fail
  refine (drawDateValid_any a n c _ (hc.below hb0) hnc hm).mono ?_
  rintro e w4 ⟨x4, rfl, g4, hb14⟩
  obtain ⟨e0, e1, e2, e3, e4, e5, e6⟩ := x4
  unfold datV
  simp only
  obtain ⟨hc4, hf4⟩ := bcell hb14
  have HB := Lib.hid (nx hb0 hb14)
  have HG := Lib.hid g4
  have hsz := hb14.size
  simp at hsz
  have hlt : w.heap.size < w4.heap.size := by omega
  go_wp2
  refine bodyPost_ret (v := .agg #[.int .i64 e0, .int .i64 e1, .int .i64 e2, .int .i64 e3, .int .i64 e4, .int .i64 e5, .int .i64 e6]) (by simp [results, Tryd.results16, go_sem, hc4]) rfl (drawnDat_mk HG.out ?_)
  iterate 7 refine Below.setCell ?_ (by simp) _
  exact HB.out
end Go.Proofs.YthcmdmjijdafoaaDoor
