/-
  The exact laws of chapter 4 on dates written: each law's walk. For every input of the law: it returns true, and the input reads as it did. Conditions: none but the statement's own.
-/
import Derived.Test.YthcmdmjijdafoaaDoorDatW
import Derived.Test.YthcmdmjijdafoaaDoorFmtT
import Derived.Test.YthcmdmjijdafoaaDoorLaw0f
namespace Go.Proofs.YthcmdmjijdafoaaDoor
open Go.ChangeShapes Go.WideShapes Go.ChangeAt Go.RowKit
open Go.ChangeMaps (open_string shut_string)

set_option maxRecDepth 100000 in
set_option maxHeartbeats 1000000 in
theorem fnExactFormatDate_walk (D : Dat) (w : World) (tab : FEnv w) : Calls Tryd.prog 7 #[datV D] w fun e w' => e = .returned (.bool true) ∧ Below w.heap.size w w' := by
  have HTAB := Lib.hid tab
  have H0 := Lib.hid (fun u => toDate_any D u)
  have H1 := Lib.hid (fun u => formatDateS_any D u)
  have H2 := Lib.hid (fun u t => formatDate_any D u t)
  clear tab
  generalize dateF D = X at *
  have g1 : ((str X).toList == (str X).toList) = true := by simp
  have g2 : ((str X).toList != (str X).toList) = false := by simp
  obtain ⟨y, m, d, h, mi, s, z⟩ := D
  unfold datV at *
  simp only at H0 H1 H2
  have HB := Lib.hid (laid7_below y m d h mi s z 51 w)
  go_enter Tryd.func7, Tryd.ntmps7
  go_wp2_with fail
  have hc := laid7_new y m d h mi s z 51 w
  generalize w.alloc (.cells #[.int .i64 y, .int .i64 m, .int .i64 d, .int .i64 h, .int .i64 mi, .int .i64 s, .int .i64 z] 51) = w0 at *
  refine (H0.out _).mono ?_
  rintro e w1 ⟨rfl, hb1⟩
  go_wp2_with fail
  refine (H1.out _).mono ?_
  rintro e w2 ⟨rfl, hb2⟩
  have hb12 := nx hb1 hb2
  obtain ⟨c0, c1, c2, c3, c4, c5, c6⟩ := hc.below hb12
  simp only at c0 c1 c2 c3 c4 c5 c6
  clear hc
  go_wp2_with fail
  refine (H0.out _).mono ?_
  rintro e w3 ⟨rfl, hb3⟩
  have hb03 := nx HB.out (nx hb12 hb3)
  go_wp2_with fail
  refine (H2.out _ (HTAB.out.below hb03)).mono ?_
  rintro e w4 ⟨rfl, hb4⟩
  go_wp2
  go_ret
  exact ⟨rfl, nx hb03 hb4⟩
end Go.Proofs.YthcmdmjijdafoaaDoor
