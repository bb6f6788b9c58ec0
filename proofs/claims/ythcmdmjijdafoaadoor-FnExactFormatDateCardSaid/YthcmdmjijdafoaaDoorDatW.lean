/-
  Dates in the exact laws: copies, comparison; how a date that came in reads. No statement is proved here.
-/
import Derived.Test.YthcmdmjijdafoaaDoorLaw0w
import Derived.Test.YthcmdmjijdafoaaDoorDateQ
import Derived.Lib.SmallJoins
namespace Go.Proofs.YthcmdmjijdafoaaDoor
open Go.ChangeShapes Go.WideShapes Go.ChangeAt Go.RowKit
open Go.ChangeMaps (open_string shut_string)

theorem array7 {α : Type} {cs : Array α} (h : cs.size = 7) : ∃ c0 c1 c2 c3 c4 c5 c6, cs = #[c0, c1, c2, c3, c4, c5, c6] := by
  obtain ⟨l⟩ := cs
  match l, h with
  | [c0, c1, c2, c3, c4, c5, c6], _ => exact ⟨c0, c1, c2, c3, c4, c5, c6, rfl⟩
set_option maxRecDepth 100000 in
theorem open_dat {H : Type} {enc : TypeId × Value → H} {W : World} {r : Reach} {b0 : Nat} {v : Value} {d : DataW H} {p : List MemPlace} (hv : Value.okWide Tryd.prog W r b0 51 v)
    (h : DataW.Trod enc Tryd.prog W 0 (fun _ => true) true 51 v d p) : ∃ D : Dat, v = datV D := by
  obtain ⟨cs, rfl, hsz⟩ := okWide_struct Tryd.underlying51 hv
  have hc7 : Tryd.prog.cellsOf 51 = 7 := by kernel_rfl
  have hc1 : Tryd.prog.cellsOf 3 = 1 := by kernel_rfl
  obtain ⟨c0, c1, c2, c3, c4, c5, c6, rfl⟩ := array7 (hsz.trans hc7)
  obtain ⟨fuel, hf⟩ := h
  obtain ⟨xs, n, _, _, _, hxl, hall⟩ := DataW.trod_struct Tryd.underlying51 hf
  simp only [List.size_toArray, List.length_cons, List.length_nil] at hxl
  have key : ∀ (i : Nat) (x : Value), i < 7 → DataW.trod enc Tryd.prog W 0 (fun _ => true) true n 3 [x] = xs[i]? → ∃ z : Int, x = .int .i64 z := fun i x hi ht => by
    rw [List.getElem?_eq_getElem (by omega)] at ht
    obtain ⟨z, hc, _⟩ := DataW.trod_int Tryd.underlying3 ht
    injection hc with hc _
    exact ⟨z, hc⟩
  obtain ⟨z0, rfl⟩ := key 0 c0 (by omega) (by have := hall 0 _ rfl; simpa [Value.cells, hc1] using this)
  obtain ⟨z1, rfl⟩ := key 1 c1 (by omega) (by have := hall 1 _ rfl; simpa [Value.cells, hc1] using this)
  obtain ⟨z2, rfl⟩ := key 2 c2 (by omega) (by have := hall 2 _ rfl; simpa [Value.cells, hc1] using this)
  obtain ⟨z3, rfl⟩ := key 3 c3 (by omega) (by have := hall 3 _ rfl; simpa [Value.cells, hc1] using this)
  obtain ⟨z4, rfl⟩ := key 4 c4 (by omega) (by have := hall 4 _ rfl; simpa [Value.cells, hc1] using this)
  obtain ⟨z5, rfl⟩ := key 5 c5 (by omega) (by have := hall 5 _ rfl; simpa [Value.cells, hc1] using this)
  obtain ⟨z6, rfl⟩ := key 6 c6 (by omega) (by have := hall 6 _ rfl; simpa [Value.cells, hc1] using this)
  exact ⟨⟨z0, z1, z2, z3, z4, z5, z6⟩, rfl⟩
set_option maxRecDepth 100000 in
set_option maxHeartbeats 1000000 in
theorem toDate_any (D : Dat) (w : World) : Calls Tryd.prog 29 #[datV D] w fun e w' => e = .returned (datV D) ∧ Below w.heap.size w w' := by
  obtain ⟨y, m, d, h, mi, s, z⟩ := D
  unfold datV
  simp only
  have HB := Lib.hid (laid7_below y m d h mi s z 51 w)
  go_enter Tryd.func29, Tryd.ntmps29
  go_wp2
  refine bodyPost_ret (v := .agg #[.int .i64 y, .int .i64 m, .int .i64 d, .int .i64 h, .int .i64 mi, .int .i64 s, .int .i64 z]) (by simp [results, Tryd.results29, go_sem]) rfl ⟨rfl, ?_⟩
  exact (HB.out.alloc (by simp) _).alloc (by simp; omega) _
set_option maxRecDepth 100000 in
set_option maxHeartbeats 1000000 in
theorem eqDate_self (D : Dat) (w : World) : Calls Tryd.prog 31 #[datV D, datV D] w fun e w' => e = .returned (.bool true) ∧ Below w.heap.size w w' := by
  obtain ⟨y, m, d, h, mi, s, z⟩ := D
  unfold datV
  simp only
  have HB := Lib.hid (nx (laid7_below y m d h mi s z 37 w) (laid7_below y m d h mi s z 37 (w.alloc (.cells #[.int .i64 y, .int .i64 m, .int .i64 d, .int .i64 h, .int .i64 mi, .int .i64 s, .int .i64 z] 37))))
  go_enter Tryd.func31, Tryd.ntmps31
  go_wp2
  go_ret
  exact ⟨rfl, HB.out⟩
end Go.Proofs.YthcmdmjijdafoaaDoor
