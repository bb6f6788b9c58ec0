/-
  What the frames of the laws' proofs share where dates are read: the tables that the rows list. No statement is proved here.
-/
import Derived.Test.YthcmdmjijdafoaaDoorLaw0f
import Derived.Test.YthcmdmjijdafoaaDoorRdP
import Derived.Deep.DeepWitnessRowRef
namespace Go.Proofs.YthcmdmjijdafoaaDoor
open Go.ChangeShapes Go.WideShapes Go.ChangeAt Go.RowKit
open Go.ChangeMaps (open_string shut_string)

theorem mx_of_shapedG {W : World} (h : W.ShapedOpen Tryd.prog) : ∃ m, W.cell? ⟨4, 0, none⟩ = some (.int .i64 m) :=
  cell_of_shapedOpen_int (zero := #[.int .i64 0]) (t := 3) h (of_decide_eq_true (by kernel_rfl)) (by kernel_rfl) rfl (by kernel_rfl) (by kernel_rfl) Tryd.underlying3
theorem spGType : (Tryd.prog.globals[2]?).map (·.type) = some 93 := by kernel_rfl
theorem sp_datum : (Rows.laid_strings_asciiSpace : DataW Unit) = Lib.tabData .u8 Lib.asciiSpaceTab := by kernel_rfl
/-- From the rows' condition: the tables' cells. -/
theorem gtab_of_laid {W : World} (h : laidMet Tryd.prog [("math/bits.deBruijn32tab", Rows.laid_math_bits_deBruijn32tab), ("math/bits.deBruijn64tab", Rows.laid_math_bits_deBruijn64tab), ("internal/strconv.uint64pow10", Rows.laid_internal_strconv_uint64pow10), ("unicode/utf8.acceptRanges", Rows.laid_unicode_utf8_acceptRanges), ("unicode.White_Space", Rows.laid_unicode_White_Space), ("strings.asciiSpace", Rows.laid_strings_asciiSpace), ("loop.example/mailwire/impl.monthNames", Rows.laid_loop_example_mailwire_impl_monthNames), ("loop.example/mailwire/impl.weekdayNames", Rows.laid_loop_example_mailwire_impl_weekdayNames), ("unicode/utf8.first", Rows.laid_unicode_utf8_first)] W) (hsh : W.ShapedOpen Tryd.prog) :
    (W.var? Tryd.prog "loop.example/mailwire/impl.monthNames" = some mVals.toArray ∧ W.var? Tryd.prog "loop.example/mailwire/impl.weekdayNames" = some wVals.toArray) ∧ (FEnv W ∧ PEnv W) := by
  obtain ⟨ps, ⟨_, _, _, _, _, _, _, _, _, _, ⟨_, _, _, _, _, _, _, _, _, _, ⟨g2, t2, cs2, f2, p2, q2, hg2, ht2, hv2, hd2, ⟨_, _, _, _, _, _, _, _, _, _, ⟨_, _, _, _, _, _, _, _, _, _, ⟨g5, t5, cs5, f5, p5, q5, hg5, ht5, hv5, hd5, ⟨g6, t6, cs6, f6, p6, q6, hg6, ht6, hv6, hd6, ⟨g7, t7, cs7, f7, p7, q7, hg7, ht7, hv7, hd7, ⟨_, _, _, _, _, _, _, _, _, _, _, _⟩, _⟩, _⟩, _⟩, _⟩, _⟩, _⟩, _⟩, _⟩, _⟩ := h
  obtain rfl := Option.some.inj (powG.symm.trans hg2)
  obtain rfl := Option.some.inj (powGType.symm.trans ht2)
  obtain rfl := Option.some.inj (spG.symm.trans hg5)
  obtain rfl := Option.some.inj (spGType.symm.trans ht5)
  obtain rfl := Option.some.inj (mG.symm.trans hg6)
  obtain rfl := Option.some.inj (mGType.symm.trans ht6)
  obtain rfl := Option.some.inj (wG.symm.trans hg7)
  obtain rfl := Option.some.inj (wGType.symm.trans ht7)
  rw [pow_datum] at hd2
  have hp := Lib.cells_of_tab Tryd.underlying145 Tryd.underlying124 (by kernel_rfl) (by kernel_rfl) hd2
  rw [sp_datum] at hd5
  have hp5 := Lib.cells_of_tab Tryd.underlying93 Tryd.underlying5 (by kernel_rfl) (by kernel_rfl) hd5
  obtain ⟨ss, hl, hc, hx⟩ := mtab_inv hd6
  have hss := mtab_list hl (congrArg Prod.fst hx).symm
  have hvm : W.var? Tryd.prog "loop.example/mailwire/impl.monthNames" = some mVals.toArray := by
    have e : cs6.toList = mVals := by rw [hc, hss, mVals_strs]
    rw [hv6, ← e]
  obtain ⟨ss5, hl5, hc5, hx5⟩ := wtab_inv hd7
  have hss5 := wtab_list hl5 (congrArg Prod.fst hx5).symm
  have hvw : W.var? Tryd.prog "loop.example/mailwire/impl.weekdayNames" = some wVals.toArray := by
    have e : cs7.toList = wVals := by rw [hc5, hss5, wVals_strs]
    rw [hv7, ← e]
  have hW : WTab W := fun j hj => by
    have := World.var?_cell wG hvw j
    rw [this]
    unfold wVals
    rw [List.getElem?_toArray, List.getElem?_map, List.getD_eq_getElem?_getD, List.getElem?_eq_getElem (show j < wdL.length from hj)]
    rfl
  have hM : MTab W := fun j hj => by
    have := World.var?_cell mG hvm j
    rw [this]
    unfold mVals
    rw [List.getElem?_toArray, List.getElem?_map, List.getD_eq_getElem?_getD, List.getElem?_eq_getElem (show j < moL.length from hj)]
    rfl
  have hP : PowT W := by
    show W.var? Tryd.prog "internal/strconv.uint64pow10" = _
    rw [hv2, ← hp]
  have hS : SpT W := by
    show W.var? Tryd.prog "strings.asciiSpace" = _
    rw [hv5, ← hp5]
  exact ⟨⟨hvm, hvw⟩, ⟨hW, hM, hP⟩, ⟨hW, hM, mx_of_shapedG hsh, hS⟩⟩
theorem gtab_again {H : Type} {enc : TypeId × Value → H} {W W' : World} {gs : List (DataW H)} {ps : List MemPlace} (h : DataW.TrodVars enc Tryd.prog W (fun _ => true) ["loop.example/mailwire/impl.monthNames", "loop.example/mailwire/impl.weekdayNames"] gs ps)
    (hv : W.var? Tryd.prog "loop.example/mailwire/impl.monthNames" = some mVals.toArray ∧ W.var? Tryd.prog "loop.example/mailwire/impl.weekdayNames" = some wVals.toArray) (hb : Below W.heap.size W W') (ht : FEnv W ∧ PEnv W) :
    ∃ d : DataW H × DataW H, gs = [d.1, d.2] ∧ ∀ sp, DataW.TrodVars enc Tryd.prog W' sp ["loop.example/mailwire/impl.monthNames", "loop.example/mailwire/impl.weekdayNames"] [d.1, d.2] (MemPlace.row ⟨0, 0, none⟩ mVals.toArray.size ++ [] ++ (MemPlace.row ⟨1, 0, none⟩ wVals.toArray.size ++ [])) := ftab_again h hv hb ht.1
def accLg : List Nat := [128, 191, 160, 191, 128, 159, 144, 191, 128, 143, 0, 0, 0, 0, 0, 0, 0, 0, 0, 0, 0, 0, 0, 0, 0, 0, 0, 0, 0, 0, 0, 0]
def rangesG : List Nat := [9, 13, 1, 32, 133, 101, 160, 5760, 5600, 8192, 8202, 1, 8232, 8233, 1, 8239, 8287, 48, 12288, 12288, 1]
def pushed (h : Array Obj) : Array Obj :=
  ((layAt h 3 #[.pointer (some ⟨h.size + 1, 0, none⟩)]).push (.cells (rangesG.map fun (n : Nat) => Value.int .u16 n).toArray 138)).push (.cells #[.slice (some ⟨h.size, 0, none⟩) 7 7, .slice none 0 0, .int .i64 2] 135)
/-- A world for the witness: the one for dates that are written, and besides the tables of the library's that reading lists. -/
noncomputable def laidWorldG (os : Os) : World :=
  { laidWorldF os with heap := layAt (layAt (layAt (pushed (laidWorldF os).heap) 2 (litVals Rows.laid_strings_asciiSpace).toArray) 6 (Go.Pinned.utf8FirstZ.map fun (n : Nat) => Value.int .u8 n).toArray) 7 (accLg.map fun (n : Nat) => Value.int .u8 n).toArray }
set_option maxRecDepth 100000 in
theorem metG (os : Os) (args : Array Value) : laidMet Tryd.prog [("math/bits.deBruijn32tab", Rows.laid_math_bits_deBruijn32tab), ("math/bits.deBruijn64tab", Rows.laid_math_bits_deBruijn64tab), ("internal/strconv.uint64pow10", Rows.laid_internal_strconv_uint64pow10), ("unicode/utf8.acceptRanges", Rows.laid_unicode_utf8_acceptRanges), ("unicode.White_Space", Rows.laid_unicode_White_Space), ("strings.asciiSpace", Rows.laid_strings_asciiSpace), ("loop.example/mailwire/impl.monthNames", Rows.laid_loop_example_mailwire_impl_monthNames), ("loop.example/mailwire/impl.weekdayNames", Rows.laid_loop_example_mailwire_impl_weekdayNames), ("unicode/utf8.first", Rows.laid_unicode_utf8_first)] ((laidWorldG os).forCall (fun _ _ => 0) ⟨#[], args, []⟩).memory :=
  laidMet_of_run3 8 (by kernel_rfl) (by kernel_rfl) (by kernel_rfl)
end Go.Proofs.YthcmdmjijdafoaaDoor
