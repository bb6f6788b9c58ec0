/-
  What the frames of the laws' proofs share where dates are written as texts: the tables that the rows list. No statement is proved here.
-/
import Derived.Test.YtboopbjdehdhgaaGreatDoorLaw0w
import Derived.Test.YtboopbjdehdhgaaGreatDoorFmt
namespace Go.Proofs.YtboopbjdehdhgaaGreatDoor
open Go.ChangeShapes Go.WideShapes Go.ChangeAt Go.RowKit
open Go.ChangeMaps (open_string shut_string)

theorem mG : Tryz.prog.globalNamed "loop.example/mailwire/impl.monthNames" = some 0 := by kernel_rfl
theorem mGType : (Tryz.prog.globals[0]?).map (·.type) = some 33 := by kernel_rfl
theorem mCellsT : Tryz.prog.cellsOf 33 = 12 := by kernel_rfl
def mVals : List Value := moL.map fun l => .string (str l)
def mStrs : List ByteArray := moL.map str
theorem mtab_inv {H : Type} {enc : TypeId × Value → H} {w : World} {base fuel : Nat} {sp : Nat → Bool} {held : Bool} {cs : List Value} {x : DataW H × List MemPlace}
    (h : DataW.trod enc Tryz.prog w base sp held fuel 33 cs = some x) : ∃ ss : List ByteArray, ss.length = 12 ∧ cs = ss.map Value.string ∧ x = (wDatum ss, []) := by
  obtain ⟨xs, m, _, rfl, hl, hn, hf⟩ := DataW.trod_array Tryz.underlying33 h
  rw [mCellsT] at hl
  have key : ∀ i, i < 12 → ∃ s : ByteArray, cs[i]? = some (.string s) ∧ xs[i]? = some (.lit (.string s.data.toList), []) := by
    intro i hi
    have h1 := hf i hi
    rw [List.getElem?_eq_getElem (by omega)] at h1
    obtain ⟨s, hc, hx, _⟩ := DataW.trod_string Tryz.underlying9 h1
    refine ⟨s, ?_, ?_⟩
    · have := congrArg (·[0]?) hc
      simp only [wCellsE] at this
      simpa [List.getElem?_take, List.getElem?_drop] using this
    · rw [List.getElem?_eq_getElem (by omega), hx]
  refine ⟨cs.map strOf, by simpa using hl, ?_, ?_⟩
  · apply List.ext_getElem?
    intro i
    by_cases hi : i < 12
    · obtain ⟨s, hc, _⟩ := key i hi
      simp [hc, strOf]
    · rw [List.getElem?_eq_none (by omega), List.getElem?_eq_none (by simp; omega)]
  · have hxs : xs = cs.map fun v => ((.lit (.string (strOf v).data.toList), []) : DataW H × List MemPlace) := by
      apply List.ext_getElem?
      intro i
      by_cases hi : i < 12
      · obtain ⟨s, hc, hx⟩ := key i hi
        rw [hx]; simp [hc, strOf]
      · rw [List.getElem?_eq_none (by omega), List.getElem?_eq_none (by simp; omega)]
    rw [hxs]
    unfold wDatum
    simp [List.map_map, Function.comp_def]
theorem mtab_list {ss : List ByteArray} (hl : ss.length = 12) (hd : (wDatum ss : DataW Unit) = Rows.laid_loop_example_mailwire_impl_monthNames) : ss = mStrs := by
  match ss, hl with
  | [s0, s1, s2, s3, s4, s5, s6, s7, s8, s9, s10, s11], _ =>
    unfold wDatum Rows.laid_loop_example_mailwire_impl_monthNames at hd
    simp only [List.map_cons, List.map_nil, DataW.agg.injEq, List.cons.injEq, DataW.lit.injEq, Lit.string.injEq, and_true] at hd
    obtain ⟨h0, h1, h2, h3, h4, h5, h6, h7, h8, h9, h10, h11⟩ := hd
    unfold mStrs moL
    simp only [List.map_cons, List.map_nil]
    rw [← h0, ← h1, ← h2, ← h3, ← h4, ← h5, ← h6, ← h7, ← h8, ← h9, ← h10, ← h11]
    simp only [str_of]
theorem mtab_reads {H : Type} (enc : TypeId × Value → H) (w : World) (base : Nat) (sp : Nat → Bool) (held : Bool) : DataW.trod enc Tryz.prog w base sp held 8 33 mVals = some (wDatum mStrs, []) := by kernel_rfl
theorem mVals_strs : mStrs.map Value.string = mVals := by unfold mStrs mVals; rw [List.map_map]; rfl
theorem strs_inj {a b : List ByteArray} (e : a.map Value.string = b.map Value.string) : a = b := by
  have e2 := congrArg (List.map strOf) e
  simpa [List.map_map, Function.comp_def, strOf] using e2
theorem powGType : (Tryz.prog.globals[5]?).map (·.type) = some 115 := by kernel_rfl
theorem pow_datum : (Rows.laid_internal_strconv_uint64pow10 : DataW Unit) = Lib.tabData .u64 Lib.pow10Tab := by rfl
/-- From the rows' condition: the tables' cells. -/
theorem ftab_of_laid {W : World} (h : laidMet Tryz.prog [("math/bits.deBruijn32tab", Rows.laid_math_bits_deBruijn32tab), ("math/bits.deBruijn64tab", Rows.laid_math_bits_deBruijn64tab), ("internal/strconv.uint64pow10", Rows.laid_internal_strconv_uint64pow10), ("loop.example/mailwire/impl.monthNames", Rows.laid_loop_example_mailwire_impl_monthNames), ("loop.example/mailwire/impl.weekdayNames", Rows.laid_loop_example_mailwire_impl_weekdayNames)] W) :
    (W.var? Tryz.prog "loop.example/mailwire/impl.monthNames" = some mVals.toArray ∧ W.var? Tryz.prog "loop.example/mailwire/impl.weekdayNames" = some wVals.toArray) ∧ FEnv W := by
  obtain ⟨ps, ⟨_, _, _, _, _, _, _, _, _, _, ⟨_, _, _, _, _, _, _, _, _, _, ⟨g3, t3, cs3, f3, p3, q3, hg3, ht3, hv3, hd3, ⟨g4, t4, cs4, f4, p4, q4, hg4, ht4, hv4, hd4, ⟨g5, t5, cs5, f5, p5, q5, hg5, ht5, hv5, hd5, _, _⟩, _⟩, _⟩, _⟩, _⟩, _⟩ := h
  obtain rfl := Option.some.inj (powG.symm.trans hg3)
  obtain rfl := Option.some.inj (powGType.symm.trans ht3)
  obtain rfl := Option.some.inj (mG.symm.trans hg4)
  obtain rfl := Option.some.inj (mGType.symm.trans ht4)
  obtain rfl := Option.some.inj (wG.symm.trans hg5)
  obtain rfl := Option.some.inj (wGType.symm.trans ht5)
  rw [pow_datum] at hd3
  have hp := Lib.cells_of_tab Tryz.underlying115 Tryz.underlying94 (by kernel_rfl) (by kernel_rfl) hd3
  obtain ⟨ss, hl, hc, hx⟩ := mtab_inv hd4
  have hss := mtab_list hl (congrArg Prod.fst hx).symm
  have hvm : W.var? Tryz.prog "loop.example/mailwire/impl.monthNames" = some mVals.toArray := by
    have e : cs4.toList = mVals := by rw [hc, hss, mVals_strs]
    rw [hv4, ← e]
  obtain ⟨ss5, hl5, hc5, hx5⟩ := wtab_inv hd5
  have hss5 := wtab_list hl5 (congrArg Prod.fst hx5).symm
  have hvw : W.var? Tryz.prog "loop.example/mailwire/impl.weekdayNames" = some wVals.toArray := by
    have e : cs5.toList = wVals := by rw [hc5, hss5, wVals_strs]
    rw [hv5, ← e]
  refine ⟨⟨hvm, hvw⟩, fun j hj => ?_, fun j hj => ?_, ?_⟩
  · have := World.var?_cell wG hvw j
    rw [this]
    unfold wVals
    rw [List.getElem?_toArray, List.getElem?_map, List.getD_eq_getElem?_getD, List.getElem?_eq_getElem (show j < wdL.length from hj)]
    rfl
  · have := World.var?_cell mG hvm j
    rw [this]
    unfold mVals
    rw [List.getElem?_toArray, List.getElem?_map, List.getD_eq_getElem?_getD, List.getElem?_eq_getElem (show j < moL.length from hj)]
    rfl
  · show W.var? Tryz.prog "internal/strconv.uint64pow10" = _
    rw [hv3, ← hp]
/-- The variables read again behind the call. -/
theorem ftab_again {H : Type} {enc : TypeId × Value → H} {W W' : World} {gs : List (DataW H)} {ps : List MemPlace} (h : DataW.TrodVars enc Tryz.prog W (fun _ => true) ["loop.example/mailwire/impl.monthNames", "loop.example/mailwire/impl.weekdayNames"] gs ps)
    (hv : W.var? Tryz.prog "loop.example/mailwire/impl.monthNames" = some mVals.toArray ∧ W.var? Tryz.prog "loop.example/mailwire/impl.weekdayNames" = some wVals.toArray) (hb : Below W.heap.size W W') (ht : FEnv W) :
    ∃ d : DataW H × DataW H, gs = [d.1, d.2] ∧ ∀ sp, DataW.TrodVars enc Tryz.prog W' sp ["loop.example/mailwire/impl.monthNames", "loop.example/mailwire/impl.weekdayNames"] [d.1, d.2] (MemPlace.row ⟨0, 0, none⟩ mVals.toArray.size ++ [] ++ (MemPlace.row ⟨1, 0, none⟩ wVals.toArray.size ++ [])) := by
  obtain ⟨hvm, hvw⟩ := hv
  obtain ⟨g0, t0, cs0, f0, d0, p0, g1, t1, cs1, f1, d1, p1, rfl, hg0, ht0, hv0, hd0, hg1, ht1, hv1, hd1, rfl⟩ := trodVars_two h
  obtain rfl := Option.some.inj (mG.symm.trans hg0)
  obtain rfl := Option.some.inj (mGType.symm.trans ht0)
  obtain rfl := Option.some.inj (hvm.symm.trans hv0)
  obtain rfl := Option.some.inj (wG.symm.trans hg1)
  obtain rfl := Option.some.inj (wGType.symm.trans ht1)
  obtain rfl := Option.some.inj (hvw.symm.trans hv1)
  obtain ⟨ss, _, hc, hx⟩ := mtab_inv hd0
  have hss : ss = mStrs := strs_inj (by rw [mVals_strs, ← hc])
  have hdd : d0 = wDatum mStrs := by rw [← hss]; exact congrArg Prod.fst hx
  obtain ⟨ss1, _, hc1, hx1⟩ := wtab_inv hd1
  have hss1 : ss1 = wStrs := strs_inj (by rw [wVals_strs, ← hc1])
  have hdd1 : d1 = wDatum wStrs := by rw [← hss1]; exact congrArg Prod.fst hx1
  subst hdd hdd1
  exact ⟨(_, _), rfl, fun sp => ⟨_, _, _, 8, [], _, mG, mGType, var?_below hb mG ht.mt.lt hvm, mtab_reads enc W' 0 sp true, trodVars_mk1 wG wGType (var?_below hb wG ht.wt.lt hvw) (wtab_reads enc W' 0 sp true), rfl⟩⟩
def layAt (h : Array Obj) (g : Nat) (C : Array Value) : Array Obj := h.modify g fun
  | .cells _ t frozen => .cells C t frozen
  | o => o
def litVals : DataW Unit → List Value
  | .agg l => l.map fun | .lit (.int k z) => .int k z | _ => undef
  | _ => []
/-- A world for the witness: the settled one, the five tables holding what their initialisers lay. -/
noncomputable def laidWorldF (os : Os) : World :=
  { World.holding Tryz.prog os ⟨#[], #[], []⟩ with heap := layAt (layAt (layAt (layAt (layAt (World.holding Tryz.prog os ⟨#[], #[], []⟩).heap 0 mVals.toArray) 1 wVals.toArray) 5 (litVals Rows.laid_internal_strconv_uint64pow10).toArray) 8 (litVals Rows.laid_math_bits_deBruijn32tab).toArray) 9 (litVals Rows.laid_math_bits_deBruijn64tab).toArray }
end Go.Proofs.YtboopbjdehdhgaaGreatDoor
