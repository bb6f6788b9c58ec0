/-
  What the frames of the laws' proofs share where dates are written as texts: the tables that the rows list. No statement is proved here.
-/
import Derived.Test.YtboopbjdehdhgacDoorLaw0w
import Derived.Test.YtboopbjdehdhgacDoorFmt
namespace Go.Proofs.YtboopbjdehdhgacDoor
open Go.ChangeShapes Go.WideShapes Go.ChangeAt Go.RowKit
open Go.ChangeMaps (open_string shut_string)

theorem mG : Tryd.prog.globalNamed "loop.example/mailwire/impl.monthNames" = some 2 := by kernel_rfl
theorem mGType : (Tryd.prog.globals[2]?).map (·.type) = some 85 := by kernel_rfl
theorem mCellsT : Tryd.prog.cellsOf 85 = 12 := by kernel_rfl
def mVals : List Value := moL.map fun l => .string (str l)
def mStrs : List ByteArray := moL.map str
theorem mtab_inv {H : Type} {enc : TypeId × Value → H} {w : World} {base fuel : Nat} {sp : Nat → Bool} {held : Bool} {cs : List Value} {x : DataW H × List MemPlace}
    (h : DataW.trod enc Tryd.prog w base sp held fuel 85 cs = some x) : ∃ ss : List ByteArray, ss.length = 12 ∧ cs = ss.map Value.string ∧ x = (wDatum ss, []) := by
  obtain ⟨xs, m, _, rfl, hl, hn, hf⟩ := DataW.trod_array Tryd.underlying85 h
  rw [mCellsT] at hl
  have key : ∀ i, i < 12 → ∃ s : ByteArray, cs[i]? = some (.string s) ∧ xs[i]? = some (.lit (.string s.data.toList), []) := by
    intro i hi
    have h1 := hf i hi
    rw [List.getElem?_eq_getElem (by omega)] at h1
    obtain ⟨s, hc, hx, _⟩ := DataW.trod_string Tryd.underlying9 h1
    refine ⟨s, ?_, ?_⟩
    · have := congrArg (·[0]?) hc
      simp only [wCellsE] at this
      simpa [List.getElem?_take, List.getElem?_drop] using this
    · rw [List.getElem?_eq_getElem (by omega), hx]
  refine ⟨cs.map strOf, by simpa using hl, ?_, ?_⟩
  · apply List.ext_getElem?
    intro i
    by_cases hi : i < 12
    · obtain ⟨s, hc, _⟩ := key i hi
      simp [hc, strOf]
    · rw [List.getElem?_eq_none (by omega), List.getElem?_eq_none (by simp; omega)]
  · have hxs : xs = cs.map fun v => ((.lit (.string (strOf v).data.toList), []) : DataW H × List MemPlace) := by
      apply List.ext_getElem?
      intro i
      by_cases hi : i < 12
      · obtain ⟨s, hc, hx⟩ := key i hi
        rw [hx]; simp [hc, strOf]
      · rw [List.getElem?_eq_none (by omega), List.getElem?_eq_none (by simp; omega)]
    rw [hxs]
    unfold wDatum
    simp [List.map_map, Function.comp_def]
theorem mtab_list {ss : List ByteArray} (hl : ss.length = 12) (hd : (wDatum ss : DataW Unit) = Rows.laid_loop_example_mailwire_impl_monthNames) : ss = mStrs := by
  match ss, hl with
  | [s0, s1, s2, s3, s4, s5, s6, s7, s8, s9, s10, s11], _ =>
    unfold wDatum Rows.laid_loop_example_mailwire_impl_monthNames at hd
    simp only [List.map_cons, List.map_nil, DataW.agg.injEq, List.cons.injEq, DataW.lit.injEq, Lit.string.injEq, and_true] at hd
    obtain ⟨h0, h1, h2, h3, h4, h5, h6, h7, h8, h9, h10, h11⟩ := hd
    unfold mStrs moL
    simp only [List.map_cons, List.map_nil]
    rw [← h0, ← h1, ← h2, ← h3, ← h4, ← h5, ← h6, ← h7, ← h8, ← h9, ← h10, ← h11]
    simp only [str_of]
theorem mtab_reads {H : Type} (enc : TypeId × Value → H) (w : World) (base : Nat) (sp : Nat → Bool) (held : Bool) : DataW.trod enc Tryd.prog w base sp held 8 85 mVals = some (wDatum mStrs, []) := by kernel_rfl
theorem mVals_strs : mStrs.map Value.string = mVals := by unfold mStrs mVals; rw [List.map_map]; rfl
theorem strs_inj {a b : List ByteArray} (e : a.map Value.string = b.map Value.string) : a = b := by
  have e2 := congrArg (List.map strOf) e
  simpa [List.map_map, Function.comp_def, strOf] using e2
end Go.Proofs.YtboopbjdehdhgacDoor
