/-
  What the frames of the laws' proofs share in chapter 4: the program's own facts; how an argument that came in reads; the table of the names of days. No statement is proved here.
-/
import Derived.Test.YtboopbjdehdhgaaGreatDoorDraw
import Derived.Test.YtboopbjdehdhgaaGreatDoorWday
import Derived.Test.YtboopbjdehdhgaaGreatDoorCards
import Derived.Test.YtboopbjdehdhgaaGreatDoorTie
import Derived.Deep.DeepHandedRow
import Derived.Lib.LaidTab
import Derived.Deep.DeepLaidRun
import Derived.ProofKit
import Derived.OpenShut
import Derived.ShutString
import Derived.ChangeOld
import Derived.WalkSmall
namespace Go.Proofs.YtboopbjdehdhgaaGreatDoor
open Go.ChangeShapes Go.WideShapes Go.ChangeAt Go.RowKit
open Go.ChangeMaps (open_string shut_string)

theorem own : ownKnob Tryz.prog.godebug = none := by kernel_rfl
theorem laidOut : laidOutB Tryz.prog = true := by kernel_rfl
set_option maxRecDepth 100000 in
theorem code_of_trod {H : Type} {enc : TypeId × Value → H} {W : World} {T E : TypeId} {a : Option Addr} {n c : Nat} {d : DataW H} {p : List MemPlace} (hT : Tryz.prog.underlying T = some (.slice E)) (hE : Tryz.prog.underlying E = some (.int .u8)) (hcE : Tryz.prog.cellsOf E = 1)
    (h : DataW.Trod enc Tryz.prog W 0 (fun _ => true) true T (Value.slice a n c) d p) : Code W a n ∧ n ≤ c ∧ c ≤ maxLen := by
  obtain ⟨fuel, hf⟩ := h
  rcases open_ints hT hE hcE hf with ⟨hcs, _⟩ | ⟨x, l, k, zs, hcs, _, hl, hm, hz, _, hcell, hwz⟩
  · simp [Value.cells] at hcs
    obtain ⟨rfl, rfl, rfl⟩ := hcs
    exact ⟨.inl rfl, Nat.le_refl _, by unfold maxLen; omega⟩
  · simp [Value.cells] at hcs
    obtain ⟨rfl, rfl, rfl⟩ := hcs
    refine ⟨?_, hl, hm⟩
    by_cases h0 : n = 0
    · exact .inl h0
    · have hz' : zs.length = c := by simpa using hz
      obtain ⟨b, off, spot⟩ := x
      have hc0 := hcell 0 (by omega)
      have hspot : spot = none := by simpa [Addr.add] using World.cell?_spot hc0
      subst hspot
      have hsh : ∀ i, i < c → W.cell? ⟨b, off + i, none⟩ = some (.int .u8 (zs.getD i 0)) := fun i hi => by
        have := hcell i (by omega)
        rw [show (⟨b, off, none⟩ : Addr).add i = ⟨b, off + i, none⟩ by unfold Addr.add; split <;> simp_all] at this
        exact this
      refine .inr ⟨b, off, rfl, lt_of_cell (hsh 0 (by omega)), fun i hi => ?_⟩
      have hm2 : zs.getD i 0 ∈ zs := by
        rw [List.getD_eq_getElem?_getD, List.getElem?_eq_getElem (by omega)]
        exact List.getElem_mem _
      have hb := bounds_u8 (hwz _ hm2)
      refine ⟨(zs.getD i 0).toNat, by omega, ?_⟩
      rw [hsh i (by omega)]
      congr 2; omega
/-! The table of the names of days, as a package-level variable that the rows list. -/
theorem wG : Tryz.prog.globalNamed "loop.example/mailwire/impl.weekdayNames" = some 1 := by kernel_rfl
theorem wGType : (Tryz.prog.globals[1]?).map (·.type) = some 59 := by kernel_rfl
theorem wCellsE : Tryz.prog.cellsOf 9 = 1 := by kernel_rfl
theorem wCellsT : Tryz.prog.cellsOf 59 = 7 := by kernel_rfl
def strOf : Value → ByteArray
  | .string s => s
  | _ => ⟨#[]⟩
def wDatum {H : Type} (ss : List ByteArray) : DataW H := .agg (ss.map fun s => .lit (.string s.data.toList))
def wVals : List Value := wdL.map fun l => .string (str l)
def wStrs : List ByteArray := wdL.map str
theorem wtab_inv {H : Type} {enc : TypeId × Value → H} {w : World} {base fuel : Nat} {sp : Nat → Bool} {held : Bool} {cs : List Value} {x : DataW H × List MemPlace}
    (h : DataW.trod enc Tryz.prog w base sp held fuel 59 cs = some x) : ∃ ss : List ByteArray, ss.length = 7 ∧ cs = ss.map Value.string ∧ x = (wDatum ss, []) := by
  obtain ⟨xs, m, _, rfl, hl, hn, hf⟩ := DataW.trod_array Tryz.underlying59 h
  rw [wCellsT] at hl
  have key : ∀ i, i < 7 → ∃ s : ByteArray, cs[i]? = some (.string s) ∧ xs[i]? = some (.lit (.string s.data.toList), []) := by
    intro i hi
    have h1 := hf i hi
    rw [List.getElem?_eq_getElem (by omega)] at h1
    obtain ⟨s, hc, hx, _⟩ := DataW.trod_string Tryz.underlying9 h1
    refine ⟨s, ?_, ?_⟩
    · have := congrArg (·[0]?) hc
      simp only [wCellsE] at this
      simpa [List.getElem?_take, List.getElem?_drop] using this
    · rw [List.getElem?_eq_getElem (by omega), hx]
  refine ⟨cs.map strOf, by simpa using hl, ?_, ?_⟩
  · apply List.ext_getElem?
    intro i
    by_cases hi : i < 7
    · obtain ⟨s, hc, _⟩ := key i hi
      simp [hc, strOf]
    · rw [List.getElem?_eq_none (by omega), List.getElem?_eq_none (by simp; omega)]
  · have hxs : xs = cs.map fun v => ((.lit (.string (strOf v).data.toList), []) : DataW H × List MemPlace) := by
      apply List.ext_getElem?
      intro i
      by_cases hi : i < 7
      · obtain ⟨s, hc, hx⟩ := key i hi
        rw [hx]; simp [hc, strOf]
      · rw [List.getElem?_eq_none (by omega), List.getElem?_eq_none (by simp; omega)]
    rw [hxs]
    unfold wDatum
    simp [List.map_map, Function.comp_def]
theorem wtab_list {ss : List ByteArray} (hl : ss.length = 7) (hd : (wDatum ss : DataW Unit) = Rows.laid_loop_example_mailwire_impl_weekdayNames) : ss = wStrs := by
  match ss, hl with
  | [s0, s1, s2, s3, s4, s5, s6], _ =>
    unfold wDatum Rows.laid_loop_example_mailwire_impl_weekdayNames at hd
    simp only [List.map_cons, List.map_nil, DataW.agg.injEq, List.cons.injEq, DataW.lit.injEq, Lit.string.injEq, and_true] at hd
    obtain ⟨h0, h1, h2, h3, h4, h5, h6⟩ := hd
    unfold wStrs wdL
    simp only [List.map_cons, List.map_nil]
    rw [← h0, ← h1, ← h2, ← h3, ← h4, ← h5, ← h6]
    simp only [str_of]
theorem wtab_reads {H : Type} (enc : TypeId × Value → H) (w : World) (base : Nat) (sp : Nat → Bool) (held : Bool) : DataW.trod enc Tryz.prog w base sp held 8 59 wVals = some (wDatum wStrs, []) := by kernel_rfl
theorem wVals_strs : wStrs.map Value.string = wVals := by unfold wStrs wVals; rw [List.map_map]; rfl
/-- From the rows' condition: the table's cells. -/
theorem wtab_of_laid {W : World} (h : laidMet Tryz.prog [("loop.example/mailwire/impl.weekdayNames", Rows.laid_loop_example_mailwire_impl_weekdayNames)] W) : W.var? Tryz.prog "loop.example/mailwire/impl.weekdayNames" = some wVals.toArray ∧ WTab W := by
  obtain ⟨ps, ⟨g', t', cs, fuel, p, q, hg', ht', hvar, hd, _, _⟩, _⟩ := h
  obtain rfl := Option.some.inj (wG.symm.trans hg')
  obtain rfl := Option.some.inj (wGType.symm.trans ht')
  obtain ⟨ss, hl, hc, hx⟩ := wtab_inv hd
  have hss := wtab_list hl (congrArg Prod.fst hx).symm
  have hv : W.var? Tryz.prog "loop.example/mailwire/impl.weekdayNames" = some wVals.toArray := by
    have e : cs.toList = wVals := by rw [hc, hss, wVals_strs]
    rw [hvar, ← e]
  refine ⟨hv, fun j hj => ?_⟩
  have := World.var?_cell wG hv j
  rw [this]
  unfold wVals
  rw [List.getElem?_toArray, List.getElem?_map, List.getD_eq_getElem?_getD, List.getElem?_eq_getElem (show j < wdL.length from hj)]
  rfl
/-- The variable read again behind the call. -/
theorem wtab_again {H : Type} {enc : TypeId × Value → H} {W W' : World} {gs : List (DataW H)} {ps : List MemPlace} (h : DataW.TrodVars enc Tryz.prog W (fun _ => true) ["loop.example/mailwire/impl.weekdayNames"] gs ps) (hv : W.var? Tryz.prog "loop.example/mailwire/impl.weekdayNames" = some wVals.toArray) (hb : Below W.heap.size W W') (ht : WTab W) :
    ∃ d : DataW H, gs = [d] ∧ ∀ sp, DataW.TrodVars enc Tryz.prog W' sp ["loop.example/mailwire/impl.weekdayNames"] [d] (MemPlace.row ⟨1, 0, none⟩ wVals.toArray.size ++ []) := by
  obtain ⟨g, t, cs, fuel, d, p, rfl, hg, hty, hvar, hd, rfl⟩ := trodVars_one h
  obtain rfl := Option.some.inj (wG.symm.trans hg)
  obtain rfl := Option.some.inj (wGType.symm.trans hty)
  obtain rfl := Option.some.inj (hv.symm.trans hvar)
  obtain ⟨ss, _, hc, hx⟩ := wtab_inv hd
  have hss : ss = wStrs := by
    have e : ss.map Value.string = wStrs.map Value.string := by rw [wVals_strs, ← hc]
    have e2 := congrArg (List.map strOf) e
    simpa [List.map_map, Function.comp_def, strOf] using e2
  have hdd : d = wDatum wStrs := by rw [← hss]; exact congrArg Prod.fst hx
  subst hdd
  exact ⟨_, rfl, fun sp => trodVars_mk1 wG wGType (var?_below hb wG ht.lt hv) (wtab_reads enc W' 0 sp true)⟩
/-- A world for the witness: the settled one, the table holding what its initialiser lays. -/
noncomputable def laidWorldW (os : Os) : World :=
  { World.holding Tryz.prog os ⟨#[], #[], []⟩ with heap := (World.holding Tryz.prog os ⟨#[], #[], []⟩).heap.modify 1 fun
      | .cells _ t frozen => .cells wVals.toArray t frozen
      | o => o }
end Go.Proofs.YtboopbjdehdhgaaGreatDoor
