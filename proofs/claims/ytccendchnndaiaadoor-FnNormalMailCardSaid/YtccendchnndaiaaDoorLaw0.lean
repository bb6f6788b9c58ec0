/-
  What the frames of the laws' proofs share: the program's own facts; how an argument that came in reads. No statement is proved here.
-/
import Derived.Test.YtccendchnndaiaaDoorDraw1
import Derived.Test.YtccendchnndaiaaDoorCards
import Derived.Test.YtccendchnndaiaaDoorTie
import Derived.Test.YtccendchnndaiaaDoorAtoms
import Derived.Deep.DeepHandedRow
import Derived.Lib.LaidTab
import Derived.Deep.DeepLaidRun
import Derived.Test.YtccendchnndaiaaDoorAddr
import Derived.Shelf.Vars
import Derived.ProofKit
import Derived.OpenShut
import Derived.ShutString
import Derived.ChangeOld
import Derived.WalkSmall
namespace Go.Proofs.YtccendchnndaiaaDoor
open Go.ChangeShapes Go.WideShapes Go.ChangeAt Go.RowKit
open Go.ChangeMaps (open_string shut_string)

theorem own : ownKnob Tryd.prog.godebug = none := by kernel_rfl
theorem laidOut : laidOutB Tryd.prog = true := by kernel_rfl
set_option maxRecDepth 100000 in
theorem code_of_trod {H : Type} {enc : TypeId × Value → H} {W : World} {T E : TypeId} {a : Option Addr} {n c : Nat} {d : DataW H} {p : List MemPlace} (hT : Tryd.prog.underlying T = some (.slice E)) (hE : Tryd.prog.underlying E = some (.int .u8)) (hcE : Tryd.prog.cellsOf E = 1)
    (h : DataW.Trod enc Tryd.prog W 0 (fun _ => true) true T (Value.slice a n c) d p) : Code W a n ∧ n ≤ c ∧ c ≤ maxLen := by
  obtain ⟨fuel, hf⟩ := h
  rcases open_ints hT hE hcE hf with ⟨hcs, _⟩ | ⟨x, l, k, zs, hcs, _, hl, hm, hz, _, hcell, hwz⟩
  · simp [Value.cells] at hcs
    obtain ⟨rfl, rfl, rfl⟩ := hcs
    exact ⟨.inl rfl, Nat.le_refl _, by unfold maxLen; omega⟩
  · simp [Value.cells] at hcs
    obtain ⟨rfl, rfl, rfl⟩ := hcs
    refine ⟨?_, hl, hm⟩
    by_cases h0 : n = 0
    · exact .inl h0
    · have hz' : zs.length = c := by simpa using hz
      obtain ⟨b, off, spot⟩ := x
      have hc0 := hcell 0 (by omega)
      have hspot : spot = none := by simpa [Addr.add] using World.cell?_spot hc0
      subst hspot
      have hsh : ∀ i, i < c → W.cell? ⟨b, off + i, none⟩ = some (.int .u8 (zs.getD i 0)) := fun i hi => by
        have := hcell i (by omega)
        rw [show (⟨b, off, none⟩ : Addr).add i = ⟨b, off + i, none⟩ by unfold Addr.add; split <;> simp_all] at this
        exact this
      refine .inr ⟨b, off, rfl, lt_of_cell (hsh 0 (by omega)), fun i hi => ?_⟩
      have hm2 : zs.getD i 0 ∈ zs := by
        rw [List.getD_eq_getElem?_getD, List.getElem?_eq_getElem (by omega)]
        exact List.getElem_mem _
      have hb := bounds_u8 (hwz _ hm2)
      refine ⟨(zs.getD i 0).toNat, by omega, ?_⟩
      rw [hsh i (by omega)]
      congr 2; omega
/-! The table of atoms' other bytes, as a package-level variable that the rows list. -/
theorem tG : Tryd.prog.globalNamed "loop.example/mailwire/impl.atomMarks" = some 1 := by kernel_rfl
theorem tGType : (Tryd.prog.globals[1]?).map (·.type) = some 123 := by kernel_rfl
theorem tCellsE : Tryd.prog.cellsOf 122 = 2 := by kernel_rfl
theorem tCellsT : Tryd.prog.cellsOf 123 = 18 := by kernel_rfl
theorem tCellsB : Tryd.prog.cellsOf 5 = 1 := by kernel_rfl
def tabAt (cs : List Value) (i : Nat) : Int := intOf (cs.getD i undef)
def tabDatum {H : Type} (cs : List Value) : DataW H := .agg ((List.range 9).map fun i => .agg [.lit (.int .u8 (tabAt cs (2 * i))), .lit (.int .u8 (tabAt cs (2 * i + 1)))])
theorem tab_inv {H : Type} {enc : TypeId × Value → H} {w : World} {base fuel : Nat} {sp : Nat → Bool} {held : Bool} {cs : List Value} {x : DataW H × List MemPlace}
    (h : DataW.trod enc Tryd.prog w base sp held fuel 123 cs = some x) :
    cs.length = 18 ∧ (∀ i, i < 18 → cs[i]? = some (.int .u8 (tabAt cs i))) ∧ x = (tabDatum cs, []) := by
  obtain ⟨xs, m, _, rfl, hl, hn, hf⟩ := DataW.trod_array Tryd.underlying123 h
  rw [tCellsT] at hl
  have key : ∀ i, i < 9 → cs[2 * i]? = some (.int .u8 (tabAt cs (2 * i))) ∧ cs[2 * i + 1]? = some (.int .u8 (tabAt cs (2 * i + 1))) ∧ xs[i]? = some (.agg [.lit (.int .u8 (tabAt cs (2 * i))), .lit (.int .u8 (tabAt cs (2 * i + 1)))], []) := by
    intro i hi
    have h1 := hf i hi
    rw [List.getElem?_eq_getElem (by omega)] at h1
    obtain ⟨y0, y1, k, hx, _, g0, g1⟩ := trod_struct2 Tryd.underlying122 h1
    obtain ⟨z0, c0, e0, _⟩ := DataW.trod_int Tryd.underlying5 g0
    obtain ⟨z1, c1, e1, _⟩ := DataW.trod_int Tryd.underlying5 g1
    have q0 : cs[2 * i]? = some (.int .u8 z0) := by
      have := congrArg (·[0]?) c0
      simp only [tCellsE, tCellsB] at this
      simpa [List.getElem?_take, List.getElem?_drop, Nat.mul_comm] using this
    have q1 : cs[2 * i + 1]? = some (.int .u8 z1) := by
      have := congrArg (·[0]?) c1
      simp only [tCellsE, tCellsB] at this
      simpa [List.getElem?_take, List.getElem?_drop, Nat.mul_comm] using this
    have f0 : tabAt cs (2 * i) = z0 := by unfold tabAt; rw [List.getD_eq_getElem?_getD, q0]; rfl
    have f1 : tabAt cs (2 * i + 1) = z1 := by unfold tabAt; rw [List.getD_eq_getElem?_getD, q1]; rfl
    rw [f0, f1]
    refine ⟨q0, q1, ?_⟩
    rw [List.getElem?_eq_getElem (by omega), hx, e0, e1]; rfl
  refine ⟨hl, fun i hi => ?_, ?_⟩
  · rcases Nat.mod_two_eq_zero_or_one i with h2 | h2
    · have := (key (i / 2) (by omega)).1
      rwa [show 2 * (i / 2) = i by omega] at this
    · have := (key (i / 2) (by omega)).2.1
      rwa [show 2 * (i / 2) + 1 = i by omega] at this
  · have hxs : xs = (List.range 9).map fun i => ((.agg [.lit (.int .u8 (tabAt cs (2 * i))), .lit (.int .u8 (tabAt cs (2 * i + 1)))], []) : DataW H × List MemPlace) := by
      apply List.ext_getElem?
      intro i
      by_cases hi : i < 9
      · rw [(key i hi).2.2]; simp [hi]
      · rw [List.getElem?_eq_none (by omega), List.getElem?_eq_none (by simp; omega)]
    rw [hxs]
    unfold tabDatum
    simp [List.map_map, Function.comp_def]
theorem tab_list {cs : List Value} (hl : cs.length = 18) (h : ∀ i, i < 18 → cs[i]? = some (.int .u8 (tabAt cs i))) (hd : (tabDatum cs : DataW Unit) = Rows.laid_loop_example_mailwire_impl_atomMarks) : cs = tabL := by
  unfold tabDatum Rows.laid_loop_example_mailwire_impl_atomMarks at hd
  simp only [List.range, List.range.loop, List.map_cons, List.map_nil, DataW.agg.injEq, List.cons.injEq, DataW.lit.injEq, Lit.int.injEq, true_and, and_true] at hd
  apply List.ext_getElem?
  intro i
  by_cases hi : i < 18
  · rw [h i hi]
    rcases (by omega : i = 0 ∨ i = 1 ∨ i = 2 ∨ i = 3 ∨ i = 4 ∨ i = 5 ∨ i = 6 ∨ i = 7 ∨ i = 8 ∨ i = 9 ∨ i = 10 ∨ i = 11 ∨ i = 12 ∨ i = 13 ∨ i = 14 ∨ i = 15 ∨ i = 16 ∨ i = 17) with rfl | rfl | rfl | rfl | rfl | rfl | rfl | rfl | rfl | rfl | rfl | rfl | rfl | rfl | rfl | rfl | rfl | rfl <;> simp_all [tabL]
  · rw [List.getElem?_eq_none (by omega), List.getElem?_eq_none (by simp [tabL]; omega)]
theorem tab_reads {H : Type} (enc : TypeId × Value → H) (w : World) (base : Nat) (sp : Nat → Bool) (held : Bool) : DataW.trod enc Tryd.prog w base sp held 8 123 tabL = some (tabDatum tabL, []) := by kernel_rfl
/-- From the rows' condition: the table's cells. -/
theorem tab_of_laid {W : World} (h : laidMet Tryd.prog [("loop.example/mailwire/impl.atomMarks", Rows.laid_loop_example_mailwire_impl_atomMarks)] W) : W.var? Tryd.prog "loop.example/mailwire/impl.atomMarks" = some tabL.toArray ∧ Tab W := by
  obtain ⟨ps, ⟨g', t', cs, fuel, p, q, hg', ht', hvar, hd, _, _⟩, _⟩ := h
  obtain rfl := Option.some.inj (tG.symm.trans hg')
  obtain rfl := Option.some.inj (tGType.symm.trans ht')
  obtain ⟨hl, hc, hx⟩ := tab_inv hd
  have hcs := tab_list hl hc (congrArg Prod.fst hx).symm
  have hv : W.var? Tryd.prog "loop.example/mailwire/impl.atomMarks" = some tabL.toArray := by rw [hvar, ← hcs]
  refine ⟨hv, fun j v hj => ?_⟩
  have := World.var?_cell tG hv j
  rw [Nat.zero_add, this]; simpa using hj
/-- The variable read again behind the call. -/
theorem tab_again {H : Type} {enc : TypeId × Value → H} {W W' : World} {gs : List (DataW H)} {ps : List MemPlace} (h : DataW.TrodVars enc Tryd.prog W (fun _ => true) ["loop.example/mailwire/impl.atomMarks"] gs ps) (hv : W.var? Tryd.prog "loop.example/mailwire/impl.atomMarks" = some tabL.toArray) (hb : Below W.heap.size W W') (ht : Tab W) :
    ∃ d : DataW H, gs = [d] ∧ ∀ sp, DataW.TrodVars enc Tryd.prog W' sp ["loop.example/mailwire/impl.atomMarks"] [d] (MemPlace.row ⟨1, 0, none⟩ tabL.toArray.size ++ []) := by
  obtain ⟨g, t, cs, fuel, d, p, rfl, hg, hty, hvar, hd, rfl⟩ := trodVars_one h
  obtain rfl := Option.some.inj (tG.symm.trans hg)
  obtain rfl := Option.some.inj (tGType.symm.trans hty)
  obtain rfl := Option.some.inj (hv.symm.trans hvar)
  obtain ⟨_, _, hx⟩ := tab_inv hd
  have hdd : d = tabDatum tabL := congrArg Prod.fst hx
  subst hdd
  exact ⟨_, rfl, fun sp => trodVars_mk1 tG tGType (var?_below hb tG ht.lt hv) (tab_reads enc W' 0 sp true)⟩
/-- A world for the witness: the settled one, the table holding what its initialiser lays. -/
noncomputable def laidWorld (os : Os) : World :=
  { World.holding Tryd.prog os ⟨#[], #[], []⟩ with heap := (World.holding Tryd.prog os ⟨#[], #[], []⟩).heap.modify 1 fun
      | .cells _ t frozen => .cells tabL.toArray t frozen
      | o => o }
/-! Rows that list two tables of the library's beside the program's. -/
theorem tab_of_laid3 {W : World} (h : laidMet Tryd.prog [("unicode/utf8.acceptRanges", Rows.laid_unicode_utf8_acceptRanges), ("loop.example/mailwire/impl.atomMarks", Rows.laid_loop_example_mailwire_impl_atomMarks), ("unicode/utf8.first", Rows.laid_unicode_utf8_first)] W) : W.var? Tryd.prog "loop.example/mailwire/impl.atomMarks" = some tabL.toArray ∧ Tab W := by
  obtain ⟨ps, ⟨_, _, _, _, _, _, _, _, _, _, ⟨g', t', cs, fuel, p, q, hg', ht', hvar, hd, _, _⟩, _⟩, _⟩ := h
  obtain rfl := Option.some.inj (tG.symm.trans hg')
  obtain rfl := Option.some.inj (tGType.symm.trans ht')
  obtain ⟨hl, hc, hx⟩ := tab_inv hd
  have hcs := tab_list hl hc (congrArg Prod.fst hx).symm
  have hv : W.var? Tryd.prog "loop.example/mailwire/impl.atomMarks" = some tabL.toArray := by rw [hvar, ← hcs]
  refine ⟨hv, fun j v hj => ?_⟩
  have := World.var?_cell tG hv j
  rw [Nat.zero_add, this]; simpa using hj
def accL : List Nat := [128, 191, 160, 191, 128, 159, 144, 191, 128, 143, 0, 0, 0, 0, 0, 0, 0, 0, 0, 0, 0, 0, 0, 0, 0, 0, 0, 0, 0, 0, 0, 0]
def layAt (h : Array Obj) (g : Nat) (C : Array Value) : Array Obj := h.modify g fun
  | .cells _ t frozen => .cells C t frozen
  | o => o
/-- A world for the witness: the settled one, the three tables holding what their initialisers lay. -/
noncomputable def laidWorld3 (os : Os) : World :=
  { World.holding Tryd.prog os ⟨#[], #[], []⟩ with heap := layAt (layAt (layAt (World.holding Tryd.prog os ⟨#[], #[], []⟩).heap 1 tabL.toArray) 2 (Go.Pinned.utf8FirstZ.map fun (n : Nat) => Value.int .u8 n).toArray) 3 (accL.map fun (n : Nat) => Value.int .u8 n).toArray }
set_option maxRecDepth 100000 in
theorem met3 (os : Os) (args : Array Value) : laidMet Tryd.prog [("unicode/utf8.acceptRanges", Rows.laid_unicode_utf8_acceptRanges), ("loop.example/mailwire/impl.atomMarks", Rows.laid_loop_example_mailwire_impl_atomMarks), ("unicode/utf8.first", Rows.laid_unicode_utf8_first)] ((laidWorld3 os).forCall (fun _ _ => 0) ⟨#[], args, []⟩).memory :=
  laidMet_of_run3 8 (by kernel_rfl) (by kernel_rfl) (by kernel_rfl)
theorem mx_of_shaped {W : World} (h : W.ShapedOpen Tryd.prog) : ∃ m, W.cell? ⟨0, 0, none⟩ = some (.int .i64 m) :=
  cell_of_shapedOpen_int (zero := #[.int .i64 0]) (t := 3) h (of_decide_eq_true (by kernel_rfl)) (by kernel_rfl) rfl (by kernel_rfl) (by kernel_rfl) Tryd.underlying3
end Go.Proofs.YtccendchnndaiaaDoor
