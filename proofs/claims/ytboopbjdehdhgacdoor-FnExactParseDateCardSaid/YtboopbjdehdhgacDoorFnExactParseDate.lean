import Derived.Test.YtboopbjdehdhgacDoorLaw0f
import Derived.Test.YtboopbjdehdhgacDoorRdP
import Derived.Deep.DeepWitnessRowRef
import Derived.Test.YtboopbjdehdhgacDoorDatW
import Derived.Test.YtboopbjdehdhgacDoorDpP
section
namespace Go.Proofs.YtboopbjdehdhgacDoor
open Go.ChangeShapes Go.WideShapes Go.ChangeAt Go.RowKit
open Go.ChangeMaps (open_string shut_string)

theorem mx_of_shapedH {W : World} (h : W.ShapedOpen Tryd.prog) : ∃ m, W.cell? ⟨4, 0, none⟩ = some (.int .i64 m) :=
  cell_of_shapedOpen_int (zero := #[.int .i64 0]) (t := 3) h (of_decide_eq_true (by kernel_rfl)) (by kernel_rfl) rfl (by kernel_rfl) (by kernel_rfl) Tryd.underlying3
theorem spGType : (Tryd.prog.globals[0]?).map (·.type) = some 52 := by kernel_rfl
theorem sp_datum : (Rows.laid_strings_asciiSpace : DataW Unit) = Lib.tabData .u8 Lib.asciiSpaceTab := by kernel_rfl
/-- From the rows' condition: the tables' cells. -/
theorem htab_of_laid {W : World} (h : laidMet Tryd.prog [("unicode/utf8.acceptRanges", Rows.laid_unicode_utf8_acceptRanges), ("unicode.White_Space", Rows.laid_unicode_White_Space), ("strings.asciiSpace", Rows.laid_strings_asciiSpace), ("loop.example/mailwire/impl.monthNames", Rows.laid_loop_example_mailwire_impl_monthNames), ("loop.example/mailwire/impl.weekdayNames", Rows.laid_loop_example_mailwire_impl_weekdayNames), ("unicode/utf8.first", Rows.laid_unicode_utf8_first)] W) (hsh : W.ShapedOpen Tryd.prog) :
    (W.var? Tryd.prog "loop.example/mailwire/impl.monthNames" = some mVals.toArray ∧ W.var? Tryd.prog "loop.example/mailwire/impl.weekdayNames" = some wVals.toArray) ∧ PEnv W := by
  obtain ⟨ps, ⟨_, _, _, _, _, _, _, _, _, _, ⟨_, _, _, _, _, _, _, _, _, _, ⟨g5, t5, cs5, f5, p5, q5, hg5, ht5, hv5, hd5, ⟨g6, t6, cs6, f6, p6, q6, hg6, ht6, hv6, hd6, ⟨g7, t7, cs7, f7, p7, q7, hg7, ht7, hv7, hd7, ⟨_, _, _, _, _, _, _, _, _, _, _, _⟩, _⟩, _⟩, _⟩, _⟩, _⟩, _⟩ := h
  obtain rfl := Option.some.inj (spG.symm.trans hg5)
  obtain rfl := Option.some.inj (spGType.symm.trans ht5)
  obtain rfl := Option.some.inj (mG.symm.trans hg6)
  obtain rfl := Option.some.inj (mGType.symm.trans ht6)
  obtain rfl := Option.some.inj (wG.symm.trans hg7)
  obtain rfl := Option.some.inj (wGType.symm.trans ht7)
  rw [sp_datum] at hd5
  have hp5 := Lib.cells_of_tab Tryd.underlying52 Tryd.underlying5 (by kernel_rfl) (by kernel_rfl) hd5
  obtain ⟨ss, hl, hc, hx⟩ := mtab_inv hd6
  have hss := mtab_list hl (congrArg Prod.fst hx).symm
  have hvm : W.var? Tryd.prog "loop.example/mailwire/impl.monthNames" = some mVals.toArray := by
    have e : cs6.toList = mVals := by rw [hc, hss, mVals_strs]
    rw [hv6, ← e]
  obtain ⟨ss5, hl5, hc5, hx5⟩ := wtab_inv hd7
  have hss5 := wtab_list hl5 (congrArg Prod.fst hx5).symm
  have hvw : W.var? Tryd.prog "loop.example/mailwire/impl.weekdayNames" = some wVals.toArray := by
    have e : cs7.toList = wVals := by rw [hc5, hss5, wVals_strs]
    rw [hv7, ← e]
  have hW : WTab W := fun j hj => by
    have := World.var?_cell wG hvw j
    rw [this]
    unfold wVals
    rw [List.getElem?_toArray, List.getElem?_map, List.getD_eq_getElem?_getD, List.getElem?_eq_getElem (show j < wdL.length from hj)]
    rfl
  have hM : MTab W := fun j hj => by
    have := World.var?_cell mG hvm j
    rw [this]
    unfold mVals
    rw [List.getElem?_toArray, List.getElem?_map, List.getD_eq_getElem?_getD, List.getElem?_eq_getElem (show j < moL.length from hj)]
    rfl
  have hS : SpT W := by
    show W.var? Tryd.prog "strings.asciiSpace" = _
    rw [hv5, ← hp5]
  exact ⟨⟨hvm, hvw⟩, ⟨hW, hM, mx_of_shapedH hsh, hS⟩⟩
theorem htab_again {H : Type} {enc : TypeId × Value → H} {W W' : World} {gs : List (DataW H)} {ps : List MemPlace} (h : DataW.TrodVars enc Tryd.prog W (fun _ => true) ["loop.example/mailwire/impl.monthNames", "loop.example/mailwire/impl.weekdayNames"] gs ps)
    (hv : W.var? Tryd.prog "loop.example/mailwire/impl.monthNames" = some mVals.toArray ∧ W.var? Tryd.prog "loop.example/mailwire/impl.weekdayNames" = some wVals.toArray) (hb : Below W.heap.size W W') (ht : PEnv W) :
    ∃ d : DataW H × DataW H, gs = [d.1, d.2] ∧ ∀ sp, DataW.TrodVars enc Tryd.prog W' sp ["loop.example/mailwire/impl.monthNames", "loop.example/mailwire/impl.weekdayNames"] [d.1, d.2] (MemPlace.row ⟨2, 0, none⟩ mVals.toArray.size ++ [] ++ (MemPlace.row ⟨1, 0, none⟩ wVals.toArray.size ++ [])) := by
  obtain ⟨hvm, hvw⟩ := hv
  obtain ⟨g0, t0, cs0, f0, d0, p0, g1, t1, cs1, f1, d1, p1, rfl, hg0, ht0, hv0, hd0, hg1, ht1, hv1, hd1, rfl⟩ := trodVars_two h
  obtain rfl := Option.some.inj (mG.symm.trans hg0)
  obtain rfl := Option.some.inj (mGType.symm.trans ht0)
  obtain rfl := Option.some.inj (hvm.symm.trans hv0)
  obtain rfl := Option.some.inj (wG.symm.trans hg1)
  obtain rfl := Option.some.inj (wGType.symm.trans ht1)
  obtain rfl := Option.some.inj (hvw.symm.trans hv1)
  obtain ⟨ss, _, hc, hx⟩ := mtab_inv hd0
  have hss : ss = mStrs := strs_inj (by rw [mVals_strs, ← hc])
  have hdd : d0 = wDatum mStrs := by rw [← hss]; exact congrArg Prod.fst hx
  obtain ⟨ss1, _, hc1, hx1⟩ := wtab_inv hd1
  have hss1 : ss1 = wStrs := strs_inj (by rw [wVals_strs, ← hc1])
  have hdd1 : d1 = wDatum wStrs := by rw [← hss1]; exact congrArg Prod.fst hx1
  subst hdd hdd1
  exact ⟨(_, _), rfl, fun sp => ⟨_, _, _, 8, [], _, mG, mGType, var?_below hb mG ht.mt.lt hvm, mtab_reads enc W' 0 sp true, trodVars_mk1 wG wGType (var?_below hb wG ht.wt.lt hvw) (wtab_reads enc W' 0 sp true), rfl⟩⟩
def layAtH (h : Array Obj) (g : Nat) (C : Array Value) : Array Obj := h.modify g fun
  | .cells _ t frozen => .cells C t frozen
  | o => o
def litValsH : DataW Unit → List Value
  | .agg l => l.map fun | .lit (.int k z) => .int k z | _ => undef
  | _ => []
def accLh : List Nat := [128, 191, 160, 191, 128, 159, 144, 191, 128, 143, 0, 0, 0, 0, 0, 0, 0, 0, 0, 0, 0, 0, 0, 0, 0, 0, 0, 0, 0, 0, 0, 0]
def rangesH : List Nat := [9, 13, 1, 32, 133, 101, 160, 5760, 5600, 8192, 8202, 1, 8232, 8233, 1, 8239, 8287, 48, 12288, 12288, 1]
def pushedH (h : Array Obj) : Array Obj :=
  ((layAtH h 3 #[.pointer (some ⟨h.size + 1, 0, none⟩)]).push (.cells (rangesH.map fun (n : Nat) => Value.int .u16 n).toArray 109)).push (.cells #[.slice (some ⟨h.size, 0, none⟩) 7 7, .slice none 0 0, .int .i64 2] 106)
/-- A world for the witness: the settled one, the six tables holding what their initialisers lay. -/
noncomputable def laidWorldH (os : Os) : World :=
  { World.holding Tryd.prog os ⟨#[], #[], []⟩ with heap := layAtH (layAtH (layAtH (pushedH (layAtH (layAtH (World.holding Tryd.prog os ⟨#[], #[], []⟩).heap 2 mVals.toArray) 1 wVals.toArray)) 0 (litValsH Rows.laid_strings_asciiSpace).toArray) 5 (Go.Pinned.utf8FirstZ.map fun (n : Nat) => Value.int .u8 n).toArray) 6 (accLh.map fun (n : Nat) => Value.int .u8 n).toArray }
end Go.Proofs.YtboopbjdehdhgacDoor
end

section
namespace Go.Proofs.YtboopbjdehdhgacDoor
open Go.ChangeShapes Go.WideShapes Go.ChangeAt Go.RowKit
open Go.ChangeMaps (open_string shut_string)

set_option maxRecDepth 100000 in
set_option maxHeartbeats 2000000 in
theorem fnExactParseDate_walk (s : ByteArray) (w : World) (tab : PEnv w) (hs : s.size ≤ maxLen) :
    Calls Tryd.prog 3 #[.string s] w fun e w' => e = .returned (.bool true) ∧ Below w.heap.size w w' := by
  have HTAB := Lib.hid tab
  clear tab
  have hm' := hs
  unfold maxLen at hm'
  by_cases hn : 1048576 < s.size
  · have hd : decide ((1048576 : Int) < s.size) = true := by simp; omega
    go_enter Tryd.func3, Tryd.ntmps3
    go_wp2
    go_ret
    exact ⟨rfl, Below.refl _ _⟩
  · have hd : decide ((1048576 : Int) < s.size) = false := by simp; omega
    have H1 : Hid (∀ u, Calls Tryd.prog 5 #[.string s] u fun e w' => e = .returned (.tuple #[datV ((parseD s.data.toList).getD dat0), .bool (parseD s.data.toList).isSome]) ∧ Below u.heap.size u w') := fun u => parseDateS_any s u (by omega)
    have H2 : Hid (∀ u, PEnv u → Calls Tryd.prog 6 #[.string s] u fun e w' => e = .returned (.tuple #[datV ((parseD s.data.toList).getD dat0), .bool (parseD s.data.toList).isSome]) ∧ Below u.heap.size u w') := fun u t => parseDate_any s u t (by omega)
    generalize (parseD s.data.toList).getD dat0 = D at *
    generalize (parseD s.data.toList).isSome = ok at *
    have H3 := Lib.hid (fun u => eqDate_self D u)
    obtain ⟨y, m, d, h, mi, se, z⟩ := D
    unfold datV at *
    simp only at H1 H2 H3
    go_enter Tryd.func3, Tryd.ntmps3
    go_wp2_with fail
    refine (H1.out _).mono ?_
    rintro e w1 ⟨rfl, hb1⟩
    go_wp2_with fail
    refine (H2.out _ (HTAB.out.below (nx hb1 (laid7_below y m d h mi se z 23 w1)))).mono ?_
    rintro e w2 ⟨rfl, hb2⟩
    have hb12 := nx hb1 (nx (laid7_below y m d h mi se z 23 w1) (nx hb2 (laid7_below y m d h mi se z 23 w2)))
    obtain ⟨c0, c1, c2, c3, c4, c5, c6⟩ := (laid7_new y m d h mi se z 23 w1).below hb2
    have hl := lt_of_cell c0
    simp only at c0 c1 c2 c3 c4 c5 c6
    go_wp2_with fail
    refine (H3.out _).mono ?_
    rintro e w3 ⟨rfl, hb3⟩
    go_wp2
    go_ret
    exact ⟨rfl, nx hb12 hb3⟩
end Go.Proofs.YtboopbjdehdhgacDoor
end

section
namespace Go.Proofs.YtboopbjdehdhgacDoor
open Go.ChangeShapes Go.WideShapes Go.ChangeAt Go.RowKit
open Go.ChangeMaps (open_string shut_string)
set_option maxRecDepth 100000 in
theorem fnExactParseDate_contract (H : Type) (enc : TypeId × Value → H) (W : World) (base : Nat) (args : Array Value) (ds gs : List (DataW H)) (before : List MemPlace)
    (hval : ∀ (j : Nat) t v, Tryd.f3.params[j]? = some t → args[j]? = some v → Value.okWide Tryd.prog W .any base t v)
    (hW : DataW.Whole enc Tryd.prog Tryd.f3.params.toList Rows.fnExactParseDateSpec.vars false W args.toList ds gs before) (hL : laidMetH Tryd.prog Rows.fnExactParseDateRow.laid W) (_hsh : W.ShapedOpen Tryd.prog) :
    Calls Tryd.prog 3 args W fun e W' => ∃ v, e = .returned v ∧ Rows.fnExactParseDateSpec.post enc Tryd.prog Tryd.f3 false true false false W args v W' := by
  have hW' := hW
  obtain ⟨p, q, hA0, hV, rfl, hfz, hnd⟩ := hW
  have hA : DataW.TrodAll enc Tryd.prog W 0 (fun _ => true) true Tryd.f3.params.toList args.toList ds p := hA0
  rw [Tryd.params3] at hA hval
  obtain ⟨v0, vs0, d0, ds0, p0, q0, hargs, rfl, rfl, h0, r0⟩ := trodAll_cons hA
  obtain ⟨rfl, rfl, rfl⟩ := trodAll_nil r0
  obtain rfl : args = #[v0] := by cases args; simp_all
  obtain ⟨a0, rfl, rfl, rfl, w0⟩ := open_string Tryd.underlying9 (hval 0 9 v0 rfl rfl) h0
  clear hA0
  obtain ⟨hv, tab⟩ := htab_of_laid hL _hsh
  refine (fnExactParseDate_walk a0 W tab w0).mono fun e W' ⟨he, bel⟩ => ?_
  subst he
  obtain ⟨d, rfl, hvars⟩ := htab_again hV hv bel tab
  exact ⟨_, rfl, _, _, _, [], _, _, hW', trodAll_mk1 (shut_bool Tryd.underlying4 _), (trodAll_cons_mk (shut_string Tryd.underlying9 w0) trodAll_mk0), hvars _, bel.frame _, fun h => by cases h⟩
theorem fnExactParseDate_met (os : Os) : laidMet Tryd.prog Rows.fnExactParseDateRow.laid ((laidWorldH os).forCall (fun _ _ => 0) ⟨#[], #[.string ByteArray.empty], []⟩).memory :=
  laidMet_of_run3 8 (by kernel_rfl) (by kernel_rfl) (by kernel_rfl)
theorem fnExactParseDate_reads (os : Os) {H : Type} (enc : TypeId × Value → H) : ∃ places, DataW.whole enc Tryd.prog ((laidWorldH os).forCall (fun _ _ => 0) ⟨#[], #[.string ByteArray.empty], []⟩).memory Tryd.f3.params.toList Rows.fnExactParseDateSpec.vars false (#[.string ByteArray.empty] : Array Value).toList 8 = some ([.lit (.string [])], [wDatum mStrs, wDatum wStrs], places) :=
  ⟨MemPlace.row ⟨2, 0, none⟩ 12 ++ MemPlace.row ⟨1, 0, none⟩ 7, by kernel_rfl⟩
set_option maxRecDepth 100000 in
theorem fnExactParseDate_lifted (os : Os) (started : os.Started) (H : Type) (enc : TypeId × Value → H) (F : Stop.Interp) :
    ReturnsInHanded {} Tryd.checked os 3 .any ((OpenSpec.ofChange Rows.fnExactParseDateSpec).preRow enc Tryd.prog Tryd.f3 Rows.fnExactParseDateRow.domain false Rows.fnExactParseDateRow.laid) (((OpenSpec.ofChange Rows.fnExactParseDateSpec).at F).post enc Tryd.prog Tryd.f3 false true false false) := by
  obtain ⟨places, hx⟩ := fnExactParseDate_reads os enc
  refine returnsInHanded_of_row (C := Tryd.checked) (s := OpenSpec.ofChange Rows.fnExactParseDateSpec) own started (by kernel_rfl) Tryd.func3
    (witness_row_atRef (enc := enc) (C := Tryd.checked) false (laidWorldH os) #[.string ByteArray.empty] rfl (by kernel_rfl) (by kernel_rfl) (by kernel_rfl)
      (OpenSpec.preRow_of_cond 8 hx (by kernel_rfl) (fun k hk => by cases hk) (by kernel_rfl) (fnExactParseDate_met os))) ?_
  intro W base args ds gs before hval hW _ _ _ hL hsh _
  exact fnExactParseDate_contract H enc W base args ds gs before hval hW hL hsh
theorem fnExactParseDate_said : Rows.FnExactParseDateSaid :=
  OpenClaim.holds_of_cond 3 Tryd.f3 rfl rfl rfl rfl rfl rfl rfl ⟨rfl, rfl, rfl, rfl, rfl⟩ rfl rfl rfl rfl rfl (by kernel_rfl) Tryd.func3 (by kernel_rfl)
    (of_decide_eq_true (by kernel_rfl)) (by unfold Func.isWrapper; first | (rw [if_pos (by decide +kernel)]; kernel_rfl) | (rw [if_neg (by decide +kernel)]; exact ⟨rfl, rfl⟩))
    (fun os started H enc _ F => by rw [OpenClaim.pre_eq_preRow]; exact fnExactParseDate_lifted os started H enc F)
theorem fnExactParseDate_plain (f : FuncId) (fn : Func) (hf : Tryd.pinned.checked.prog.funcNamed "loop.example/mailwire/laws.FnExactParseDate" = some f) (hfn : Tryd.pinned.checked.prog.funcs[f]? = some fn) :
    false = Tryd.pinned.checked.prog.looks [] ∧ ∀ (j : Nat) t, fn.params[j]? = some t → Tryd.pinned.checked.prog.wantsStandIn t = false := by
  obtain rfl : f = 3 := Option.some.inj ((show Tryd.prog.funcNamed "loop.example/mailwire/laws.FnExactParseDate" = some 3 by kernel_rfl).symm.trans hf) |>.symm
  obtain rfl : fn = Tryd.f3 := (Option.some.inj (Tryd.func3.symm.trans hfn)).symm
  refine ⟨by kernel_rfl, fun j t ht => ?_⟩
  rw [Tryd.params3] at ht
  have hm := Array.mem_of_getElem? ht
  simp only [List.mem_toArray, List.mem_cons, List.not_mem_nil, or_false] at hm
  rcases hm with rfl
  · exact (show Tryd.prog.wantsStandIn 9 = false by kernel_rfl)
/-- FnExactParseDate: THE STATEMENT. -/
theorem fnExactParseDate_card : Rows.FnExactParseDateCardSaid :=
  Claim7.holds_tied_plain_at .later [] _ _ _ _ fnExactParseDate_said (fun _ h => by cases h) (by kernel_rfl) (fun _ h => by cases h) fnExactParseDate_row_tie rfl ⟨rfl, rfl⟩ (by kernel_rfl) rfl fnExactParseDate_plain (by kernel_rfl)
end Go.Proofs.YtboopbjdehdhgacDoor
end
