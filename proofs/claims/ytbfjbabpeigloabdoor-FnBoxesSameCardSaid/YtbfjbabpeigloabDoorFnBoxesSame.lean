/-
  FnBoxesSame, from its walk: the statement. For every input: the law returns true, and the input reads as it did. Conditions: none but the statement's own.
-/
import Derived.Test.YtbfjbabpeigloabDoorLaw11l
namespace Go.Proofs.YtbfjbabpeigloabDoor
open Go.ChangeShapes Go.WideShapes Go.ChangeAt Go.RowKit
open Go.ChangeMaps (open_string shut_string)
set_option maxRecDepth 100000 in
theorem fnBoxesSame_contract (H : Type) (enc : TypeId × Value → H) (W : World) (base : Nat) (args : Array Value) (ds gs : List (DataW H)) (before : List MemPlace)
    (hval : ∀ (j : Nat) t v, Tryd.f7.params[j]? = some t → args[j]? = some v → Value.okWide Tryd.prog W .any base t v)
    (hW : DataW.Whole enc Tryd.prog Tryd.f7.params.toList Rows.fnBoxesSameSpec.vars false W args.toList ds gs before) (hL : laidMetH Tryd.prog Rows.fnBoxesSameRow.laid W) (hsh : W.ShapedOpen Tryd.prog) :
    Calls Tryd.prog 7 args W fun e W' => ∃ v, e = .returned v ∧ Rows.fnBoxesSameSpec.post enc Tryd.prog Tryd.f7 false true false false W args v W' := by
  have hW' := hW
  obtain ⟨p, q, hA0, hV, rfl, hfz, hnd⟩ := hW
  have hA : DataW.TrodAll enc Tryd.prog W 0 (fun _ => true) true Tryd.f7.params.toList args.toList ds p := hA0
  rw [Tryd.params7] at hA hval
  obtain ⟨v0, vs0, d0, ds0, p0, q0, hargs, rfl, rfl, h0, r0⟩ := trodAll_cons hA
  obtain ⟨rfl, rfl, rfl⟩ := trodAll_nil r0
  obtain rfl : args = #[v0] := by cases args; simp_all
  obtain ⟨a0, n0, c0, rfl⟩ := okWide_slice Tryd.underlying22 (hval 0 22 v0 rfl rfl)
  have k0 := h0
  have lt0 : ∀ x ∈ p0, x.block < W.heap.size := by obtain ⟨m, hm⟩ := k0; exact DataW.trod_lt m _ _ _ hm
  obtain ⟨w0, x0, y0⟩ := code_of_trod Tryd.underlying22 Tryd.underlying5 (by kernel_rfl) h0
  clear hA0
  obtain ⟨hv, tab⟩ := tab_of_laid3 hL
  have en : Env W := ⟨tab, mx_of_shaped hsh⟩
  refine (fnBoxesSame_walk a0 n0 c0 W en w0 x0 y0).mono fun e W' ⟨he, bel⟩ => ?_
  subst he
  obtain ⟨d, rfl, hvars⟩ := tab_again hV hv bel tab
  exact ⟨_, rfl, _, _, _, [], _, _, hW', trodAll_mk1 (shut_bool Tryd.underlying4 _), (trodAll_cons_mk (Below.trod laidOut (by kernel_rfl) (of_decide_eq_true (by kernel_rfl)) k0 bel lt0) trodAll_mk0), hvars _, bel.frame _, fun h => by cases h⟩
theorem fnBoxesSame_met (os : Os) : laidMet Tryd.prog Rows.fnBoxesSameRow.laid ((laidWorld3 os).forCall (fun _ _ => 0) ⟨#[], #[.slice none 0 0], []⟩).memory :=
  met3 os _
theorem fnBoxesSame_reads (os : Os) {H : Type} (enc : TypeId × Value → H) : ∃ places, DataW.whole enc Tryd.prog ((laidWorld3 os).forCall (fun _ _ => 0) ⟨#[], #[.slice none 0 0], []⟩).memory Tryd.f7.params.toList Rows.fnBoxesSameSpec.vars false (#[.slice none 0 0] : Array Value).toList 8 = some ([.nil], [tabDatum tabL], places) :=
  ⟨MemPlace.row ⟨1, 0, none⟩ 18, by kernel_rfl⟩
set_option maxRecDepth 100000 in
theorem fnBoxesSame_lifted (os : Os) (started : os.Started) (H : Type) (enc : TypeId × Value → H) (F : Stop.Interp) :
    ReturnsInHanded {} Tryd.checked os 7 .any ((OpenSpec.ofChange Rows.fnBoxesSameSpec).preRow enc Tryd.prog Tryd.f7 Rows.fnBoxesSameRow.domain false Rows.fnBoxesSameRow.laid) (((OpenSpec.ofChange Rows.fnBoxesSameSpec).at F).post enc Tryd.prog Tryd.f7 false true false false) := by
  obtain ⟨places, hx⟩ := fnBoxesSame_reads os enc
  refine returnsInHanded_of_row (C := Tryd.checked) (s := OpenSpec.ofChange Rows.fnBoxesSameSpec) own started (by kernel_rfl) Tryd.func7
    (witness_row_at (enc := enc) (C := Tryd.checked) false (laidWorld3 os) #[.slice none 0 0] rfl (by kernel_rfl) (by kernel_rfl) (by kernel_rfl)
      (OpenSpec.preRow_of_cond 8 hx (by kernel_rfl) (fun k hk => by cases hk) (by kernel_rfl) (fnBoxesSame_met os))) ?_
  intro W base args ds gs before hval hW _ _ _ hL hsh _
  exact fnBoxesSame_contract H enc W base args ds gs before hval hW hL hsh
theorem fnBoxesSame_said : Rows.FnBoxesSameSaid :=
  OpenClaim.holds_of_cond 7 Tryd.f7 rfl rfl rfl rfl rfl rfl rfl ⟨rfl, rfl, rfl, rfl, rfl⟩ rfl rfl rfl rfl rfl (by kernel_rfl) Tryd.func7 (by kernel_rfl)
    (of_decide_eq_true (by kernel_rfl)) (by unfold Func.isWrapper; first | (rw [if_pos (by decide +kernel)]; kernel_rfl) | (rw [if_neg (by decide +kernel)]; exact ⟨rfl, rfl⟩))
    (fun os started H enc _ F => by rw [OpenClaim.pre_eq_preRow]; exact fnBoxesSame_lifted os started H enc F)
theorem fnBoxesSame_plain (f : FuncId) (fn : Func) (hf : Tryd.pinned.checked.prog.funcNamed "loop.example/mailwire/laws.FnBoxesSame" = some f) (hfn : Tryd.pinned.checked.prog.funcs[f]? = some fn) :
    false = Tryd.pinned.checked.prog.looks [] ∧ ∀ (j : Nat) t, fn.params[j]? = some t → Tryd.pinned.checked.prog.wantsStandIn t = false := by
  obtain rfl : f = 7 := Option.some.inj ((show Tryd.prog.funcNamed "loop.example/mailwire/laws.FnBoxesSame" = some 7 by kernel_rfl).symm.trans hf) |>.symm
  obtain rfl : fn = Tryd.f7 := (Option.some.inj (Tryd.func7.symm.trans hfn)).symm
  refine ⟨by kernel_rfl, fun j t ht => ?_⟩
  rw [Tryd.params7] at ht
  have hm := Array.mem_of_getElem? ht
  simp only [List.mem_toArray, List.mem_cons, List.not_mem_nil, or_false] at hm
  rcases hm with rfl
  · exact (show Tryd.prog.wantsStandIn 22 = false by kernel_rfl)
/-- FnBoxesSame: THE STATEMENT. -/
theorem fnBoxesSame_card : Rows.FnBoxesSameCardSaid :=
  Claim7.holds_tied_plain_at .later [] _ _ _ _ fnBoxesSame_said (fun _ h => by cases h) (by kernel_rfl) (fun _ h => by cases h) fnBoxesSame_row_tie rfl ⟨rfl, rfl⟩ (by kernel_rfl) rfl fnBoxesSame_plain (by kernel_rfl)
end Go.Proofs.YtbfjbabpeigloabDoor
