/-
  The exact law of chapter 5 on bytes read in a way: its walk. For every input of the law: it returns true, and the input reads as it did. Conditions: none but the statement's own.
-/
import Derived.Test.YtjnpkmenlecdmabLaw0c
import Derived.Test.YtjnpkmenlecdmabCodY
import Derived.Test.YtjnpkmenlecdmabLists
import Derived.SliceStrings
namespace Go.Proofs.Ytjnpkmenlecdmab
open Go.ChangeShapes Go.WideShapes Go.ChangeAt Go.RowKit
open Go.ChangeMaps (open_string shut_string)

set_option maxRecDepth 100000 in
set_option maxHeartbeats 4000000 in
theorem fnExactDecodeBytes_walk (a : Option Addr) (n c : Nat) (xs : List (List UInt8)) (q : Int) (w : World) (hr : RdL w a n xs) (hn : n ≤ maxLen) (hx : ∀ j, (hj : j < xs.length) → xs[j].length ≤ maxLen) (_ : (Lit.int .i64 q).wf = true) :
    Calls Try.prog 5 #[.slice a n c, .int .i64 q] w fun e w' => e = .returned (.bool true) ∧ Below w.heap.size w w' := by
  go_enter Try.func5, Try.ntmps5
  go_wp2_with fail
  refine (szStringS_any a n c xs 1048576 _ hr hn (by omega) (by omega) hx).mono ?_
  rintro e w1 ⟨r, rfl, hr1, hr2, hsz, rfl⟩
  by_cases hneg : r < 0
  · go_wp2
    go_ret
    exact ⟨rfl, Below.refl _ _⟩
  · obtain ⟨hnl, hxl⟩ := hsz (by omega)
    have hlen := hr.1
    have HN : Hid (n ≤ 1073741824) := by show n ≤ _; omega
    have HX : Hid (∀ x ∈ xs, x.length ≤ 1073741000) := fun x hx => by have := hxl x hx; omega
    have HL2 : Hid (xs.length ≤ 1073741824) := by show _ ≤ _; omega
    have HMX : Hid (xs.length ≤ maxLen) := by show _ ≤ _; unfold maxLen; omega
    have HR := Lib.hid hr
    have HI1 : Hid (∀ (b : Option Addr) (c : Nat) (u : World), xs.length ≤ c → RdL u b xs.length xs → Calls Try.prog 13 #[.slice b xs.length c, .int .i64 q] u (DecRet (decW xs q) u)) := fun b c u hc h => decodeBytes_any b _ c xs q u h hc HL2.out HX.out
    have HI2 : Hid (∀ (b : Option Addr) (c : Nat) (u : World), RdL u b xs.length xs → Calls Try.prog 12 #[.slice b xs.length c, .int .i64 q] u (DecRet (decW xs q) u)) := fun b c u h => decodeBytesS_any b _ c xs q u h HL2.out HX.out
    clear hsz hnl hxl hlen hx hr
    generalize hdd : decW xs q = dd at *
    have hee : ((str (dd.getD [])).toList == (str (dd.getD [])).toList) = true := by simp
    have hne : ((str (dd.getD [])).toList != (str (dd.getD [])).toList) = false := by simp
    clear hdd
    go_wp2_with fail
    refine (toStringS_any a n c xs _ HR.out HN.out).mono ?_
    rintro e w1 ⟨a1, c1, rfl, ho1, hd1, hb1⟩
    go_wp2_with fail
    refine (HI2.out a1 c1 _ hd1).mono ?_
    rintro e w2 ⟨rfl, hb2⟩
    have hb12 := nx hb1 hb2
    go_wp2_with fail
    refine (toStringS_any a n c xs _ (HR.out.below hb12) HN.out).mono ?_
    rintro e w3 ⟨a3, c3, rfl, ho3, hd3, hb3⟩
    have hc3 : xs.length ≤ c3 := by
      rcases ho3.2 with ⟨hv, h0⟩ | ⟨g, cap, cur, hv, _, _, hq, _⟩
      · omega
      · injection hv with _ _ h3; omega
    have hb13 := nx hb12 hb3
    go_wp2_with fail
    refine (HI1.out a3 c3 _ hc3 hd3).mono ?_
    rintro e w4 ⟨rfl, hb4⟩
    have hb14 := nx hb13 hb4
    generalize str (dd.getD []) = ft at *
    generalize dd.isSome = ok at *
    go_wp2_with fail
    refine (toStringS_any a n c xs _ (HR.out.below hb14) HN.out).mono ?_
    rintro e w5 ⟨a5, c5, rfl, ho5, hd5, hb5⟩
    have hb15 := nx hb14 hb5
    have hd35 := (hd3.below hb4).below hb5
    go_wp2_with fail
    refine (eqStringS_any _ _ _ _ _ _ xs xs _ hd35 hd5 HMX.out HMX.out).mono ?_
    rintro e w6 ⟨rfl, hb6⟩
    rw [decide_eq_true (rfl : xs = xs)]
    go_wp2
    go_ret
    exact ⟨rfl, nx hb15 hb6⟩
set_option maxRecDepth 100000 in
theorem fnExactDecodeBytes_lifted (os : Os) (started : os.Started) (H : Type) (enc : TypeId × Value → H) :
    ReturnsInHanded {} Try.checked os 5 .any (Rows.fnExactDecodeBytesSpec.pre6 enc Try.prog Try.f5 Rows.fnExactDecodeBytesRow.domain false) (Rows.fnExactDecodeBytesSpec.post enc Try.prog Try.f5 false true false false) := by
  refine returnsInHanded_of_change (C := Try.checked) own started (by kernel_rfl) Try.func5
    (ChangeSpec.witness6 (enc := enc) (C := Try.checked) false ⟨#[], #[.slice none 0 0, .int .i64 0], []⟩ 8 (by kernel_rfl) (by kernel_rfl) (by kernel_rfl) (by kernel_rfl)) ?_
  intro W base args ds gs before hval0 hW hcnd _
  have hval : ∀ (j : Nat) t v, Try.f5.params[j]? = some t → args[j]? = some v → Value.okWide Try.prog W .any base t v := hval0
  have hW' := hW
  obtain ⟨p, q, hA0, hV, rfl, hfz, hnd⟩ := hW
  have hA : DataW.TrodAll enc Try.prog W 0 (fun _ => true) true Try.f5.params.toList args.toList ds p := hA0
  rw [Try.params5] at hA hval
  obtain ⟨v0, vs0, d0, ds0, p0, q0, hargs, rfl, rfl, h0, r0⟩ := trodAll_cons hA
  obtain ⟨v1, vs1, d1, ds1, p1, q1, rfl, rfl, rfl, h1, r1⟩ := trodAll_cons r0
  obtain ⟨rfl, rfl, rfl⟩ := trodAll_nil r1
  obtain rfl : args = #[v0, v1] := by cases args; simp_all
  obtain ⟨rfl, rfl⟩ := trodVars_none hV
  obtain ⟨a0, n0, c0, rfl⟩ := okWide_slice Try.underlying23 (hval 0 23 v0 rfl rfl)
  have k0 := h0
  have lt0 : ∀ x ∈ p0, x.block < W.heap.size := by obtain ⟨m, hm⟩ := k0; exact DataW.trod_lt m _ _ _ hm
  obtain ⟨l0, w0, x0, y0⟩ := strs_of_trod Try.underlying23 Try.underlying9 (by kernel_rfl) h0
  obtain ⟨a1, rfl, rfl, rfl, w1⟩ := open_int Try.underlying3 (hval 1 3 v1 rfl rfl) h1
  clear hA0 hval0
  refine (fnExactDecodeBytes_walk a0 n0 c0 l0 a1 W w0 x0 y0 w1).mono fun e W' ⟨he, bel⟩ => ?_
  subst he
  exact ⟨_, rfl, _, _, _, [], _, [], hW', trodAll_mk1 (shut_bool Try.underlying4 _), (trodAll_cons_mk (Below.trod laidOut (by kernel_rfl) (of_decide_eq_true (by kernel_rfl)) k0 bel lt0) (trodAll_cons_mk (shut_int Try.underlying3 w1) trodAll_mk0)), rfl, bel.frame _, fun h => by cases h⟩
/-- FnExactDecodeBytes: THE STATEMENT. -/
theorem fnExactDecodeBytes_holds : Rows.FnExactDecodeBytesSaid :=
  OpenClaim.holds_of_wide 5 Try.f5 rfl rfl rfl rfl rfl rfl rfl ⟨rfl, rfl, rfl, rfl, rfl⟩ rfl rfl rfl rfl rfl (by kernel_rfl) Try.func5 (by kernel_rfl)
    (of_decide_eq_true (by kernel_rfl)) (by unfold Func.isWrapper; first | (rw [if_pos (by decide +kernel)]; kernel_rfl) | (rw [if_neg (by decide +kernel)]; exact ⟨rfl, rfl⟩))
    (fun os started H enc _ => fnExactDecodeBytes_lifted os started H enc)
end Go.Proofs.Ytjnpkmenlecdmab
