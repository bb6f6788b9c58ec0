/-
  The exact laws of chapter 7 on parts: each law's walk. For every input of the law: it returns true, and the input reads as it did. Conditions: none but the statement's own.
-/
import Derived.Test.YtdoclfbfhlgejadListsS
import Derived.Deep.Slices
namespace Go.Proofs.Ytdoclfbfhlgejad
open Go.ChangeShapes Go.WideShapes Go.ChangeAt Go.RowKit
open Go.ChangeMaps (open_string shut_string)

theorem row_keepC {B C : Nat} {v : Value} {n : Nat} {us : List Value} {t : TypeId} {w w' : World} (h : w.ownsRow B t 1 v n us) (k : Below C w w') (hl : ∀ g, v.ownBlock = some g → g < C) : w'.ownsRow B t 1 v n us := by
  refine ⟨h.1, ?_⟩
  rcases h.2 with hn | ⟨g, cap, cur, hv, hg1, hg2, rest⟩
  · exact .inl hn
  · exact .inr ⟨g, cap, cur, hv, hg1, by rw [k.block g (hl g (by rw [hv]; rfl)), hg2], rest⟩
theorem OwnSS.keepC {B C : Nat} {v : Value} {us : List Value} {ps : List (List (List UInt8))} {w w' : World} (h : OwnSS B v us ps w) (k : Below C w w') (hv : ∀ g, v.ownBlock = some g → g < C) (hu : ∀ (i : Nat) u g, us[i]? = some u → u.ownBlock = some g → g < C) : OwnSS B v us ps w' :=
  ⟨row_keepC h.row k hv, fun i u p hiu hip => row_keepC (h.each i u p hiu hip) k (fun g hg => hu i u g hiu hg), h.off, h.apart⟩
/-- What was made before world C was reached stays, where only blocks from C on turn. -/
theorem OwnSS.old {B : Nat} {v : Value} {us : List Value} {ps : List (List (List UInt8))} {w0 w w' : World} (h0 : OwnSS B v us ps w0) (h : OwnSS B v us ps w) (k : Below w0.heap.size w w') : OwnSS B v us ps w' :=
  h.keepC k (fun g hg => (h0.lt.1 g hg).2) (fun i u g hu hg => (h0.lt.2 i u g hu hg).2)
theorem OwnL.old {B : Nat} {v : Value} {xs : List (List UInt8)} {w0 w w' : World} (h0 : OwnL B v xs w0) (h : OwnL B v xs w) (k : Below w0.heap.size w w') : OwnL B v xs w' :=
  row_keepC h k (fun g hg => (h0.lt g hg).2)
theorem OwnSS.rd {B : Nat} {a : Option Addr} {n c : Nat} {us : List Value} {ps : List (List (List UInt8))} {w : World} (h : OwnSS B (.slice a n c) us ps w) : RdSS w a n ps := by
  obtain ⟨a', c', e, hr, _⟩ := h.read
  injection e with e1 e2 e3
  subst e1 e2
  exact hr
theorem OwnL.rd {B : Nat} {a : Option Addr} {n c : Nat} {xs : List (List UInt8)} {w : World} (h : OwnL B (.slice a n c) xs w) : RdL w a n xs := by
  obtain ⟨a', c', e, hr, _⟩ := h.read
  injection e with e1 e2 e3
  subst e1 e2
  exact hr
set_option maxRecDepth 100000 in
set_option maxHeartbeats 2000000 in
theorem fnExactSplitParts_walk (a : Option Addr) (n c : Nat) (xs : List (List UInt8)) (s : ByteArray) (w : World) (hr : RdL w a n xs) (hn : n ≤ maxLen) (hx : ∀ j, (hj : j < xs.length) → xs[j].length ≤ maxLen) (hs : s.size ≤ maxLen) :
    Calls Try.prog 3 #[.slice a n c, .string s] w fun e w' => e = .returned (.bool true) ∧ Below w.heap.size w w' := by
  unfold maxLen at hs
  by_cases hbig : 1048576 < s.size
  · have hd : decide ((1048576 : Int) < s.size) = true := by simp; omega
    go_enter Try.func3, Try.ntmps3
    go_wp2
    go_ret
    exact ⟨rfl, Below.refl _ _⟩
  have hd : decide ((1048576 : Int) < s.size) = false := by simp; omega
  go_enter Try.func3, Try.ntmps3
  go_wp2_with fail
  refine (szStringS_any a n c xs 1048576 _ hr hn (by omega) (by omega) hx).mono ?_
  rintro e w0 ⟨r, rfl, hr1, hr2, hsz, rfl⟩
  by_cases hneg : r < 0
  · go_wp2
    go_ret
    exact ⟨rfl, Below.refl _ _⟩
  obtain ⟨hnl, _⟩ := hsz (by omega)
  have hlen := hr.1
  have hlen' := Int.ofNat_le.1 hnl
  have HN : Hid (n ≤ 1073741824) := by show n ≤ _; omega
  have HMX : Hid (xs.length ≤ maxLen) := by show _ ≤ _; unfold maxLen; omega
  have HX5 : Hid (1 + xs.length ≤ 1073741824) := by show _ ≤ _; omega
  have HR := Lib.hid hr
  have HIM : Hid (∀ u b c, RdL u b xs.length xs → Calls Try.prog 8 #[.slice b xs.length c, .string s] u (PartsRet (splitP xs s.data.toList) u)) := fun u b c h => splitParts_any b _ c xs s u h (by omega) (by omega)
  have HSP : Hid (∀ u b c, RdL u b xs.length xs → Calls Try.prog 6 #[.slice b xs.length c, .string s] u (PartsRet (splitP xs s.data.toList) u)) := fun u b c h => splitPartsS_any b _ c xs s u h (by omega) (by omega)
  have hps : sumP ((splitP xs s.data.toList).getD []) ≤ xs.length := by
    cases h : splitP xs s.data.toList with
    | none => exact Nat.zero_le _
    | some ps => have := splB_len _ _ _ (splitP_some h).2; show sumP ps ≤ _; omega
  generalize splitP xs s.data.toList = o at *
  have hsl := sumP_len (o.getD [])
  have HP2 : Hid ((o.getD []).length ≤ 2000000) := by show _ ≤ _; omega
  have HPX : Hid (∀ p ∈ o.getD [], p.length ≤ 2000000) := fun p hp => by have := sumP_mem hp; omega
  have HLK : Hid (1 + lensP (o.getD []) ≤ 1073741824) := by have := lensP_sum (o.getD []); show _ ≤ _; omega
  have HIM : Hid (∀ u b c, RdL u b xs.length xs → Calls Try.prog 8 #[.slice b xs.length c, .string s] u fun e w' => ∃ a4 c4 us4, e = .returned (.tuple #[.slice a4 (o.getD []).length c4, .bool o.isSome]) ∧ OwnSS u.heap.size (.slice a4 (o.getD []).length c4) us4 (o.getD []) w' ∧ Below u.heap.size u w') := fun u b c h => (HIM.out u b c h).mono fun e w' ⟨v, us, he, ho, hb⟩ => by
    obtain ⟨a4, c4, rfl, _⟩ := ho.read
    exact ⟨a4, c4, us, he, ho, hb⟩
  have HSP : Hid (∀ u b c, RdL u b xs.length xs → Calls Try.prog 6 #[.slice b xs.length c, .string s] u fun e w' => ∃ a4 c4 us4, e = .returned (.tuple #[.slice a4 (o.getD []).length c4, .bool o.isSome]) ∧ OwnSS u.heap.size (.slice a4 (o.getD []).length c4) us4 (o.getD []) w' ∧ Below u.heap.size u w') := fun u b c h => (HSP.out u b c h).mono fun e w' ⟨v, us, he, ho, hb⟩ => by
    obtain ⟨a4, c4, rfl, _⟩ := ho.read
    exact ⟨a4, c4, us, he, ho, hb⟩
  clear hps hsl hsz hnl hlen hlen' hr hx
  generalize o.getD [] = ps at *
  generalize o.isSome = ok at *
  obtain ⟨K, hK⟩ : ∃ K : Int, K = ((1 + lensP ps : Nat) : Int) := ⟨_, rfl⟩
  have hk2 : ¬ (K < 0) := by omega
  have e2 : (K != K) = false := by simp
  have HK := Lib.hid hK
  clear hK
  go_wp2_with fail
  refine (toStringS_any a n c xs _ HR.out HN.out).mono ?_
  rintro e w1 ⟨a1, c1, rfl, _, hd1, hb1⟩
  go_wp2_with fail
  refine (HSP.out _ a1 c1 hd1).mono ?_
  rintro e w2 ⟨a2, c2, us2, rfl, ho2, hb2⟩
  have hB2 := nx hb1 hb2
  have HO2 := Lib.hid ho2
  clear ho2 hd1
  go_wp2_with fail
  refine (toStringS_any a n c xs _ (HR.out.below hB2) HN.out).mono ?_
  rintro e w3 ⟨a3, c3, rfl, ho3, hd3, hb3⟩
  have hB3 := nx hB2 hb3
  have HO3 := Lib.hid ho3
  have HO23 := Lib.hid (HO2.out.keep hb3)
  clear ho3
  go_wp2_with fail
  refine (HIM.out _ a3 c3 hd3).mono ?_
  rintro e w4 ⟨a4, c4, us4, rfl, ho4, hb4⟩
  have hB4 := nx hB3 hb4
  have HO4 := Lib.hid ho4
  have HO24 := Lib.hid (HO23.out.keep hb4)
  have HO34 := Lib.hid (HO3.out.keep hb4)
  clear ho4 hd3
  go_wp2_with fail
  refine (eqStringSS_any a4 a2 _ c4 c2 ps _ HO4.out.rd HO24.out.rd HP2.out HPX.out).mono ?_
  rintro e w5 ⟨rfl, hb5⟩
  have hB5 := nx hB4 hb5
  have HO45 := Lib.hid (HO4.out.keep hb5)
  have HO25 := Lib.hid (HO24.out.keep hb5)
  have HO35 := Lib.hid (HO34.out.keep hb5)
  cases ok
  all_goals
    go_wp2_with fail
    refine (toStringS_any a n c xs _ (HR.out.below hB5) HN.out).mono ?_
    rintro e w6 ⟨a6, c6, rfl, _, hd6, hb6⟩
    have hB6 := nx hB5 hb6
    have HO46 := Lib.hid (HO45.out.keep hb6)
    have HO26 := Lib.hid (HO25.out.keep hb6)
    have HO36 := Lib.hid (HO35.out.keep hb6)
    have HD6 := Lib.hid hd6
    clear hd6
    go_wp2_with fail
    refine (eqStringS_any a3 a6 _ c3 _ c6 xs xs _ HO36.out.rd HD6.out HMX.out HMX.out).mono ?_
    rintro e w7 ⟨rfl, hb7⟩
    rw [decide_eq_true (rfl : xs = xs)]
    have hB7 := nx hB6 hb7
    have HO47 := Lib.hid (HO46.out.keep hb7)
    have HO27 := Lib.hid (HO26.out.keep hb7)
    have HO37 := Lib.hid (HO36.out.keep hb7)
    have hk1 : ¬ (((1 + xs.length : Nat) : Int) < 0) := by omega
    go_wp2_with fail
    refine (markStringS_only w2.heap.size a3 _ c3 xs 1 _ HO37.out rfl (by omega) HX5.out).mono ?_
    rintro e w8 ⟨rfl, _, ho8⟩
    have HB8 : Hid (Below w.heap.size w w8) := hB7.trans (ho8.below (fun g hg => by have := (HO3.out.lt g hg).1; have := hB2.size; omega) hB7.size)
    have HO28 : Hid (OwnSS w1.heap.size (.slice a2 ps.length c2) us2 ps w8) := HO2.out.old HO27.out (ho8.below (fun g hg => (HO3.out.lt g hg).1) (by have := hb3.size; have := hb4.size; have := hb5.size; have := hb6.size; have := hb7.size; omega))
    have HO48 : Hid (OwnSS w3.heap.size (.slice a4 ps.length c4) us4 ps w8) := HO47.out.grown (grown_only ho8) (fun g hg e => by have := (HO4.out.lt.1 g hg).1; have := (HO3.out.lt g e).2; omega) (fun i u g hu hg e => by have := (HO4.out.lt.2 i u g hu hg).1; have := (HO3.out.lt g e).2; omega)
    have hs8 := ho8.size
    clear ho8
    go_wp2_with fail
    refine (eqStringSS_any a4 a2 _ c4 c2 ps _ HO48.out.rd HO28.out.rd HP2.out HPX.out).mono ?_
    rintro e w9 ⟨rfl, hb9⟩
    have HB9 := Lib.hid (nx HB8.out hb9)
    have HO49 := Lib.hid (HO48.out.keep hb9)
    have HO29 := Lib.hid (HO28.out.keep hb9)
    go_wp2_with fail
    refine (markStringSS_any w3.heap.size a4 _ c4 us4 ps 1 _ HO49.out rfl HP2.out (by omega) HLK.out).mono ?_
    rintro e w10 ⟨rfl, ho10, ht10⟩
    have hs9 : w3.heap.size ≤ w9.heap.size := by have := hb9.size; have := hb4.size; have := hb5.size; have := hb6.size; have := hb7.size; omega
    have hbt : Below w3.heap.size w9 w10 := ht10.below (fun i u g hu hg => (HO4.out.lt.2 i u g hu hg).1) hs9
    have HB10 : Hid (Below w.heap.size w w10) := HB9.out.trans (hbt.mono hB3.size)
    have HO210 : Hid (OwnSS w1.heap.size (.slice a2 ps.length c2) us2 ps w10) := HO23.out.old HO29.out hbt
    have HO410 := Lib.hid ho10
    clear ho10 ht10 hbt
    rw [← HK.out]
    go_wp2_with fail
    refine (heldStringSS_any a4 _ c4 ps 1 _ HO410.out.rd HP2.out (by omega) HLK.out).mono ?_
    rintro e w11 ⟨rfl, hb11⟩
    rw [← HK.out]
    have HB11 := Lib.hid (nx HB10.out hb11)
    have HO211 := Lib.hid (HO210.out.keep hb11)
    have HO411 := Lib.hid (HO410.out.keep hb11)
    go_wp2_with fail
    refine (toStringS_any a n c xs _ (HR.out.below HB11.out) HN.out).mono ?_
    rintro e w12 ⟨a12, c12, rfl, _, hd12, hb12⟩
    have HD12 := Lib.hid hd12
    have HB12 := Lib.hid (nx HB11.out hb12)
    have HO212 := Lib.hid (HO211.out.keep hb12)
    have HO412 := Lib.hid (HO411.out.keep hb12)
    clear hd12
    go_wp2_with fail
    refine (HIM.out _ a12 c12 HD12.out).mono ?_
    rintro e w13 ⟨a13, c13, us13, rfl, ho13, hb13⟩
    have HO13 := Lib.hid ho13
    have HB13 := Lib.hid (nx HB12.out hb13)
    have HO213 := Lib.hid (HO212.out.keep hb13)
    have HO413 := Lib.hid (HO412.out.keep hb13)
    clear ho13
    go_wp2_with fail
    refine (eqStringSS_any a13 a2 _ c13 c2 ps _ HO13.out.rd HO213.out.rd HP2.out HPX.out).mono ?_
    rintro e w14 ⟨rfl, hb14⟩
    have HB14 := Lib.hid (nx HB13.out hb14)
    have HO414 := Lib.hid (HO413.out.keep hb14)
    go_wp2_with fail
    refine (heldStringSS_any a4 _ c4 ps 1 _ HO414.out.rd HP2.out (by omega) HLK.out).mono ?_
    rintro e w15 ⟨rfl, hb15⟩
    rw [← HK.out]
    go_wp2
    go_ret
    exact ⟨rfl, nx HB14.out hb15⟩
set_option maxRecDepth 100000 in
theorem fnExactSplitParts_lifted (os : Os) (started : os.Started) (H : Type) (enc : TypeId × Value → H) :
    ReturnsInHanded {} Try.checked os 3 .any (Rows.fnExactSplitPartsSpec.pre6 enc Try.prog Try.f3 Rows.fnExactSplitPartsRow.domain false) (Rows.fnExactSplitPartsSpec.post enc Try.prog Try.f3 false true false false) := by
  refine returnsInHanded_of_change (C := Try.checked) own started (by kernel_rfl) Try.func3
    (ChangeSpec.witness6 (enc := enc) (C := Try.checked) false ⟨#[], #[.slice none 0 0, .string ByteArray.empty], []⟩ 8 (by kernel_rfl) (by kernel_rfl) (by kernel_rfl) (by kernel_rfl)) ?_
  intro W base args ds gs before hval0 hW hcnd _
  have hval : ∀ (j : Nat) t v, Try.f3.params[j]? = some t → args[j]? = some v → Value.okWide Try.prog W .any base t v := hval0
  have hW' := hW
  obtain ⟨p, q, hA0, hV, rfl, hfz, hnd⟩ := hW
  have hA : DataW.TrodAll enc Try.prog W 0 (fun _ => true) true Try.f3.params.toList args.toList ds p := hA0
  rw [Try.params3] at hA hval
  obtain ⟨v0, vs0, d0, ds0, p0, q0, hargs, rfl, rfl, h0, r0⟩ := trodAll_cons hA
  obtain ⟨v1, vs1, d1, ds1, p1, q1, rfl, rfl, rfl, h1, r1⟩ := trodAll_cons r0
  obtain ⟨rfl, rfl, rfl⟩ := trodAll_nil r1
  obtain rfl : args = #[v0, v1] := by cases args; simp_all
  obtain ⟨rfl, rfl⟩ := trodVars_none hV
  obtain ⟨a0, n0, c0, rfl⟩ := okWide_slice Try.underlying22 (hval 0 22 v0 rfl rfl)
  have k0 := h0
  have lt0 : ∀ x ∈ p0, x.block < W.heap.size := by obtain ⟨m, hm⟩ := k0; exact DataW.trod_lt m _ _ _ hm
  obtain ⟨l0, w0, x0, y0⟩ := strs_of_trod Try.underlying22 Try.underlying9 (by kernel_rfl) h0
  obtain ⟨a1, rfl, rfl, rfl, w1⟩ := open_string Try.underlying9 (hval 1 9 v1 rfl rfl) h1
  clear hA0 hval0
  refine (fnExactSplitParts_walk a0 n0 c0 l0 a1 W w0 x0 y0 w1).mono fun e W' ⟨he, bel⟩ => ?_
  subst he
  exact ⟨_, rfl, _, _, _, [], _, [], hW', trodAll_mk1 (shut_bool Try.underlying4 _), (trodAll_cons_mk (Below.trod laidOut (by kernel_rfl) (of_decide_eq_true (by kernel_rfl)) k0 bel lt0) (trodAll_cons_mk (shut_string Try.underlying9 w1) trodAll_mk0)), rfl, bel.frame _, fun h => by cases h⟩
/-- FnExactSplitParts: THE STATEMENT. -/
theorem fnExactSplitParts_holds : Rows.FnExactSplitPartsSaid :=
  OpenClaim.holds_of_wide 3 Try.f3 rfl rfl rfl rfl rfl rfl rfl ⟨rfl, rfl, rfl, rfl, rfl⟩ rfl rfl rfl rfl rfl (by kernel_rfl) Try.func3 (by kernel_rfl)
    (of_decide_eq_true (by kernel_rfl)) (by unfold Func.isWrapper; first | (rw [if_pos (by decide +kernel)]; kernel_rfl) | (rw [if_neg (by decide +kernel)]; exact ⟨rfl, rfl⟩))
    (fun os started H enc _ => fnExactSplitParts_lifted os started H enc)
set_option maxRecDepth 100000 in
theorem strs_cell {H : Type} {enc : TypeId × Value → H} {W : World} {f : Nat} {cs : List Value} {x : DataW H × List MemPlace} (h : DataW.trod enc Try.prog W 0 (fun _ => true) true f 22 cs = some x) :
    ∃ a n c xs, cs = [.slice a n c] ∧ RdL W a n xs ∧ (a = none → c = 0) ∧ n ≤ c ∧ n ≤ maxLen ∧ ∀ j, (hj : j < xs.length) → xs[j].length ≤ maxLen := by
  rcases DataW.trod_slice Try.underlying22 h with ⟨rfl, _⟩ | ⟨q, len, cap, _, _, _, _, rfl, _, _, hl, _⟩
  · exact ⟨none, 0, 0, [], rfl, ⟨rfl, .inl rfl⟩, fun _ => rfl, Nat.le_refl _, by unfold maxLen; omega, fun j hj => by simp at hj⟩
  · obtain ⟨d, p⟩ := x
    obtain ⟨xs, h1, h2, h3⟩ := strs_of_trod (T := 22) (E := 9) (a := some q) (n := len) (c := cap) (d := d) (p := p) Try.underlying22 Try.underlying9 (by kernel_rfl) ⟨f, h⟩
    exact ⟨some q, len, cap, xs, rfl, h1, (fun e => by cases e), hl, h2, h3⟩
set_option maxRecDepth 100000 in
theorem strss_of_trod {H : Type} {enc : TypeId × Value → H} {W : World} {a : Option Addr} {n c : Nat} {d : DataW H} {p : List MemPlace}
    (h : DataW.Trod enc Try.prog W 0 (fun _ => true) true 24 (Value.slice a n c) d p) : ∃ ps, RdSS W a n ps ∧ n ≤ maxLen ∧ ∀ p ∈ ps, p.length ≤ maxLen ∧ ∀ j, (hj : j < p.length) → p[j].length ≤ maxLen := by
  obtain ⟨fuel, hf⟩ := h
  have hC : Try.prog.cellsOf 22 = 1 := by kernel_rfl
  rcases Go.Deep.open_slice Try.underlying24 hf with ⟨hcs, _⟩ | ⟨x, l, k, m, f, D, Pl, hcs, _, hl, hm, hmm, _, hi⟩
  · simp [Value.cells] at hcs
    obtain ⟨rfl, rfl, rfl⟩ := hcs
    exact ⟨[], ⟨rfl, .inl rfl⟩, Nat.zero_le _, fun j hj => by simp at hj⟩
  · simp [Value.cells] at hcs
    obtain ⟨rfl, rfl, rfl⟩ := hcs
    have hmm' : m = c := by simpa using hmm
    subst hmm'
    have hq : ∀ i, i < m → ∃ y : List (List UInt8), (y.length ≤ maxLen ∧ ∀ j, (hj : j < y.length) → y[j].length ≤ maxLen) ∧ ∃ a' c', W.cell? (x.add i) = some (.slice a' y.length c') ∧ RdL W a' y.length y ∧ (a' = none → c' = 0) ∧ y.length ≤ c' := by
      intro i him
      obtain ⟨cs', hc, ht'⟩ := hi i him
      rw [hC, Nat.mul_one] at hc
      obtain ⟨a', n', c', xs, rfl, h1, h2, h3, h4, h5⟩ := strs_cell ht'
      have hl' := h1.1
      subst hl'
      refine ⟨xs, ⟨h4, h5⟩, a', c', ?_, h1, h2, h3⟩
      exact cell_of_cells?_one hc
    obtain ⟨b, off, spot⟩ := x
    refine ⟨(List.range n).map (fun i => if h : i < m then Classical.choose (hq i h) else []), ⟨by simp, ?_⟩, by omega, fun y hy => ?_⟩
    · by_cases h0 : n = 0
      · exact .inl h0
      · obtain ⟨_, _, a0, c0, hc0, _⟩ := hq 0 (by omega)
        have hspot : spot = none := by simpa [Addr.add] using World.cell?_spot hc0
        subst hspot
        rw [addr_add] at hc0
        refine .inr ⟨b, off, rfl, lt_of_cell hc0, fun i hi' => ?_⟩
        have hin : i < n := by simpa using hi'
        have him : i < m := by omega
        rw [List.getElem_map, List.getElem_range, dif_pos him]
        obtain ⟨a', c', g1, g2, g3, g4⟩ := (Classical.choose_spec (hq i him)).2
        exact ⟨a', c', (congrArg W.cell? (addr_add b off i)).symm.trans g1, g2, g3, g4⟩
    · obtain ⟨i, hi', rfl⟩ := List.mem_map.1 hy
      have hin : i < n := by simpa using hi'
      rw [dif_pos (by omega : i < m)]
      exact (Classical.choose_spec (hq i (by omega))).1
set_option maxRecDepth 100000 in
set_option maxHeartbeats 2000000 in
theorem fnExactJoinParts_walk (a : Option Addr) (n c : Nat) (ps : List (List (List UInt8))) (s : ByteArray) (w : World) (hr : RdSS w a n ps) (hn : n ≤ maxLen) (hx : ∀ p ∈ ps, p.length ≤ maxLen ∧ ∀ j, (hj : j < p.length) → p[j].length ≤ maxLen) (hs : s.size ≤ maxLen) :
    Calls Try.prog 4 #[.slice a n c, .string s] w fun e w' => e = .returned (.bool true) ∧ Below w.heap.size w w' := by
  unfold maxLen at hs
  by_cases hbig : 1048576 < s.size
  · have hd : decide ((1048576 : Int) < s.size) = true := by simp; omega
    go_enter Try.func4, Try.ntmps4
    go_wp2
    go_ret
    exact ⟨rfl, Below.refl _ _⟩
  have hd : decide ((1048576 : Int) < s.size) = false := by simp; omega
  go_enter Try.func4, Try.ntmps4
  go_wp2_with fail
  refine (szStringSS_any a n c ps 1048576 _ hr hn (by omega) (by omega) hx).mono ?_
  rintro e w0 ⟨r, rfl, hr1, hr2, hsz, rfl⟩
  by_cases hneg : r < 0
  · go_wp2
    go_ret
    exact ⟨rfl, Below.refl _ _⟩
  have hnl := hsz (by omega)
  have hlen := hr.1
  have hlen' : sumP ps ≤ 1048576 := by omega
  have hsl := sumP_len ps
  have HN : Hid (n ≤ 2000000) := by show n ≤ _; omega
  have HP2 : Hid (ps.length ≤ 2000000) := by show _ ≤ _; omega
  have HPX : Hid (∀ p ∈ ps, p.length ≤ 2000000) := fun p hp => by have := sumP_mem hp; omega
  have HPX3 : Hid (∀ p ∈ ps, p.length ≤ 1073741824) := fun p hp => by have := sumP_mem hp; omega
  have HLK : Hid (1 + lensP ps ≤ 1073741824) := by have := lensP_sum ps; show _ ≤ _; omega
  have HR := Lib.hid hr
  have HIM : Hid (∀ u b c, RdSS u b ps.length ps → Calls Try.prog 17 #[.slice b ps.length c, .string s] u (LinesRet (joinP ps s.data.toList) u)) := fun u b c h => joinParts_any b _ c ps s u h (by omega) (by omega) (by omega)
  have HSP : Hid (∀ u b c, RdSS u b ps.length ps → Calls Try.prog 15 #[.slice b ps.length c, .string s] u (LinesRet (joinP ps s.data.toList) u)) := fun u b c h => joinPartsS_any b _ c ps s u h (by omega) (by omega) (by omega)
  have hps : ((joinP ps s.data.toList).getD []).length ≤ sumP ps + 1 := by
    cases h : joinP ps s.data.toList with
    | none => exact Nat.zero_le _
    | some ls =>
      obtain ⟨_, _, _, e⟩ := joinP_some h
      show ls.length ≤ _
      rw [e, joinsP_sum]; exact Nat.le_refl _
  generalize joinP ps s.data.toList = o at *
  have HMX : Hid ((o.getD []).length ≤ maxLen) := by show _ ≤ _; unfold maxLen; omega
  have HX5 : Hid (1 + (o.getD []).length ≤ 1073741824) := by show _ ≤ _; omega
  have HIM : Hid (∀ u b c, RdSS u b ps.length ps → Calls Try.prog 17 #[.slice b ps.length c, .string s] u fun e w' => ∃ a4 c4, e = .returned (.tuple #[.slice a4 (o.getD []).length c4, .bool o.isSome]) ∧ OwnL u.heap.size (.slice a4 (o.getD []).length c4) (o.getD []) w' ∧ Below u.heap.size u w') := fun u b c h => (HIM.out u b c h).mono fun e w' ⟨v, he, ho, hb⟩ => by
    obtain ⟨a4, c4, rfl, _⟩ := ho.read
    exact ⟨a4, c4, he, ho, hb⟩
  have HSP : Hid (∀ u b c, RdSS u b ps.length ps → Calls Try.prog 15 #[.slice b ps.length c, .string s] u fun e w' => ∃ a4 c4, e = .returned (.tuple #[.slice a4 (o.getD []).length c4, .bool o.isSome]) ∧ OwnL u.heap.size (.slice a4 (o.getD []).length c4) (o.getD []) w' ∧ Below u.heap.size u w') := fun u b c h => (HSP.out u b c h).mono fun e w' ⟨v, he, ho, hb⟩ => by
    obtain ⟨a4, c4, rfl, _⟩ := ho.read
    exact ⟨a4, c4, he, ho, hb⟩
  clear hps hsl hsz hnl hlen hlen' hr hx
  generalize o.getD [] = xs at *
  generalize o.isSome = ok at *
  obtain ⟨K, hK⟩ : ∃ K : Int, K = ((1 + lensP ps : Nat) : Int) := ⟨_, rfl⟩
  have hk2 : ¬ (K < 0) := by omega
  have HK := Lib.hid hK
  clear hK
  obtain ⟨M, hM⟩ : ∃ M : Int, M = ((1 + xs.length : Nat) : Int) := ⟨_, rfl⟩
  have hk3 : ¬ (M < 0) := by omega
  have e2 : (M != M) = false := by simp
  have HM := Lib.hid hM
  clear hM
  go_wp2_with fail
  refine (toStringSS_any a n c ps _ HR.out HN.out HPX3.out).mono ?_
  rintro e w1 ⟨a1, c1, us1, rfl, _, hd1, hb1⟩
  go_wp2_with fail
  refine (HSP.out _ a1 c1 hd1).mono ?_
  rintro e w2 ⟨a2, c2, rfl, ho2, hb2⟩
  have hB2 := nx hb1 hb2
  have HO2 := Lib.hid ho2
  clear ho2 hd1
  go_wp2_with fail
  refine (toStringSS_any a n c ps _ (HR.out.below hB2) HN.out HPX3.out).mono ?_
  rintro e w3 ⟨a3, c3, us3, rfl, ho3, hd3, hb3⟩
  have hB3 := nx hB2 hb3
  have HO3 := Lib.hid ho3
  have HO23 := Lib.hid (HO2.out.keep hb3)
  clear ho3
  go_wp2_with fail
  refine (HIM.out _ a3 c3 hd3).mono ?_
  rintro e w4 ⟨a4, c4, rfl, ho4, hb4⟩
  have hB4 := nx hB3 hb4
  have HO4 := Lib.hid ho4
  have HO24 := Lib.hid (HO23.out.keep hb4)
  have HO34 := Lib.hid (HO3.out.keep hb4)
  clear ho4 hd3
  go_wp2_with fail
  refine (eqStringS_any a4 a2 _ c4 _ c2 xs xs _ HO4.out.rd HO24.out.rd HMX.out HMX.out).mono ?_
  rintro e w5 ⟨rfl, hb5⟩
  rw [decide_eq_true (rfl : xs = xs)]
  have hB5 := nx hB4 hb5
  have HO45 := Lib.hid (HO4.out.keep hb5)
  have HO25 := Lib.hid (HO24.out.keep hb5)
  have HO35 := Lib.hid (HO34.out.keep hb5)
  cases ok
  all_goals
    go_wp2_with fail
    refine (toStringSS_any a n c ps _ (HR.out.below hB5) HN.out HPX3.out).mono ?_
    rintro e w6 ⟨a6, c6, us6, rfl, _, hd6, hb6⟩
    have hB6 := nx hB5 hb6
    have HO46 := Lib.hid (HO45.out.keep hb6)
    have HO26 := Lib.hid (HO25.out.keep hb6)
    have HO36 := Lib.hid (HO35.out.keep hb6)
    have HD6 := Lib.hid hd6
    clear hd6
    go_wp2_with fail
    refine (eqStringSS_any a3 a6 _ c3 c6 ps _ HO36.out.rd HD6.out HP2.out HPX.out).mono ?_
    rintro e w7 ⟨rfl, hb7⟩
    have hB7 := nx hB6 hb7
    have HO47 := Lib.hid (HO46.out.keep hb7)
    have HO27 := Lib.hid (HO26.out.keep hb7)
    have HO37 := Lib.hid (HO36.out.keep hb7)
    go_wp2_with fail
    refine (markStringSS_any w2.heap.size a3 _ c3 us3 ps 1 _ HO37.out rfl HP2.out (by omega) HLK.out).mono ?_
    rintro e w8 ⟨rfl, _, ho8⟩
    rw [← HK.out]
    have hsz7 : w2.heap.size ≤ w7.heap.size := by have := hb3.size; have := hb4.size; have := hb5.size; have := hb6.size; have := hb7.size; omega
    have hbt : Below w2.heap.size w7 w8 := ho8.below (fun i u g hu hg => (HO3.out.lt.2 i u g hu hg).1) hsz7
    have HB8 : Hid (Below w.heap.size w w8) := hB7.trans (hbt.mono hB2.size)
    have HO28 : Hid (OwnL w1.heap.size (.slice a2 xs.length c2) xs w8) := HO2.out.old HO27.out hbt
    have HO48 : Hid (OwnL w3.heap.size (.slice a4 xs.length c4) xs w8) := HO47.out.onlySS ho8 (fun g hg i u hu e => by have := (HO4.out.lt g hg).1; have := (HO3.out.lt.2 i u g hu e).2; omega)
    have hs8 := ho8.size
    clear ho8 hbt
    go_wp2_with fail
    refine (eqStringS_any a4 a2 _ c4 _ c2 xs xs _ HO48.out.rd HO28.out.rd HMX.out HMX.out).mono ?_
    rintro e w9 ⟨rfl, hb9⟩
    rw [decide_eq_true (rfl : xs = xs)]
    have HB9 := Lib.hid (nx HB8.out hb9)
    have HO49 := Lib.hid (HO48.out.keep hb9)
    have HO29 := Lib.hid (HO28.out.keep hb9)
    go_wp2_with fail
    refine (markStringS_only w3.heap.size a4 _ c4 xs 1 _ HO49.out rfl (by omega) HX5.out).mono ?_
    rintro e w10 ⟨rfl, ho10, ht10⟩
    rw [← HM.out]
    have hs9 : w3.heap.size ≤ w9.heap.size := by have := hb9.size; have := hb4.size; have := hb5.size; have := hb6.size; have := hb7.size; omega
    have hbt : Below w3.heap.size w9 w10 := ht10.below (fun g hg => (HO4.out.lt g hg).1) hs9
    have HB10 : Hid (Below w.heap.size w w10) := HB9.out.trans (hbt.mono hB3.size)
    have HO210 : Hid (OwnL w1.heap.size (.slice a2 xs.length c2) xs w10) := HO23.out.old HO29.out hbt
    have HO410 : Hid (RdL w10 a4 xs.length (marksFrom 1 xs.length)) := by
      obtain ⟨a', c', e, hr', _⟩ := ho10.read
      injection e with e1 _ _
      subst e1
      rw [marksFrom_len] at hr'
      exact hr'
    clear ho10 ht10 hbt
    go_wp2_with fail
    refine (heldStringS_any a4 _ c4 1 _ HO410.out (by omega) HX5.out).mono ?_
    rintro e w11 ⟨rfl, hb11⟩
    rw [← HM.out]
    have HB11 := Lib.hid (nx HB10.out hb11)
    have HO211 := Lib.hid (HO210.out.keep hb11)
    have HO411 := Lib.hid (HO410.out.below hb11)
    go_wp2_with fail
    refine (toStringSS_any a n c ps _ (HR.out.below HB11.out) HN.out HPX3.out).mono ?_
    rintro e w12 ⟨a12, c12, us12, rfl, _, hd12, hb12⟩
    have HD12 := Lib.hid hd12
    have HB12 := Lib.hid (nx HB11.out hb12)
    have HO212 := Lib.hid (HO211.out.keep hb12)
    have HO412 := Lib.hid (HO411.out.below hb12)
    clear hd12
    go_wp2_with fail
    refine (HIM.out _ a12 c12 HD12.out).mono ?_
    rintro e w13 ⟨a13, c13, rfl, ho13, hb13⟩
    have HO13 := Lib.hid ho13
    have HB13 := Lib.hid (nx HB12.out hb13)
    have HO213 := Lib.hid (HO212.out.keep hb13)
    have HO413 := Lib.hid (HO412.out.below hb13)
    clear ho13
    go_wp2_with fail
    refine (eqStringS_any a13 a2 _ c13 _ c2 xs xs _ HO13.out.rd HO213.out.rd HMX.out HMX.out).mono ?_
    rintro e w14 ⟨rfl, hb14⟩
    rw [decide_eq_true (rfl : xs = xs)]
    have HB14 := Lib.hid (nx HB13.out hb14)
    have HO414 := Lib.hid (HO413.out.below hb14)
    go_wp2_with fail
    refine (heldStringS_any a4 _ c4 1 _ HO414.out (by omega) HX5.out).mono ?_
    rintro e w15 ⟨rfl, hb15⟩
    rw [← HM.out]
    go_wp2
    go_ret
    exact ⟨rfl, nx HB14.out hb15⟩
set_option maxRecDepth 100000 in
theorem fnExactJoinParts_lifted (os : Os) (started : os.Started) (H : Type) (enc : TypeId × Value → H) :
    ReturnsInHanded {} Try.checked os 4 .any (Rows.fnExactJoinPartsSpec.pre6 enc Try.prog Try.f4 Rows.fnExactJoinPartsRow.domain false) (Rows.fnExactJoinPartsSpec.post enc Try.prog Try.f4 false true false false) := by
  refine returnsInHanded_of_change (C := Try.checked) own started (by kernel_rfl) Try.func4
    (ChangeSpec.witness6 (enc := enc) (C := Try.checked) false ⟨#[], #[.slice none 0 0, .string ByteArray.empty], []⟩ 8 (by kernel_rfl) (by kernel_rfl) (by kernel_rfl) (by kernel_rfl)) ?_
  intro W base args ds gs before hval0 hW hcnd _
  have hval : ∀ (j : Nat) t v, Try.f4.params[j]? = some t → args[j]? = some v → Value.okWide Try.prog W .any base t v := hval0
  have hW' := hW
  obtain ⟨p, q, hA0, hV, rfl, hfz, hnd⟩ := hW
  have hA : DataW.TrodAll enc Try.prog W 0 (fun _ => true) true Try.f4.params.toList args.toList ds p := hA0
  rw [Try.params4] at hA hval
  obtain ⟨v0, vs0, d0, ds0, p0, q0, hargs, rfl, rfl, h0, r0⟩ := trodAll_cons hA
  obtain ⟨v1, vs1, d1, ds1, p1, q1, rfl, rfl, rfl, h1, r1⟩ := trodAll_cons r0
  obtain ⟨rfl, rfl, rfl⟩ := trodAll_nil r1
  obtain rfl : args = #[v0, v1] := by cases args; simp_all
  obtain ⟨rfl, rfl⟩ := trodVars_none hV
  obtain ⟨a0, n0, c0, rfl⟩ := okWide_slice Try.underlying24 (hval 0 24 v0 rfl rfl)
  have k0 := h0
  have lt0 : ∀ x ∈ p0, x.block < W.heap.size := by obtain ⟨m, hm⟩ := k0; exact DataW.trod_lt m _ _ _ hm
  obtain ⟨l0, w0, x0, y0⟩ := strss_of_trod h0
  obtain ⟨a1, rfl, rfl, rfl, w1⟩ := open_string Try.underlying9 (hval 1 9 v1 rfl rfl) h1
  clear hA0 hval0
  refine (fnExactJoinParts_walk a0 n0 c0 l0 a1 W w0 x0 y0 w1).mono fun e W' ⟨he, bel⟩ => ?_
  subst he
  exact ⟨_, rfl, _, _, _, [], _, [], hW', trodAll_mk1 (shut_bool Try.underlying4 _), (trodAll_cons_mk (Below.trod laidOut (by kernel_rfl) (of_decide_eq_true (by kernel_rfl)) k0 bel lt0) (trodAll_cons_mk (shut_string Try.underlying9 w1) trodAll_mk0)), rfl, bel.frame _, fun h => by cases h⟩
/-- FnExactJoinParts: THE STATEMENT. -/
theorem fnExactJoinParts_holds : Rows.FnExactJoinPartsSaid :=
  OpenClaim.holds_of_wide 4 Try.f4 rfl rfl rfl rfl rfl rfl rfl ⟨rfl, rfl, rfl, rfl, rfl⟩ rfl rfl rfl rfl rfl (by kernel_rfl) Try.func4 (by kernel_rfl)
    (of_decide_eq_true (by kernel_rfl)) (by unfold Func.isWrapper; first | (rw [if_pos (by decide +kernel)]; kernel_rfl) | (rw [if_neg (by decide +kernel)]; exact ⟨rfl, rfl⟩))
    (fun os started H enc _ => fnExactJoinParts_lifted os started H enc)
end Go.Proofs.Ytdoclfbfhlgejad
