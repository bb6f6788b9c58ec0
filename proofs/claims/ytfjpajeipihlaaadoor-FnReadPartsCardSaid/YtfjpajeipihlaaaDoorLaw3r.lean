/-
  FnReadParts: the law's walk. For every input of the law: it returns true, and the input reads as it did. Conditions: none but the statement's own.
-/
import Derived.Test.YtfjpajeipihlaaaDoorLaw0
import Derived.Test.YtfjpajeipihlaaaDoorDrawF2
import Derived.Test.YtfjpajeipihlaaaDoorFoldL
import Derived.Test.YtfjpajeipihlaaaDoorDraw2
namespace Go.Proofs.YtfjpajeipihlaaaDoor
open Go.ChangeShapes Go.WideShapes Go.ChangeAt Go.RowKit
open Go.ChangeMaps (open_string shut_string)

theorem foldFs_len (xs : List Fld) : (foldFs xs).length ≤ 183 * xs.length := by
  have key : ∀ ys : List Fld, (ys.flatMap foldF).length ≤ 183 * ys.length := by
    intro ys
    induction ys with
    | nil => simp
    | cons y ys ih => rw [List.flatMap_cons, List.length_append, List.length_cons]; have := (foldF_len y).1; omega
  unfold foldFs
  split
  · rename_i h
    rw [← foldAll_map (fldsOk_iff.1 h).1]; exact key xs
  · simp
theorem foldFs_cut {xs : List Fld} (k : Nat) (h : fldsOk xs = true) : foldFs (xs.take k) ++ foldFs (xs.drop k) = foldFs xs := by
  obtain ⟨h1, h2⟩ := fldsOk_iff.1 h
  have ht : fldsOk (xs.take k) = true := fldsOk_iff.2 ⟨fun f hf => h1 f (List.mem_of_mem_take hf), by rw [List.length_take]; omega⟩
  have hd : fldsOk (xs.drop k) = true := fldsOk_iff.2 ⟨fun f hf => h1 f (List.mem_of_mem_drop hf), by rw [List.length_drop]; omega⟩
  unfold foldFs
  rw [if_pos h, if_pos ht, if_pos hd]
  unfold foldAll
  rw [← List.flatMap_append, List.take_append_drop]
set_option maxRecDepth 100000 in
set_option maxHeartbeats 4000000 in
theorem fnReadParts_walk (a : Option Addr) (n c : Nat) (w : World) (hc : Code w a n) (hnc : n ≤ c) (hm : c ≤ maxLen) :
    Calls Tryd.prog 9 #[.slice a n c] w fun e w' => e = .returned (.bool true) ∧ Below w.heap.size w w' := by
  have hm' := hm
  unfold maxLen at hm'
  by_cases hn : 1048576 < n
  · have hd : decide ((1048576 : Int) < n) = true := by simp; omega
    go_enter Tryd.func9, Tryd.ntmps9
    go_wp2
    go_ret
    exact ⟨rfl, Below.refl _ _⟩
  have hd : decide ((1048576 : Int) < n) = false := by simp; omega
  go_enter Tryd.func9, Tryd.ntmps9
  go_wp2_with fail
  refine (drawFoldFields_any a n c w hc hnc hm).mono ?_
  rintro e w1 ⟨v, xs, rfl, ho, hl4, hsm, hb1⟩
  have HSM : Hid (∀ x ∈ xs, SmallF 1073741000 x) := fun x hx => (hsm x hx).up (by omega)
  obtain ⟨a1, c1, rfl, hd1, hm1, hc1⟩ := ho.read fldC_len
  have HCA : Hid (xs.length = 0 ∨ ∃ g, a1 = some ⟨g, 0, none⟩) := by
    rcases ho.2 with ⟨hv, h0⟩ | ⟨g, cap, cur, hv, _⟩
    · exact .inl h0
    · injection hv with h1 _ _; exact .inr ⟨g, h1⟩
  have HD := Lib.hid hd1
  have hFL := foldFs_len xs
  have hFM : (foldFs xs).length ≤ maxLen := by unfold maxLen; omega
  have HFM := Lib.hid hFM
  have HTL := Lib.hid (foldFs_len (xs.take (xs.length / 2)))
  have HDL := Lib.hid (foldFs_len (xs.drop (xs.length / 2)))
  have HCUT : Hid (fldsOk xs = true → foldFs (xs.take (xs.length / 2)) ++ foldFs (xs.drop (xs.length / 2)) = foldFs xs) := fun h => foldFs_cut _ h
  have HLEN : Hid (xs.length ≤ 4) := hl4
  generalize hN : xs.length = N at *
  have HN := Lib.hid hN
  clear hd1 ho hsm hN hm1 hFL hFM
  go_wp2_with fail
  refine (foldFields_any a1 N c1 xs _ HD.out (by omega) HSM.out).mono ?_
  rintro e w2 ⟨v2, rfl, ho2, hb2⟩
  obtain ⟨a2, c2, rfl, hr2, _⟩ := ho2.read
  have HR2 := Lib.hid hr2
  have HD2 := Lib.hid (HD.out.below hb2)
  have HB2 := Lib.hid (nx hb1 hb2)
  clear ho2 hr2 hb1 hb2
  go_wp2_with fail
  refine (foldFieldsS_any a1 N c1 xs _ HD2.out (by omega) HSM.out).mono ?_
  rintro e w3 ⟨v3, rfl, ho3, hb3⟩
  obtain ⟨a3, c3, rfl, hr3, _⟩ := ho3.read
  have HR23 := Lib.hid (HR2.out.below hb3)
  have HR3 := Lib.hid hr3
  have HD3 := Lib.hid (HD2.out.below hb3)
  have HB3 := Lib.hid (nx HB2.out hb3)
  clear ho3 hr3 hb3
  generalize hfx : foldFs xs = fx at *
  have HFX := Lib.hid hfx
  clear hfx
  go_wp2_with fail
  refine (mwTexts_any _ _ _ _ _ _ fx fx _ HR23.out HR3.out HFM.out HFM.out).mono ?_
  rintro e w4 ⟨rfl, hb4⟩
  rw [decide_eq_true (rfl : fx = fx)]
  have HR24 := Lib.hid (HR23.out.below hb4)
  have HR34 := Lib.hid (HR3.out.below hb4)
  have HD4 := Lib.hid (HD3.out.below hb4)
  have HB4 := Lib.hid (nx HB3.out hb4)
  clear hb4
  cases hok : fldsOk xs
  · have HOK := Lib.hid hok
    clear hok
    go_wp2_with fail
    refine (mwTexts_any _ _ _ _ _ _ fx fx _ HR24.out HR34.out HFM.out HFM.out).mono ?_
    rintro e w5 ⟨rfl, hb5⟩
    rw [decide_eq_true (rfl : fx = fx)]
    go_wp2
    go_ret
    exact ⟨rfl, nx HB4.out hb5⟩
  · have HOK := Lib.hid hok
    have HCT := Lib.hid (HCUT.out hok)
    clear hok HCUT
    have HTS : Hid (∀ x ∈ xs.take (N / 2), SmallF 1073741000 x) := fun x hx => HSM.out x (List.mem_of_mem_take hx)
    have HDS : Hid (∀ x ∈ xs.drop (N / 2), SmallF 1073741000 x) := fun x hx => HSM.out x (List.mem_of_mem_drop hx)
    have hTL : (foldFs (xs.take (N / 2))).length ≤ 1000 := by have h4 := HN.out; have := HTL.out; rw [List.length_take] at this; omega
    have hDL : (foldFs (xs.drop (N / 2))).length ≤ 1000 := by have h4 := HN.out; have := HDL.out; rw [List.length_drop] at this; omega
    generalize hft : foldFs (xs.take (N / 2)) = ft at *
    generalize hfd : foldFs (xs.drop (N / 2)) = fd at *
    have HFT := Lib.hid hft
    have HFD := Lib.hid hfd
    clear hft hfd HTL HDL
    by_cases h0 : N = 0
    · subst h0
      have HRT : Hid (RdF w4 a1 0 (xs.take (0 / 2))) := ⟨by simp, .inl rfl⟩
      have HRD : Hid (∀ b, RdF w4 b 0 (xs.drop (0 / 2))) := fun b => ⟨by rw [Nat.zero_div, List.drop_zero]; exact HN.out, .inl rfl⟩
      go_wp2_with fail
      refine (foldFields_any _ 0 _ _ _ HRT.out (by omega) HTS.out).mono ?_
      rintro e w5 ⟨v5, rfl, ho5, hb5⟩
      rw [HFT.out] at ho5
      have HO5 := Lib.hid ho5
      have HB5 := Lib.hid hb5
      clear ho5 hb5
      go_wp2_with fail
      refine (foldFields_any _ 0 _ _ _ ((HRD.out _).below HB5.out) (by omega) HDS.out).mono ?_
      rintro e w6 ⟨v6, rfl, ho6, hb6⟩
      rw [HFD.out] at ho6
      have HO6 := Lib.hid ho6
      have HO56 := Lib.hid (HO5.out.keep hb6)
      have HB6 := Lib.hid (nx HB5.out hb6)
      clear ho6 hb6
      go_wp2_with (at_builtin; refine wpList_append_LL rfl _ _ rfl w6.heap.size _ _ _ [] ft rfl rfl (OwnL.empty w6) (HO56.out.keep ((Below.refl _ _).alloc (Nat.le_refl _) _)) (by simp) (by simp; omega) ?_)
      intro v7 w7 ho7 hb7
      have HO7 := Lib.hid ho7
      have hlen : ft.length + fd.length ≤ 1000000 := by omega
      have HB7 : Hid (Below w6.heap.size w6 w7) := ((Below.refl w6.heap.size w6).alloc (Nat.le_refl _) (.cells #[] 9)).trans hb7
      clear ho7 hb7
      have HO67 := Lib.hid (HO6.out.keep HB7.out)
      have hs67 := HB7.out.size
      go_wp2_with (at_builtin; refine wpList_append_LL rfl _ _ rfl w6.heap.size _ _ _ ft fd rfl rfl HO7.out HO67.out hs67 hlen ?_)
      intro v8 w8 ho8 hb8
      rw [HCT.out] at ho8
      obtain ⟨a8, c8, rfl, hr8, _⟩ := ho8.read
      have HR8 := Lib.hid hr8
      have hb68 : Below w6.heap.size w6 w8 := HB7.out.trans hb8
      have HB8 := Lib.hid (nx (nx HB4.out HB6.out) hb68)
      have HR28 := Lib.hid (HR24.out.below (nx HB6.out hb68))
      clear hb68
      clear hr8 hb8 ho8
      go_wp2_with fail
      refine (mwTexts_any _ _ _ _ _ _ fx fx _ HR8.out HR28.out HFM.out HFM.out).mono ?_
      rintro e w9 ⟨rfl, hb9⟩
      rw [decide_eq_true (rfl : fx = fx)]
      go_wp2
      go_ret
      exact ⟨rfl, nx HB8.out hb9⟩
    · obtain ⟨g, rfl⟩ := HCA.out.resolve_left h0
      have hcap : N / 2 < c1 := by omega
      have hcap2 : 0 < c1 - N / 2 := by omega
      have hcap3 : ¬ (c1 - N / 2 = 0) := by omega
      have HRT : Hid (RdF w4 (some ⟨g, 0, none⟩) (N / 2) (xs.take (N / 2))) := by
        refine ⟨by rw [List.length_take, HN.out]; omega, ?_⟩
        rcases HD4.out.2 with h0 | ⟨b, off, hb, hl, hx⟩
        · exact .inl (by omega)
        · refine .inr ⟨b, off, hb, hl, fun i hi d v hv => ?_⟩
          rw [List.getElem_take] at hv
          exact hx i _ d v hv
      have HRD : Hid (RdF w4 (some ⟨g, N / 2 * 2, none⟩) (N - N / 2) (xs.drop (N / 2))) := by
        refine ⟨by rw [List.length_drop, HN.out], ?_⟩
        rcases HD4.out.2 with h0 | ⟨b, off, hb, hl, hx⟩
        · exact .inl (by omega)
        · injection hb with hb
          injection hb with h1 h2 h3
          subst h1 h2
          refine .inr ⟨g, N / 2 * 2, rfl, hl, fun i hi d v hv => ?_⟩
          rw [List.getElem_drop] at hv
          have := hx (N / 2 + i) _ d v hv
          rw [Nat.add_mul, Nat.zero_add] at this
          exact this
      go_wp2_with fail
      refine (foldFields_any _ _ _ _ _ HRT.out (by omega) HTS.out).mono ?_
      rintro e w5 ⟨v5, rfl, ho5, hb5⟩
      rw [HFT.out] at ho5
      have HO5 := Lib.hid ho5
      have HB5 := Lib.hid hb5
      clear ho5 hb5
      go_wp2_with fail
      refine (foldFields_any _ _ _ _ _ (HRD.out.below HB5.out) (by omega) HDS.out).mono ?_
      rintro e w6 ⟨v6, rfl, ho6, hb6⟩
      rw [HFD.out] at ho6
      have HO6 := Lib.hid ho6
      have HO56 := Lib.hid (HO5.out.keep hb6)
      have HB6 := Lib.hid (nx HB5.out hb6)
      clear ho6 hb6
      go_wp2_with (at_builtin; refine wpList_append_LL rfl _ _ rfl w6.heap.size _ _ _ [] ft rfl rfl (OwnL.empty w6) (HO56.out.keep ((Below.refl _ _).alloc (Nat.le_refl _) _)) (by simp) (by simp; omega) ?_)
      intro v7 w7 ho7 hb7
      have HO7 := Lib.hid ho7
      have hlen : ft.length + fd.length ≤ 1000000 := by omega
      have HB7 : Hid (Below w6.heap.size w6 w7) := ((Below.refl w6.heap.size w6).alloc (Nat.le_refl _) (.cells #[] 9)).trans hb7
      clear ho7 hb7
      have HO67 := Lib.hid (HO6.out.keep HB7.out)
      have hs67 := HB7.out.size
      go_wp2_with (at_builtin; refine wpList_append_LL rfl _ _ rfl w6.heap.size _ _ _ ft fd rfl rfl HO7.out HO67.out hs67 hlen ?_)
      intro v8 w8 ho8 hb8
      rw [HCT.out] at ho8
      obtain ⟨a8, c8, rfl, hr8, _⟩ := ho8.read
      have HR8 := Lib.hid hr8
      have hb68 : Below w6.heap.size w6 w8 := HB7.out.trans hb8
      have HB8 := Lib.hid (nx (nx HB4.out HB6.out) hb68)
      have HR28 := Lib.hid (HR24.out.below (nx HB6.out hb68))
      clear hb68
      clear hr8 hb8 ho8
      go_wp2_with fail
      refine (mwTexts_any _ _ _ _ _ _ fx fx _ HR8.out HR28.out HFM.out HFM.out).mono ?_
      rintro e w9 ⟨rfl, hb9⟩
      rw [decide_eq_true (rfl : fx = fx)]
      go_wp2
      go_ret
      exact ⟨rfl, nx HB8.out hb9⟩
end Go.Proofs.YtfjpajeipihlaaaDoor
