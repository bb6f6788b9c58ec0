/-
  The exact laws of chapter 3 on folding: each law's walk. For every input of the law: it returns true, and the input reads as it did. Conditions: none but the statement's own.
-/
import Derived.Test.YtfjpajeipihlaabDoorLaw0
import Derived.Test.YtfjpajeipihlaabDoorMarkF
import Derived.Test.YtfjpajeipihlaabDoorFoldL
namespace Go.Proofs.YtfjpajeipihlaabDoor
open Go.ChangeShapes Go.WideShapes Go.ChangeAt Go.RowKit
open Go.ChangeMaps (open_string shut_string)

set_option maxRecDepth 100000 in
set_option maxHeartbeats 1000000 in
theorem fnExactFieldValid_walk (n v : ByteArray) (w : World) (hn : n.size ≤ maxLen) (hv : v.size ≤ maxLen) :
    Calls Tryd.prog 4 #[.agg #[.string n, .string v]] w fun e w' => e = .returned (.bool true) ∧ Below w.heap.size w w' := by
  have hbA : Below w.heap.size w (w.alloc (.cells #[.string n, .string v] 34)) := (Below.refl _ _).alloc (Nat.le_refl _) _
  have HK : Hid (∀ w', Below (w.alloc (.cells #[.string n, .string v] 34)).heap.size (w.alloc (.cells #[.string n, .string v] 34)) w' → (∀ i, w'.cell? ⟨w.heap.size, i, none⟩ = #[Value.string n, .string v][i]?) ∧ Below w.heap.size w w') := fun w' h => ⟨(fresh1 h).1, nx hbA h⟩
  clear hbA
  go_enter Tryd.func4, Tryd.ntmps4
  go_wp2_with fail
  refine (szField_any n v 1048576 _ hn hv (by omega) (by omega)).mono ?_
  rintro e w1 ⟨r, rfl, hr1, hr2, hsz, hb1⟩
  obtain ⟨c1, _⟩ := HK.out _ hb1
  by_cases hneg : r < 0
  · clear hsz
    go_wp2
    go_ret
    exact ⟨rfl, (HK.out _ hb1).2⟩
  obtain ⟨z0, z1⟩ := hsz (by omega)
  clear hsz
  go_wp2_with fail
  refine (toField_any n v _).mono ?_
  rintro e w2 ⟨rfl, hb2⟩
  go_wp2_with fail
  refine (fieldValidS_any n v _ (by omega) (by omega)).mono ?_
  rintro e w3 ⟨rfl, hb3⟩
  have HB3 := Lib.hid (nx (nx hb1 hb2) hb3)
  obtain ⟨c3, _⟩ := HK.out _ HB3.out
  clear c1 hb1 hb2 hb3
  go_wp2_with fail
  refine (toField_any n v _).mono ?_
  rintro e w4 ⟨rfl, hb4⟩
  go_wp2_with fail
  refine (fieldValid_any n v _ (by omega) (by omega)).mono ?_
  rintro e w5 ⟨rfl, hb5⟩
  generalize isFld (fld n v) = q at *
  have HB5 := Lib.hid (HK.out _ (nx (nx HB3.out hb4) hb5)).2
  clear hb4 hb5
  cases q
  all_goals
    go_wp2
    go_ret
    exact ⟨rfl, HB5.out⟩
set_option maxRecDepth 100000 in
set_option maxHeartbeats 4000000 in
theorem fnExactFoldField_walk (n v : ByteArray) (w : World) (hn : n.size ≤ maxLen) (hv : v.size ≤ maxLen) :
    Calls Tryd.prog 5 #[.agg #[.string n, .string v]] w fun e w' => e = .returned (.bool true) ∧ Below w.heap.size w w' := by
  have hbA : Below w.heap.size w (w.alloc (.cells #[.string n, .string v] 34)) := (Below.refl _ _).alloc (Nat.le_refl _) _
  have HK : Hid (∀ w', Below (w.alloc (.cells #[.string n, .string v] 34)).heap.size (w.alloc (.cells #[.string n, .string v] 34)) w' → (∀ i, w'.cell? ⟨w.heap.size, i, none⟩ = #[Value.string n, .string v][i]?) ∧ Below w.heap.size w w') := fun w' h => ⟨(fresh1 h).1, nx hbA h⟩
  clear hbA
  go_enter Tryd.func5, Tryd.ntmps5
  go_wp2_with fail
  refine (szField_any n v 1048576 _ hn hv (by omega) (by omega)).mono ?_
  rintro e w1 ⟨r, rfl, hr1, hr2, hsz, hb1⟩
  obtain ⟨c1, _⟩ := HK.out _ hb1
  by_cases hneg : r < 0
  · clear hsz
    go_wp2
    go_ret
    exact ⟨rfl, (HK.out _ hb1).2⟩
  obtain ⟨z0, z1⟩ := hsz (by omega)
  have HSM : Hid (SmallF 1073741000 (fld n v)) := ⟨by show n.data.toList.length ≤ _; rw [size_list]; omega, by show v.data.toList.length ≤ _; rw [size_list]; omega⟩
  have HF1 : Hid (∀ u : World, Calls Tryd.prog 20 #[.agg #[.string n, .string v]] u (RowL (foldF (fld n v)) u)) := fun u => by
    have := foldField_any (fld n v) u HSM.out
    simp only [fld, str_of] at this; exact this
  have HF2 : Hid (∀ u : World, Calls Tryd.prog 19 #[.agg #[.string n, .string v]] u (RowL (foldF (fld n v)) u)) := fun u => by
    have := foldFieldS_any (fld n v) u HSM.out
    simp only [fld, str_of] at this; exact this
  have hxl := (foldF_len (fld n v)).1
  generalize foldF (fld n v) = xs at *
  have HM : Hid (xs.length ≤ maxLen) := by show _ ≤ _; unfold maxLen; omega
  clear hsz
  go_wp2_with fail
  refine (toField_any n v _).mono ?_
  rintro e w2 ⟨rfl, hb2⟩
  go_wp2_with fail
  refine (HF2.out _).mono ?_
  rintro e w3 ⟨v3, rfl, ho3, hb3⟩
  obtain ⟨a3, c3, rfl, hr3, _⟩ := ho3.read
  have HR3 := Lib.hid hr3
  have HB3 := Lib.hid (nx (nx hb1 hb2) hb3)
  obtain ⟨d3, _⟩ := HK.out _ HB3.out
  clear c1 hb1 hb2 hb3 ho3 hr3
  go_wp2_with fail
  refine (toField_any n v _).mono ?_
  rintro e w4 ⟨rfl, hb4⟩
  go_wp2_with fail
  refine (HF1.out _).mono ?_
  rintro e w5 ⟨v5, rfl, ho5, hb5⟩
  obtain ⟨a5, c5, rfl, hr5, _⟩ := ho5.read
  have HO5 := Lib.hid ho5
  have HR5 := Lib.hid hr5
  have HB4 := Lib.hid (nx HB3.out hb4)
  have h35 := nx hb4 hb5
  have HB5 := Lib.hid (nx HB3.out h35)
  have hz4 := hb4.size
  have hz5 := hb5.size
  clear ho5 hr5 d3
  go_wp2_with fail
  refine (eqStringS_any a5 a3 _ c5 _ c3 xs xs _ HR5.out (HR3.out.below h35) HM.out HM.out).mono ?_
  rintro e w6 ⟨rfl, hb6⟩
  rw [decide_eq_true (rfl : xs = xs)]
  have hz6 := hb6.size
  go_wp2_with fail
  refine (markStringS_any w4.heap.size a5 xs.length c5 xs 1 _ (HO5.out.keep hb6) rfl (by omega) (by omega) (by omega)).mono ?_
  rintro e w7 ⟨rfl, ho7, hb7⟩
  have h47 : Below w4.heap.size w4 w7 := (nx hb5 hb6).trans hb7
  have HR37 := Lib.hid (HR3.out.below (nx hb4 h47))
  have HB7 := Lib.hid (nx HB4.out h47)
  obtain ⟨d7, _⟩ := HK.out _ HB7.out
  have hm7 : RdL w7 a5 xs.length (marksFrom 1 xs.length) := by
    obtain ⟨a', c', hv, hr, _⟩ := ho7.read
    rw [marksFrom_len] at hv hr
    injection hv with e1 _ _
    rw [e1]; exact hr
  have HM7 := Lib.hid hm7
  clear hb4 hb5 hb6 hb7 h35 h47 ho7 hm7
  go_wp2_with fail
  refine (heldStringS_any a5 xs.length c5 1 _ HM7.out (by omega) (by omega)).mono ?_
  rintro e w8 ⟨rfl, hb8⟩
  obtain ⟨d8, _⟩ := HK.out _ (nx HB7.out hb8)
  clear d7
  go_wp2_with fail
  refine (toField_any n v _).mono ?_
  rintro e w9 ⟨rfl, hb9⟩
  go_wp2_with fail
  refine (HF1.out _).mono ?_
  rintro e w10 ⟨v10, rfl, ho10, hb10⟩
  obtain ⟨a10, c10, rfl, hr10, _⟩ := ho10.read
  have HR10 := Lib.hid hr10
  have h710 := nx (nx hb8 hb9) hb10
  clear ho10 hr10
  go_wp2_with fail
  refine (eqStringS_any a10 a3 _ c10 _ c3 xs xs _ HR10.out (HR37.out.below h710) HM.out HM.out).mono ?_
  rintro e w11 ⟨rfl, hb11⟩
  rw [decide_eq_true (rfl : xs = xs)]
  have h711 := nx h710 hb11
  go_wp2_with fail
  refine (heldStringS_any a5 xs.length c5 1 _ (HM7.out.below h711) (by omega) (by omega)).mono ?_
  rintro e w12 ⟨rfl, hb12⟩
  have HB12 := Lib.hid (HK.out _ (nx (nx HB7.out h711) hb12)).2
  go_wp2
  go_ret
  exact ⟨rfl, HB12.out⟩
theorem rdL_of_own {B : Nat} {a : Option Addr} {c : Nat} {xs : List (List UInt8)} {u : World} (h : OwnL B (.slice a xs.length c) xs u) : RdL u a xs.length xs := by
  obtain ⟨_, _, hv, hr, _⟩ := h.read
  injection hv with h1 _ h3
  subst h1 h3
  exact hr
theorem foldFs_len (xs : List Fld) : (foldFs xs).length ≤ 3660 := by
  unfold foldFs
  split
  · rename_i h
    obtain ⟨h1, h2⟩ := fldsOk_iff.1 h
    rw [← foldAll_map h1]
    have : ∀ ys : List Fld, (ys.flatMap foldF).length ≤ ys.length * 183 := fun ys => by
      induction ys with
      | nil => simp
      | cons y ys ih => rw [List.flatMap_cons, List.length_append, List.length_cons, Nat.add_mul]; have := (foldF_len y).1; omega
    have := this xs
    have h3 : xs.length * 183 ≤ 20 * 183 := Nat.mul_le_mul_right _ h2
    omega
  · simp
set_option maxRecDepth 100000 in
set_option maxHeartbeats 4000000 in
theorem fnExactFoldFields_walk (a : Option Addr) (n c : Nat) (fs : List Fld) (w : World) (hr : RdF w a n fs) (hn : n ≤ maxLen) (hx : ∀ x ∈ fs, SmallF maxLen x) :
    Calls Tryd.prog 6 #[.slice a n c] w fun e w' => e = .returned (.bool true) ∧ Below w.heap.size w w' := by
  go_enter Tryd.func6, Tryd.ntmps6
  go_wp2_with fail
  refine (szFieldS_any a n c fs 1048576 w hr hn (by omega) (by omega) hx).mono ?_
  rintro e w1 ⟨r, rfl, hr1, hr2, hsz, hb1⟩
  by_cases hneg : r < 0
  · clear hsz
    go_wp2
    go_ret
    exact ⟨rfl, hb1⟩
  obtain ⟨hln, hsm⟩ := hsz (by omega)
  have HSM : Hid (∀ x ∈ fs, SmallF 1073741000 x) := fun x hx => (hsm x hx).up (by omega)
  have hlen := hr.1
  have HN1 : Hid (n ≤ 1073741824) := by show _ ≤ _; omega
  have HX1 : Hid (fs.length ≤ 1073741824) := by show _ ≤ _; omega
  have HX2 : Hid (fs.length ≤ maxLen) := by show _ ≤ _; unfold maxLen; omega
  have hfl : 1 + 2 * fs.length ≤ 1073741824 := by omega
  have HD := Lib.hid hr
  clear hsz hsm hx hr hlen hn
  have hxl := foldFs_len fs
  have HF1 := Lib.hid (fun (a' : Option Addr) (c' : Nat) (u : World) (h : RdF u a' fs.length fs) => foldFields_any a' fs.length c' fs u h HX1.out HSM.out)
  have HF2 := Lib.hid (fun (a' : Option Addr) (c' : Nat) (u : World) (h : RdF u a' fs.length fs) => foldFieldsS_any a' fs.length c' fs u h HX1.out HSM.out)
  unfold FoldRet at HF1 HF2
  generalize foldFs fs = xs at *
  generalize fldsOk fs = ok at *
  have HM : Hid (xs.length ≤ maxLen) := by show _ ≤ _; unfold maxLen; omega
  have e0 : (ok != ok) = false := by cases ok <;> rfl
  go_wp2_with fail
  refine (toFieldS_any a n c fs _ (HD.out.below hb1) HN1.out).mono ?_
  rintro e w2 ⟨a2, c2, rfl, _, hd2, _, hb2⟩
  have hB2 := nx hb1 hb2
  go_wp2_with fail
  refine (HF2.out a2 c2 _ hd2).mono ?_
  rintro e w3 ⟨v3, rfl, ho3, hb3⟩
  obtain ⟨a3, c3, rfl, hr3, _⟩ := ho3.read
  have hB3 := nx hB2 hb3
  have HR3 := Lib.hid hr3
  have HO3 := Lib.hid ho3
  have HL3 := Lib.hid (OwnL.lt ho3)
  clear hd2 ho3 hr3
  go_wp2_with fail
  refine (toFieldS_any a n c fs _ (HD.out.below hB3) HN1.out).mono ?_
  rintro e w4 ⟨a4, c4, rfl, ho4, hd4, _, hb4⟩
  have hB4 := nx hB3 hb4
  have HO4 := Lib.hid ho4
  have HD4 := Lib.hid hd4
  have HL4 := Lib.hid (OwnR.lt ho4)
  clear ho4 hd4
  go_wp2_with fail
  refine (HF1.out a4 c4 _ HD4.out).mono ?_
  rintro e w5 ⟨v5, rfl, ho5, hb5⟩
  obtain ⟨a5, c5, rfl, hr5, _⟩ := ho5.read
  have hB5 := nx hB4 hb5
  have HO5 := Lib.hid ho5
  have HR5 := Lib.hid hr5
  have HL5 := Lib.hid (OwnL.lt ho5)
  have h35 := nx hb4 hb5
  clear ho5 hr5
  cases ok
  all_goals
    go_wp2_with fail
    refine (eqStringS_any a5 a3 _ c5 _ c3 xs xs _ HR5.out (HR3.out.below h35) HM.out HM.out).mono ?_
    rintro e w6 ⟨rfl, hb6⟩
    rw [decide_eq_true (rfl : xs = xs)]
    have hB6 := nx hB5 hb6
    go_wp2_with fail
    refine (toFieldS_any a n c fs _ (HD.out.below hB6) HN1.out).mono ?_
    rintro e w7 ⟨a7, c7, rfl, _, hd7, _, hb7⟩
    have hB7 := nx hB6 hb7
    go_wp2_with fail
    refine (eqFieldS_any a4 a7 _ c4 _ c7 fs fs _ (HD4.out.below (nx (nx hb5 hb6) hb7)) hd7 HX2.out HX2.out).mono ?_
    rintro e w8 ⟨rfl, hb8⟩
    rw [decide_eq_true (rfl : fs = fs)]
    have hB8 := nx hB7 hb8
    have h58 := nx (nx hb6 hb7) hb8
    have h48 := nx hb5 h58
    have h38 := nx hb4 h48
    have hs3 := hb3.size
    have hs4 := hb4.size
    have hs5 := hb5.size
    have hs8 := h58.size
    have hB3z := hB3.size
    have HO48 := Lib.hid (HO4.out.keep h48)
    have HO58 := Lib.hid (HO5.out.keep h58)
    have HO38 := Lib.hid (HO3.out.keep h38)
    clear hd7
    go_wp2_with fail
    refine (markFieldS_any w3.heap.size a4 _ c4 fs 1 _ HO48.out rfl (by omega) hfl).mono ?_
    rintro e w9 ⟨rfl, _, hn9⟩
    have hB9 : Below w.heap.size w w9 := hB8.trans (hn9.below (fun g hg => by have := (HL4.out g hg).1; omega) hB8.size)
    have HO59 := Lib.hid (HO58.out.only hn9 (fun g hg e => by have := (HL5.out g hg).1; have := (HL4.out g e).2; omega))
    have HO39 := Lib.hid (HO38.out.only hn9 (fun g hg e => by have := (HL3.out g hg).2; have := (HL4.out g e).1; omega))
    have hs9 := hn9.size
    have hneg9 : decide (((1 + 2 * fs.length : Nat) : Int) < 0) = false := by simp; omega
    clear hn9
    go_wp2_with fail
    refine (eqStringS_any a5 a3 _ c5 _ c3 xs xs _ (rdL_of_own HO59.out) (rdL_of_own HO39.out) HM.out HM.out).mono ?_
    rintro e w10 ⟨rfl, hb10⟩
    rw [decide_eq_true (rfl : xs = xs)]
    have hB10 := nx hB9 hb10
    have hs10 := hb10.size
    have hs48 := h48.size
    have HO510 := Lib.hid (HO59.out.keep hb10)
    have HR310 := Lib.hid ((rdL_of_own HO39.out).below hb10)
    have HO310 := Lib.hid (HO39.out.keep hb10)
    go_wp2_with fail
    refine (markStringS_any w4.heap.size a5 xs.length c5 xs 1 _ HO510.out rfl (by omega) (by omega) (by omega)).mono ?_
    rintro e w11 ⟨rfl, ho11, hb11⟩
    have hB11 : Below w.heap.size w w11 := hB10.trans (hb11.mono hB4.size)
    have hm11 : RdL w11 a5 xs.length (marksFrom 1 xs.length) := by
      obtain ⟨a', c', hv, hr, _⟩ := ho11.read
      rw [marksFrom_len] at hv hr
      injection hv with e1 _ _
      rw [e1]; exact hr
    have HM11 := Lib.hid hm11
    have HR311 : Hid (RdL w11 a3 xs.length xs) := by
      refine ⟨rfl, ?_⟩
      rcases HR310.out.2 with h0 | ⟨g, o, rfl, hg, hcell⟩
      · exact .inl h0
      · have hg4 : g < w4.heap.size := by
          rcases HO310.out.2 with ⟨hv, h0⟩ | ⟨g', _, _, hv, _⟩
          · cases hv
          · injection hv with hv; injection hv with hv; injection hv with hv1 _ _
            have := (HL3.out g (by rw [hv1]; rfl)).2
            omega
        exact .inr ⟨g, o, rfl, Nat.lt_of_lt_of_le hg hb11.size, fun i hi => by rw [below_at hb11 hg4]; exact hcell i hi⟩
    clear ho11 hb11 hm11
    go_wp2_with fail
    refine (heldStringS_any a5 xs.length c5 1 _ HM11.out (by omega) (by omega)).mono ?_
    rintro e w12 ⟨rfl, hb12⟩
    have hB12 := nx hB11 hb12
    go_wp2_with fail
    refine (toFieldS_any a n c fs _ (HD.out.below hB12) HN1.out).mono ?_
    rintro e w13 ⟨a13, c13, rfl, _, hd13, _, hb13⟩
    have hB13 := nx hB12 hb13
    go_wp2_with fail
    refine (HF1.out a13 c13 _ hd13).mono ?_
    rintro e w14 ⟨v14, rfl, ho14, hb14⟩
    obtain ⟨a14, c14, rfl, hr14, _⟩ := ho14.read
    have hB14 := nx hB13 hb14
    have h1114 := nx (nx hb12 hb13) hb14
    clear hd13 ho14
    go_wp2_with fail
    refine (eqStringS_any a14 a3 _ c14 _ c3 xs xs _ hr14 (HR311.out.below h1114) HM.out HM.out).mono ?_
    rintro e w15 ⟨rfl, hb15⟩
    rw [decide_eq_true (rfl : xs = xs)]
    have hB15 := nx hB14 hb15
    go_wp2_with fail
    refine (heldStringS_any a5 xs.length c5 1 _ (HM11.out.below (nx h1114 hb15)) (by omega) (by omega)).mono ?_
    rintro e w16 ⟨rfl, hb16⟩
    go_wp2
    go_ret
    exact ⟨rfl, nx hB15 hb16⟩
end Go.Proofs.YtfjpajeipihlaabDoor
