/-
  FnPutTwice: the law's walk. For every input of the law: it returns true, and the input reads as it did. Conditions: none but the statement's own.
-/
import Derived.Test.YtfjpajeipihlaaaDoorLaw0
import Derived.Test.YtfjpajeipihlaaaDoorDrawP
import Derived.Test.YtfjpajeipihlaaaDoorPutF
import Derived.Test.YtfjpajeipihlaaaDoorSameF
namespace Go.Proofs.YtfjpajeipihlaaaDoor
open Go.ChangeShapes Go.WideShapes Go.ChangeAt Go.RowKit
open Go.ChangeMaps (open_string shut_string)

/-- A value put: as a slice. -/
def PutTo (ys : List Fld) (ok : Bool) (w : World) (e : Ending) (w' : World) : Prop := ∃ a c, e = .returned (.tuple #[.slice a ys.length c, .bool ok]) ∧ OwnF w.heap.size (.slice a ys.length c) ys w' ∧ RdF w' a ys.length ys ∧ Below w.heap.size w w'
theorem putRet_to {xs ys : List Fld} {f : Fld} {ok : Bool} {w w' : World} {e : Ending} (h1 : (putF xs f).getD [] = ys) (h2 : (putF xs f).isSome = ok) (h : PutRet xs f w e w') : PutTo ys ok w e w' := by
  obtain ⟨u, rfl, ho, hb⟩ := h
  rw [h1] at ho
  rw [h2]
  have ho' := ho
  obtain ⟨a, c, rfl, hr, _, _⟩ := ho'.read fldC_len
  exact ⟨a, c, rfl, ho, hr, hb⟩
theorem fld_other {f : Fld} (h : isFld f = true) : isFld ⟨f.name, [111, 116, 104, 101, 114]⟩ = true :=
  isFld_iff.2 ⟨(isFld_iff.1 h).1, (by decide : isText [111, 116, 104, 101, 114] = true), (by decide : [111, 116, 104, 101, (114 : UInt8)].length ≤ 150), (by decide : trimS [111, 116, 104, 101, 114] = [111, 116, 104, 101, 114])⟩
theorem oks_small {xs : List Fld} (h : fldsOk xs = true) : xs.length ≤ 20 ∧ ∀ x ∈ xs, SmallF 1073741000 x :=
  ⟨(fldsOk_iff.1 h).2, fun x hx => (isFld_small ((fldsOk_iff.1 h).1 x hx)).up (by omega)⟩
set_option maxRecDepth 100000 in
set_option maxHeartbeats 4000000 in
theorem fnPutTwice_walk (a : Option Addr) (n c : Nat) (w : World) (hc : Code w a n) (hnc : n ≤ c) (hm : c ≤ maxLen) :
    Calls Tryd.prog 10 #[.slice a n c] w fun e w' => e = .returned (.bool true) ∧ Below w.heap.size w w' := by
  have hm' := hm
  unfold maxLen at hm'
  by_cases hn : 1048576 < n
  · have hd : decide ((1048576 : Int) < n) = true := by simp; omega
    go_enter Tryd.func10, Tryd.ntmps10
    go_wp2
    go_ret
    exact ⟨rfl, Below.refl _ _⟩
  have hd : decide ((1048576 : Int) < n) = false := by simp; omega
  go_enter Tryd.func10, Tryd.ntmps10
  go_wp2_with fail
  refine (drawPutField_any a n c w hc hnc hm).mono ?_
  rintro e w1 ⟨v, xs, f, rfl, ho, hl4, hsm, hsf, hb1⟩
  have hXV : fldV f = .agg #[.string (str f.name), .string (str f.val)] := rfl
  rw [hXV]
  clear hXV
  have HSM : Hid (∀ x ∈ xs, SmallF 1073741000 x) := fun x hx => (hsm x hx).up (by omega)
  have HSF : Hid (SmallF 1073741000 f) := hsf.up (by omega)
  have hzn : (str f.name).size ≤ 1073741824 := by rw [str_size]; have := hsf.1; omega
  have HO := Lib.hid ho
  have HL : Hid (xs.length ≤ 1073741824) := by show _ ≤ _; omega
  have hbA := hb1.alloc hb1.size (.cells #[.string (str f.name), .string (str f.val)] 24)
  have HK : Hid (∀ w', Below (w1.alloc (.cells #[.string (str f.name), .string (str f.val)] 24)).heap.size (w1.alloc (.cells #[.string (str f.name), .string (str f.val)] 24)) w' → (∀ i, w'.cell? ⟨w1.heap.size, i, none⟩ = #[Value.string (str f.name), .string (str f.val)][i]?) ∧ w1.heap.size < w'.heap.size ∧ OwnF w.heap.size v xs w' ∧ Below w.heap.size w w') :=
    fun w' h => ⟨(fresh1 h).1, (fresh1 h).2.2, (HO.out.keep ((Below.refl _ _).alloc (Nat.le_refl _) _)).keep h, nx hbA h⟩
  have HP : Hid (∀ u ys ok, (putF xs f).getD [] = ys → (putF xs f).isSome = ok → OwnF w.heap.size v xs u → Calls Tryd.prog 24 #[v, .agg #[.string (str f.name), .string (str f.val)]] u (PutTo ys ok u)) :=
    fun u ys ok h1 h2 h => (putField_any _ v xs f u h HL.out HSM.out HSF.out).mono fun e w' h' => putRet_to h1 h2 h'
  have HPS : Hid (∀ u ys ok, (putF xs f).getD [] = ys → (putF xs f).isSome = ok → OwnF w.heap.size v xs u → Calls Tryd.prog 25 #[v, .agg #[.string (str f.name), .string (str f.val)]] u (PutTo ys ok u)) :=
    fun u ys ok h1 h2 h => (putFieldS_any _ v xs f u h HL.out HSM.out HSF.out).mono fun e w' h' => putRet_to h1 h2 h'
  cases hp : putF xs f with
  | none =>
    have HQ := Lib.hid hp
    have HP1 : Hid (∀ u, OwnF w.heap.size v xs u → Calls Tryd.prog 24 #[v, .agg #[.string (str f.name), .string (str f.val)]] u (PutTo [] false u)) := fun u => HP.out u _ _ (by rw [hp]; rfl) (by rw [hp]; rfl)
    have HP2 : Hid (∀ u, OwnF w.heap.size v xs u → Calls Tryd.prog 25 #[v, .agg #[.string (str f.name), .string (str f.val)]] u (PutTo [] false u)) := fun u => HPS.out u _ _ (by rw [hp]; rfl) (by rw [hp]; rfl)
    clear hp HP HPS hbA hb1 ho hsm hsf hl4
    generalize str f.name = n0 at *
    generalize str f.val = v0 at *
    obtain ⟨d1, _, hO1, _⟩ := HK.out _ (Below.refl _ _)
    have HO1 := Lib.hid hO1
    clear hO1
    go_wp2_with fail
    refine (HP1.out _ HO1.out).mono ?_
    rintro e w2 ⟨a2, c2, rfl, _, hr2, hb2⟩
    have HR2 := Lib.hid hr2
    have HB2 := Lib.hid hb2
    obtain ⟨d2, _, hO2, _⟩ := HK.out _ HB2.out
    have HO2 := Lib.hid hO2
    clear hr2 hb2 d1 hO2
    go_wp2_with fail
    refine (HP2.out _ HO2.out).mono ?_
    rintro e w3 ⟨a3, c3, rfl, _, hr3, hb3⟩
    have HR3 := Lib.hid hr3
    have HR23 := Lib.hid (HR2.out.below hb3)
    have HB3 := Lib.hid (nx HB2.out hb3)
    clear hr3 hb3 d2
    go_wp2_with fail
    refine (fieldsSame_any a2 a3 _ c2 _ c3 [] [] _ HR23.out HR3.out (by unfold maxLen; simp) (by unfold maxLen; simp)).mono ?_
    rintro e w4 ⟨rfl, hb4⟩
    rw [decide_eq_true (rfl : ([] : List Fld) = [])]
    have HR24 := Lib.hid (HR23.out.below hb4)
    have HR34 := Lib.hid (HR3.out.below hb4)
    have HB4 := Lib.hid (nx HB3.out hb4)
    clear hb4
    go_wp2_with fail
    refine (fieldsSame_any a2 a3 _ c2 _ c3 [] [] _ HR24.out HR34.out (by unfold maxLen; simp) (by unfold maxLen; simp)).mono ?_
    rintro e w5 ⟨rfl, hb5⟩
    rw [decide_eq_true (rfl : ([] : List Fld) = [])]
    go_wp2
    go_ret
    exact ⟨rfl, (HK.out _ (nx HB4.out hb5)).2.2.2⟩
  | some x =>
    obtain ⟨hpi, hfv, _⟩ := putF_is hp
    obtain ⟨hxl, hxs⟩ := oks_small hpi.ok
    obtain ⟨y, hy1, hy2, hy3⟩ := put_twice hp (fld_other hfv)
    obtain ⟨hyl, hys⟩ := oks_small (putF_is hy1).1.ok
    have HXS := Lib.hid hxs
    have HYS := Lib.hid hys
    have HYS2 : Hid (∀ z ∈ y, SmallF 1073741824 z) := fun z hz => (hys z hz).up (by omega)
    have HXL : Hid (x.length ≤ 1073741824 ∧ x.length ≤ maxLen) := by unfold maxLen; exact ⟨by omega, by omega⟩
    have HYL : Hid (y.length ≤ 1073741824 ∧ y.length ≤ maxLen) := by unfold maxLen; exact ⟨by omega, by omega⟩
    have HG : Hid (getF y (str f.name).data.toList = some [111, 116, 104, 101, 114]) := by show _ = _; rw [str_list]; exact hy2
    have HP1 : Hid (∀ u, OwnF w.heap.size v xs u → Calls Tryd.prog 24 #[v, .agg #[.string (str f.name), .string (str f.val)]] u (PutTo x true u)) := fun u => HP.out u _ _ (by rw [hp]; rfl) (by rw [hp]; rfl)
    have HP2 : Hid (∀ u, OwnF w.heap.size v xs u → Calls Tryd.prog 25 #[v, .agg #[.string (str f.name), .string (str f.val)]] u (PutTo x true u)) := fun u => HPS.out u _ _ (by rw [hp]; rfl) (by rw [hp]; rfl)
    have hso : SmallF 1073741000 ⟨f.name, [111, 116, 104, 101, 114]⟩ := (isFld_small (fld_other hfv)).up (by omega)
    have HP3 : Hid (∀ B r u, OwnF B r x u → Calls Tryd.prog 24 #[r, .agg #[.string (str f.name), .string ⟨#[111, 116, 104, 101, 114]⟩]] u (PutTo y true u)) := fun B r u h =>
      (putField_any B r x ⟨f.name, [111, 116, 104, 101, 114]⟩ u h HXL.out.1 HXS.out hso).mono fun e w' h' => putRet_to (by rw [hy1]; rfl) (by rw [hy1]; rfl) h'
    have HP4 : Hid (∀ B r u, OwnF B r y u → Calls Tryd.prog 24 #[r, .agg #[.string (str f.name), .string (str f.val)]] u (PutTo x true u)) := fun B r u h =>
      (putField_any B r y f u h HYL.out.1 HYS.out HSF.out).mono fun e w' h' => putRet_to (by rw [hy3]; rfl) (by rw [hy3]; rfl) h'
    clear hp HP HPS hbA hb1 ho hsm hsf hl4 hpi hfv hxl hxs hyl hys hy1 hy2 hy3
    generalize str f.name = n0 at *
    generalize str f.val = v0 at *
    obtain ⟨d1, _, hO1, _⟩ := HK.out _ (Below.refl _ _)
    have HO1 := Lib.hid hO1
    clear hO1
    go_wp2_with fail
    refine (HP1.out _ HO1.out).mono ?_
    rintro e w2 ⟨a2, c2, rfl, ho2, hr2, hb2⟩
    have HOX := Lib.hid ho2
    have HR2 := Lib.hid hr2
    have HB2 := Lib.hid hb2
    obtain ⟨d2, _, hO2, _⟩ := HK.out _ HB2.out
    have HO2 := Lib.hid hO2
    clear hr2 hb2 d1 hO2 ho2
    go_wp2_with fail
    refine (HP2.out _ HO2.out).mono ?_
    rintro e w3 ⟨a3, c3, rfl, _, hr3, hb3⟩
    have HR3 := Lib.hid hr3
    have HOX3 := Lib.hid (HOX.out.keep hb3)
    have HR23 := Lib.hid (HR2.out.below hb3)
    have HB3 := Lib.hid (nx HB2.out hb3)
    clear hr3 hb3 d2
    go_wp2_with fail
    refine (fieldsSame_any a2 a3 _ c2 _ c3 x x _ HR23.out HR3.out HXL.out.2 HXL.out.2).mono ?_
    rintro e w4 ⟨rfl, hb4⟩
    rw [decide_eq_true (rfl : x = x)]
    have HR24 := Lib.hid (HR23.out.below hb4)
    have HOX4 := Lib.hid (HOX3.out.keep hb4)
    have HB4 := Lib.hid (nx HB3.out hb4)
    obtain ⟨d4, z4, _, _⟩ := HK.out _ HB4.out
    clear hb4
    have HD4 := Lib.hid d4
    have Z4 := Lib.hid z4
    have hbox := Below.alloc (o := .cells #[.string n0, .string ⟨#[111, 116, 104, 101, 114]⟩] 24) (Below.refl w4.heap.size w4) (Nat.le_refl _) 
    have HBX := Lib.hid hbox
    clear hbox z4
    go_wp2_with fail
    refine (HP3.out _ _ _ (HOX4.out.keep HBX.out)).mono ?_
    rintro e w5 ⟨a5, c5, rfl, ho5, hr5, hb5⟩
    have HOY := Lib.hid ho5
    have HRY := Lib.hid hr5
    have HB45 := Lib.hid (nx HBX.out hb5)
    have d5 : ∀ i, w5.cell? ⟨w1.heap.size, i, none⟩ = #[Value.string n0, .string v0][i]? := fun i => (below_at HB45.out Z4.out).trans (HD4.out i)
    clear ho5 hr5 hb5 d4
    go_wp2_with fail
    refine (HP4.out _ _ _ HOY.out).mono ?_
    rintro e w6 ⟨a6, c6, rfl, _, hr6, hb6⟩
    have HRX := Lib.hid hr6
    have HRY6 := Lib.hid (HRY.out.below hb6)
    have HB46 := Lib.hid (nx HB45.out hb6)
    have d6 : ∀ i, w6.cell? ⟨w1.heap.size, i, none⟩ = #[Value.string n0, .string v0][i]? := fun i => (below_at HB46.out Z4.out).trans (HD4.out i)
    clear hr6 hb6 d5
    go_wp2_with fail
    refine (getField_any a5 _ c5 y n0 _ HRY6.out HYL.out.1 HYS2.out hzn).mono ?_
    rintro e w7 ⟨rfl, hb7⟩
    unfold getR
    rw [HG.out]
    have hov : str ((some [111, 116, 104, 101, (114 : UInt8)]).getD []) = ⟨#[111, 116, 104, 101, 114]⟩ := rfl
    have hos : (some [111, 116, 104, 101, (114 : UInt8)]).isSome = true := rfl
    rw [hov, hos]
    have hb47 : Below w4.heap.size w4 w7 := nx HB46.out hb7
    go_wp2_with fail
    refine (fieldsSame_any a6 a2 _ c6 _ c2 x x _ (HRX.out.below hb7) (HR24.out.below hb47) HXL.out.2 HXL.out.2).mono ?_
    rintro e w8 ⟨rfl, hb8⟩
    rw [decide_eq_true (rfl : x = x)]
    go_wp2
    go_ret
    exact ⟨rfl, (HK.out _ (nx HB4.out (nx hb47 hb8))).2.2.2⟩
end Go.Proofs.YtfjpajeipihlaaaDoor
