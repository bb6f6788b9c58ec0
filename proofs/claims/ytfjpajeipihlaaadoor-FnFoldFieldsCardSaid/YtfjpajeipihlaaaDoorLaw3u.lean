/-
  FnFoldFields: the law's walk. For every input of the law: it returns true, and the input reads as it did. Conditions: none but the statement's own.
-/
import Derived.Test.YtfjpajeipihlaaaDoorLaw0
import Derived.Test.YtfjpajeipihlaaaDoorDrawR
import Derived.Test.YtfjpajeipihlaaaDoorDraw2
import Derived.Test.YtfjpajeipihlaaaDoorSameF
import Derived.Test.YtfjpajeipihlaaaDoorReadL
import Derived.Test.YtfjpajeipihlaaaDoorReadT
namespace Go.Proofs.YtfjpajeipihlaaaDoor
open Go.ChangeShapes Go.WideShapes Go.ChangeAt Go.RowKit
open Go.ChangeMaps (open_string shut_string)

theorem ownL_slice {B : Nat} {v : Value} {xs : List (List UInt8)} {w : World} (h : OwnL B v xs w) : ∃ a c, v = .slice a xs.length c ∧ RdL w a xs.length xs ∧ xs.length ≤ c ∧ c ≤ maxLen := by
  obtain ⟨a, c, rfl, hr, _⟩ := h.read
  refine ⟨a, c, rfl, hr, ?_⟩
  rcases h.2 with ⟨hv, h0⟩ | ⟨g, cap, cur, hv, _, _, hq1, hq2, _⟩
  · injection hv with _ _ h3; unfold maxLen; omega
  · injection hv with _ _ h3; exact ⟨by omega, by omega⟩
/-- Fields read: as a slice. -/
def ReadTo (fs : List Fld) (ok : Bool) (w : World) (e : Ending) (w' : World) : Prop := ∃ a c, e = .returned (.tuple #[.slice a fs.length c, .bool ok]) ∧ RdF w' a fs.length fs ∧ fs.length ≤ maxLen ∧ Below w.heap.size w w'
theorem readRet_to {xs : List (List UInt8)} {fs : List Fld} {ok : Bool} {w w' : World} {e : Ending} (h1 : (readFs xs).getD [] = fs) (h2 : (readFs xs).isSome = ok) (h : ReadRet xs w e w') : ReadTo fs ok w e w' := by
  obtain ⟨u, rfl, ho, hb⟩ := h
  rw [h1] at ho
  rw [h2]
  obtain ⟨a, c, rfl, hr, hm, _⟩ := ho.read fldC_len
  exact ⟨a, c, rfl, hr, hm, hb⟩
theorem foldFs_all {xs : List Fld} (h : fldsOk xs = true) : foldFs xs = foldAll xs := by unfold foldFs; rw [if_pos h]
theorem oks_of {xs : List Fld} (h : fldsOk xs = true) : xs.length ≤ 20 ∧ ∀ x ∈ xs, SmallF 1073741000 x :=
  ⟨(fldsOk_iff.1 h).2, fun x hx => (isFld_small ((fldsOk_iff.1 h).1 x hx)).up (by omega)⟩
theorem read_small {xs : List Fld} (hl : xs.length ≤ 20) : (foldFs xs).length ≤ 1073741824 ∧ (foldFs xs).flatten.length ≤ 1073741000 := by
  have h := foldFs_small xs
  have h2 := flatten_le h.2
  have h3 : 182 * (foldFs xs).length ≤ 182 * 3660 := Nat.mul_le_mul_left _ (by omega)
  exact ⟨by omega, by omega⟩
set_option maxRecDepth 100000 in
set_option maxHeartbeats 4000000 in
theorem fnFoldFields_walk (a : Option Addr) (n c : Nat) (a2 : Option Addr) (n2 c2 : Nat) (w : World) (hc : Code w a n) (hnc : n ≤ c) (hm : c ≤ maxLen) (hc2 : Code w a2 n2) (hnc2 : n2 ≤ c2) (hm2 : c2 ≤ maxLen) :
    Calls Tryd.prog 4 #[.slice a n c, .slice a2 n2 c2] w fun e w' => e = .returned (.bool true) ∧ Below w.heap.size w w' := by
  have hm' := hm
  have hm2' := hm2
  unfold maxLen at hm' hm2'
  by_cases hn : 1048576 < n
  · have hd : decide ((1048576 : Int) < n) = true := by simp; omega
    go_enter Tryd.func4, Tryd.ntmps4
    go_wp2
    go_ret
    exact ⟨rfl, Below.refl _ _⟩
  have hd : decide ((1048576 : Int) < n) = false := by simp; omega
  by_cases hn2 : 1048576 < n2
  · have hd2 : decide ((1048576 : Int) < n2) = true := by simp; omega
    go_enter Tryd.func4, Tryd.ntmps4
    go_wp2
    go_ret
    exact ⟨rfl, Below.refl _ _⟩
  have hd2 : decide ((1048576 : Int) < n2) = false := by simp; omega
  go_enter Tryd.func4, Tryd.ntmps4
  go_wp2_with fail
  refine (drawFoldFields_any a n c w hc hnc hm).mono ?_
  rintro e w1 ⟨v, xs, rfl, ho, hl4, hsm, hb1⟩
  have HSM : Hid (∀ x ∈ xs, SmallF 1073741000 x) := fun x hx => (hsm x hx).up (by omega)
  obtain ⟨ax, cx, rfl, hd1, hmx, _⟩ := ho.read fldC_len
  have HD := Lib.hid hd1
  have HL4 : Hid (xs.length ≤ 1073741824 ∧ xs.length ≤ maxLen) := ⟨by omega, hmx⟩
  have HRS := Lib.hid (read_small (xs := xs) (by omega))
  clear hd1 ho hsm hl4 hmx
  go_wp2_with fail
  refine (foldFields_any ax _ cx xs _ HD.out HL4.out.1 HSM.out).mono ?_
  rintro e w2 ⟨v2, rfl, ho2, hb2⟩
  obtain ⟨ay, cy, rfl, hr2, hy1, hy2⟩ := ownL_slice ho2
  have HR2 := Lib.hid hr2
  have HD2 := Lib.hid (HD.out.below hb2)
  have HB2 := Lib.hid (nx hb1 hb2)
  have HY : Hid ((foldFs xs).length ≤ cy ∧ cy ≤ maxLen) := ⟨hy1, hy2⟩
  clear ho2 hr2 hb1 hb2 hy1 hy2
  go_wp2_with fail
  refine (foldFieldsS_any ax _ cx xs _ HD2.out HL4.out.1 HSM.out).mono ?_
  rintro e w3 ⟨v3, rfl, ho3, hb3⟩
  obtain ⟨az, cz, rfl, hr3, hmz⟩ := ho3.read
  have HR23 := Lib.hid (HR2.out.below hb3)
  have HR3 := Lib.hid hr3
  have HD3 := Lib.hid (HD2.out.below hb3)
  have HB3 := Lib.hid (nx HB2.out hb3)
  have HMZ := Lib.hid hmz
  clear ho3 hr3 hb3 hmz
  have HRD : Hid (fldsOk xs = true → readFs (foldFs xs) = some xs) := fun h => by rw [foldFs_all h]; exact read_fold h
  generalize foldFs xs = fx at *
  go_wp2_with fail
  refine (mwTexts_any _ _ _ _ _ _ fx fx _ HR23.out HR3.out HMZ.out HMZ.out).mono ?_
  rintro e w4 ⟨rfl, hb4⟩
  rw [decide_eq_true (rfl : fx = fx)]
  have HR24 := Lib.hid (HR23.out.below hb4)
  have HD4 := Lib.hid (HD3.out.below hb4)
  have HB4 := Lib.hid (nx HB3.out hb4)
  clear hb4
  cases hok : fldsOk xs
  · have HOK := Lib.hid hok
    have HBW := HB4
    clear hok HRD
    go_wp2_with fail
    refine (drawReadFields_any a2 n2 c2 _ (hc2.below HBW.out) hnc2 hm2).mono ?_
    rintro e w7 ⟨v7, ys, rfl, ho7, hl7, hs7, hb7⟩
    obtain ⟨at7, ct7, rfl, hr7, hy1, hy2⟩ := ownL_slice ho7
    have hfl : ys.flatten.length ≤ 1073741000 := by
      have h2 := flatten_le hs7
      have h3 : 302 * ys.length ≤ 302 * 1000 := Nat.mul_le_mul_left _ hl7
      omega
    have HY7 : Hid (ys.length ≤ ct7 ∧ ct7 ≤ maxLen ∧ ys.length ≤ 1073741824 ∧ ys.flatten.length ≤ 1073741000) := ⟨hy1, hy2, by omega, hfl⟩
    have HR7 := Lib.hid hr7
    have HB7 := Lib.hid (nx HBW.out hb7)
    clear ho7 hl7 hs7 hb7 hr7 hy1 hy2 hfl
    have HRA : Hid (∀ u, RdL u at7 ys.length ys → Calls Tryd.prog 16 #[.slice at7 ys.length ct7] u (ReadRet ys u)) := fun u h => readFields_any at7 _ ct7 ys u h HY7.out.1 HY7.out.2.1 HY7.out.2.2.1 HY7.out.2.2.2
    have HRZ : Hid (∀ u, RdL u at7 ys.length ys → Calls Tryd.prog 22 #[.slice at7 ys.length ct7] u (ReadRet ys u)) := fun u h => readFieldsS_any at7 _ ct7 ys u h HY7.out.2.2.1 HY7.out.2.2.2
    cases hrf : readFs ys with
    | none =>
      have HRN := Lib.hid hrf
      clear hrf
      go_wp2_with fail
      refine (HRA.out _ HR7.out).mono ?_
      intro e w8 hret
      obtain ⟨ag, cg, rfl, hrg, hmg, hb8⟩ := readRet_to (ok := false) (fs := []) (by rw [HRN.out]; rfl) (by rw [HRN.out]; rfl) hret
      have HRG := Lib.hid hrg
      have HR78 := Lib.hid (HR7.out.below hb8)
      have HB8 := Lib.hid (nx HB7.out hb8)
      have HMG := Lib.hid hmg
      clear hret hrg hb8 hmg
      go_wp2_with fail
      refine (HRZ.out _ HR78.out).mono ?_
      intro e w9 hret
      obtain ⟨ah, ch, rfl, hrh, hmh, hb9⟩ := readRet_to (ok := false) (fs := []) (by rw [HRN.out]; rfl) (by rw [HRN.out]; rfl) hret
      have HRH := Lib.hid hrh
      have HRG9 := Lib.hid (HRG.out.below hb9)
      have HB9 := Lib.hid (nx HB8.out hb9)
      clear hret hrh hb9 hmh
      go_wp2_with fail
      refine (fieldsSame_any ag ah _ cg _ ch [] [] _ HRG9.out HRH.out HMG.out HMG.out).mono ?_
      rintro e wa ⟨rfl, hba⟩
      rw [decide_eq_true (rfl : ([] : List Fld) = [])]
      have HRGa := Lib.hid (HRG9.out.below hba)
      have HRHa := Lib.hid (HRH.out.below hba)
      have HBa := Lib.hid (nx HB9.out hba)
      clear hba
      go_wp2_with fail
      refine (fieldsSame_any ag ah _ cg _ ch [] [] _ HRGa.out HRHa.out HMG.out HMG.out).mono ?_
      rintro e wb ⟨rfl, hbb⟩
      rw [decide_eq_true (rfl : ([] : List Fld) = [])]
      go_wp2
      go_ret
      exact ⟨rfl, nx HBa.out hbb⟩
    | some gs =>
      have HRN := Lib.hid hrf
      have hgo := readFs_valid hrf
      have hgl := (oks_of hgo).1
      have HGO := Lib.hid hgo
      have HGS := Lib.hid (oks_of hgo).2
      have HGL : Hid (gs.length ≤ 1073741824 ∧ gs.length ≤ maxLen) := by unfold maxLen; exact ⟨by omega, by omega⟩
      have HGR := Lib.hid (read_small hgl)
      have HGB : Hid (readFs (foldFs gs) = some gs) := by show _ = _; rw [foldFs_all hgo]; exact read_fold hgo
      clear hrf hgl hgo
      go_wp2_with fail
      refine (HRA.out _ HR7.out).mono ?_
      intro e w8 hret
      obtain ⟨ag, cg, rfl, hrg, _, hb8⟩ := readRet_to (ok := true) (fs := gs) (by rw [HRN.out]; rfl) (by rw [HRN.out]; rfl) hret
      have HRG := Lib.hid hrg
      have HR78 := Lib.hid (HR7.out.below hb8)
      have HB8 := Lib.hid (nx HB7.out hb8)
      clear hret hrg hb8
      go_wp2_with fail
      refine (HRZ.out _ HR78.out).mono ?_
      intro e w9 hret
      obtain ⟨ah, ch, rfl, hrh, _, hb9⟩ := readRet_to (ok := true) (fs := gs) (by rw [HRN.out]; rfl) (by rw [HRN.out]; rfl) hret
      have HRH := Lib.hid hrh
      have HRG9 := Lib.hid (HRG.out.below hb9)
      have HB9 := Lib.hid (nx HB8.out hb9)
      clear hret hrh hb9
      go_wp2_with fail
      refine (fieldsSame_any ag ah _ cg _ ch gs gs _ HRG9.out HRH.out HGL.out.2 HGL.out.2).mono ?_
      rintro e wa ⟨rfl, hba⟩
      rw [decide_eq_true (rfl : gs = gs)]
      have HRGa := Lib.hid (HRG9.out.below hba)
      have HBa := Lib.hid (nx HB9.out hba)
      clear hba
      go_wp2_with fail
      refine (foldFields_any ag _ cg gs _ HRGa.out HGL.out.1 HGS.out).mono ?_
      rintro e wb ⟨vb, rfl, hob, hbb⟩
      rw [HGO.out]
      obtain ⟨al, cl, rfl, hrl, hl1, hl2⟩ := ownL_slice hob
      have HRL := Lib.hid hrl
      have HRGb := Lib.hid (HRGa.out.below hbb)
      have HBb := Lib.hid (nx HBa.out hbb)
      have HLL : Hid ((foldFs gs).length ≤ cl ∧ cl ≤ maxLen) := ⟨hl1, hl2⟩
      clear hob hrl hbb hl1 hl2
      generalize foldFs gs = fg at *
      go_wp2_with fail
      refine (readFields_any al _ cl fg _ HRL.out HLL.out.1 HLL.out.2 HGR.out.1 HGR.out.2).mono ?_
      intro e wc hret
      obtain ⟨ak, ck, rfl, hrk, _, hbc⟩ := readRet_to (ok := true) (fs := gs) (by rw [HGB.out]; rfl) (by rw [HGB.out]; rfl) hret
      have HRK := Lib.hid hrk
      have HRGc := Lib.hid (HRGb.out.below hbc)
      have HBc := Lib.hid (nx HBb.out hbc)
      clear hret hrk hbc
      go_wp2_with fail
      refine (fieldsSame_any ak ag _ ck _ cg gs gs _ HRK.out HRGc.out HGL.out.2 HGL.out.2).mono ?_
      rintro e wd ⟨rfl, hbd⟩
      rw [decide_eq_true (rfl : gs = gs)]
      go_wp2
      go_ret
      exact ⟨rfl, nx HBc.out hbd⟩
  · have HOK := Lib.hid hok
    have HRF := Lib.hid (HRD.out hok)
    clear hok HRD
    go_wp2_with fail
    refine (readFields_any ay _ cy fx _ HR24.out HY.out.1 HY.out.2 HRS.out.1 HRS.out.2).mono ?_
    intro e w5 hret
    obtain ⟨ab, cb, rfl, hrb, hmb, hb5⟩ := readRet_to (ok := true) (fs := xs) (by rw [HRF.out]; rfl) (by rw [HRF.out]; rfl) hret
    have HRB := Lib.hid hrb
    have HD5 := Lib.hid (HD4.out.below hb5)
    have HB5 := Lib.hid (nx HB4.out hb5)
    clear hret hrb hb5
    go_wp2_with fail
    refine (fieldsSame_any ab ax _ cb _ cx xs xs _ HRB.out HD5.out HL4.out.2 HL4.out.2).mono ?_
    rintro e w6 ⟨rfl, hb6⟩
    rw [decide_eq_true (rfl : xs = xs)]
    have HBW := Lib.hid (nx HB5.out hb6)
    clear hb6
    go_wp2_with fail
    refine (drawReadFields_any a2 n2 c2 _ (hc2.below HBW.out) hnc2 hm2).mono ?_
    rintro e w7 ⟨v7, ys, rfl, ho7, hl7, hs7, hb7⟩
    obtain ⟨at7, ct7, rfl, hr7, hy1, hy2⟩ := ownL_slice ho7
    have hfl : ys.flatten.length ≤ 1073741000 := by
      have h2 := flatten_le hs7
      have h3 : 302 * ys.length ≤ 302 * 1000 := Nat.mul_le_mul_left _ hl7
      omega
    have HY7 : Hid (ys.length ≤ ct7 ∧ ct7 ≤ maxLen ∧ ys.length ≤ 1073741824 ∧ ys.flatten.length ≤ 1073741000) := ⟨hy1, hy2, by omega, hfl⟩
    have HR7 := Lib.hid hr7
    have HB7 := Lib.hid (nx HBW.out hb7)
    clear ho7 hl7 hs7 hb7 hr7 hy1 hy2 hfl
    have HRA : Hid (∀ u, RdL u at7 ys.length ys → Calls Tryd.prog 16 #[.slice at7 ys.length ct7] u (ReadRet ys u)) := fun u h => readFields_any at7 _ ct7 ys u h HY7.out.1 HY7.out.2.1 HY7.out.2.2.1 HY7.out.2.2.2
    have HRZ : Hid (∀ u, RdL u at7 ys.length ys → Calls Tryd.prog 22 #[.slice at7 ys.length ct7] u (ReadRet ys u)) := fun u h => readFieldsS_any at7 _ ct7 ys u h HY7.out.2.2.1 HY7.out.2.2.2
    cases hrf : readFs ys with
    | none =>
      have HRN := Lib.hid hrf
      clear hrf
      go_wp2_with fail
      refine (HRA.out _ HR7.out).mono ?_
      intro e w8 hret
      obtain ⟨ag, cg, rfl, hrg, hmg, hb8⟩ := readRet_to (ok := false) (fs := []) (by rw [HRN.out]; rfl) (by rw [HRN.out]; rfl) hret
      have HRG := Lib.hid hrg
      have HR78 := Lib.hid (HR7.out.below hb8)
      have HB8 := Lib.hid (nx HB7.out hb8)
      have HMG := Lib.hid hmg
      clear hret hrg hb8 hmg
      go_wp2_with fail
      refine (HRZ.out _ HR78.out).mono ?_
      intro e w9 hret
      obtain ⟨ah, ch, rfl, hrh, hmh, hb9⟩ := readRet_to (ok := false) (fs := []) (by rw [HRN.out]; rfl) (by rw [HRN.out]; rfl) hret
      have HRH := Lib.hid hrh
      have HRG9 := Lib.hid (HRG.out.below hb9)
      have HB9 := Lib.hid (nx HB8.out hb9)
      clear hret hrh hb9 hmh
      go_wp2_with fail
      refine (fieldsSame_any ag ah _ cg _ ch [] [] _ HRG9.out HRH.out HMG.out HMG.out).mono ?_
      rintro e wa ⟨rfl, hba⟩
      rw [decide_eq_true (rfl : ([] : List Fld) = [])]
      have HRGa := Lib.hid (HRG9.out.below hba)
      have HRHa := Lib.hid (HRH.out.below hba)
      have HBa := Lib.hid (nx HB9.out hba)
      clear hba
      go_wp2_with fail
      refine (fieldsSame_any ag ah _ cg _ ch [] [] _ HRGa.out HRHa.out HMG.out HMG.out).mono ?_
      rintro e wb ⟨rfl, hbb⟩
      rw [decide_eq_true (rfl : ([] : List Fld) = [])]
      go_wp2
      go_ret
      exact ⟨rfl, nx HBa.out hbb⟩
    | some gs =>
      have HRN := Lib.hid hrf
      have hgo := readFs_valid hrf
      have hgl := (oks_of hgo).1
      have HGO := Lib.hid hgo
      have HGS := Lib.hid (oks_of hgo).2
      have HGL : Hid (gs.length ≤ 1073741824 ∧ gs.length ≤ maxLen) := by unfold maxLen; exact ⟨by omega, by omega⟩
      have HGR := Lib.hid (read_small hgl)
      have HGB : Hid (readFs (foldFs gs) = some gs) := by show _ = _; rw [foldFs_all hgo]; exact read_fold hgo
      clear hrf hgl hgo
      go_wp2_with fail
      refine (HRA.out _ HR7.out).mono ?_
      intro e w8 hret
      obtain ⟨ag, cg, rfl, hrg, _, hb8⟩ := readRet_to (ok := true) (fs := gs) (by rw [HRN.out]; rfl) (by rw [HRN.out]; rfl) hret
      have HRG := Lib.hid hrg
      have HR78 := Lib.hid (HR7.out.below hb8)
      have HB8 := Lib.hid (nx HB7.out hb8)
      clear hret hrg hb8
      go_wp2_with fail
      refine (HRZ.out _ HR78.out).mono ?_
      intro e w9 hret
      obtain ⟨ah, ch, rfl, hrh, _, hb9⟩ := readRet_to (ok := true) (fs := gs) (by rw [HRN.out]; rfl) (by rw [HRN.out]; rfl) hret
      have HRH := Lib.hid hrh
      have HRG9 := Lib.hid (HRG.out.below hb9)
      have HB9 := Lib.hid (nx HB8.out hb9)
      clear hret hrh hb9
      go_wp2_with fail
      refine (fieldsSame_any ag ah _ cg _ ch gs gs _ HRG9.out HRH.out HGL.out.2 HGL.out.2).mono ?_
      rintro e wa ⟨rfl, hba⟩
      rw [decide_eq_true (rfl : gs = gs)]
      have HRGa := Lib.hid (HRG9.out.below hba)
      have HBa := Lib.hid (nx HB9.out hba)
      clear hba
      go_wp2_with fail
      refine (foldFields_any ag _ cg gs _ HRGa.out HGL.out.1 HGS.out).mono ?_
      rintro e wb ⟨vb, rfl, hob, hbb⟩
      rw [HGO.out]
      obtain ⟨al, cl, rfl, hrl, hl1, hl2⟩ := ownL_slice hob
      have HRL := Lib.hid hrl
      have HRGb := Lib.hid (HRGa.out.below hbb)
      have HBb := Lib.hid (nx HBa.out hbb)
      have HLL : Hid ((foldFs gs).length ≤ cl ∧ cl ≤ maxLen) := ⟨hl1, hl2⟩
      clear hob hrl hbb hl1 hl2
      generalize foldFs gs = fg at *
      go_wp2_with fail
      refine (readFields_any al _ cl fg _ HRL.out HLL.out.1 HLL.out.2 HGR.out.1 HGR.out.2).mono ?_
      intro e wc hret
      obtain ⟨ak, ck, rfl, hrk, _, hbc⟩ := readRet_to (ok := true) (fs := gs) (by rw [HGB.out]; rfl) (by rw [HGB.out]; rfl) hret
      have HRK := Lib.hid hrk
      have HRGc := Lib.hid (HRGb.out.below hbc)
      have HBc := Lib.hid (nx HBb.out hbc)
      clear hret hrk hbc
      go_wp2_with fail
      refine (fieldsSame_any ak ag _ ck _ cg gs gs _ HRK.out HRGc.out HGL.out.2 HGL.out.2).mono ?_
      rintro e wd ⟨rfl, hbd⟩
      rw [decide_eq_true (rfl : gs = gs)]
      go_wp2
      go_ret
      exact ⟨rfl, nx HBc.out hbd⟩
end Go.Proofs.YtfjpajeipihlaaaDoor
