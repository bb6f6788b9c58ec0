/-
  Laws of chapter 3 on one field: each law's walk. For every input of the law: it returns true, and the input reads as it did. Conditions: none but the statement's own.
-/
import Derived.Test.YtfjpajeipihlaaaDoorLaw0
import Derived.Test.YtfjpajeipihlaaaDoorDrawF
import Derived.Test.YtfjpajeipihlaaaDoorFoldS
import Derived.Test.YtfjpajeipihlaaaDoorDraw2
import Derived.Deep.RegionWith
namespace Go.Proofs.YtfjpajeipihlaaaDoor
open Go.ChangeShapes Go.WideShapes Go.ChangeAt Go.RowKit
open Go.ChangeMaps (open_string shut_string)

theorem isFld_lowS (n v : ByteArray) : isFld (fld (lowS n) v) = isFld (fld n v) := by
  unfold isFld fld
  show (isFName (lowS n).data.toList && _) = _
  rw [lowS_list, isFName_low]
set_option maxRecDepth 100000 in
set_option maxHeartbeats 1000000 in
theorem fnFieldValid_walk (a : Option Addr) (n c : Nat) (w : World) (hc : Code w a n) (hnc : n ≤ c) (hm : c ≤ maxLen) :
    Calls Tryd.prog 6 #[.slice a n c] w fun e w' => e = .returned (.bool true) ∧ Below w.heap.size w w' := by
  have hm' := hm
  unfold maxLen at hm'
  by_cases hn : 1048576 < n
  · have hd : decide ((1048576 : Int) < n) = true := by simp; omega
    go_enter Tryd.func6, Tryd.ntmps6
    go_wp2
    go_ret
    exact ⟨rfl, Below.refl _ _⟩
  · have hd : decide ((1048576 : Int) < n) = false := by simp; omega
    go_enter Tryd.func6, Tryd.ntmps6
    go_wp2_with fail
    refine (drawFieldValid_any a n c w hc hnc hm).mono ?_
    rintro e w1 ⟨f, rfl, hsm, hb1⟩
    have hXV : fldV f = .agg #[.string (str f.name), .string (str f.val)] := rfl
    rw [hXV]
    clear hXV
    have HSM : Hid (SmallF 1073741000 f) := hsm.up (by omega)
    have hz0 : (str f.name).size ≤ 1073741000 := by rw [str_size]; exact HSM.out.1
    have hz1 : (str f.val).size ≤ 1073741000 := by rw [str_size]; exact HSM.out.2
    have HLW : Hid (isFld (fld (lowS (str f.name)) (str f.val)) = isFld f) := by show _ = _; rw [isFld_lowS, fld_str]
    have hlz : (lowS (str f.name)).size ≤ 1073741000 := by rw [lowS_size]; exact hz0
    have HNE := Lib.hid (foldF_ne f)
    have HLE := Lib.hid (foldF_len f).1
    have HV1 := Lib.hid (fieldValid_fld f)
    have HV2 := Lib.hid (fieldValidS_fld f)
    have HV3 := Lib.hid (foldField_any f)
    generalize str f.name = n0 at *
    generalize str f.val = v0 at *
    generalize hq : isFld f = q at *
    have HQ := Lib.hid hq
    have hbA := hb1.alloc hb1.size (.cells #[.string n0, .string v0] 24)
    clear hq hsm
    go_wp2_with fail
    refine (HV1.out _ HSM.out).mono ?_
    rintro e w2 ⟨rfl, hb2⟩
    obtain ⟨cA, fA, zA⟩ := fresh1 hb2
    have hbA2 := nx hbA hb2
    have hbB := hbA2.alloc hbA2.size (.cells #[.string n0, .string v0] 24)
    go_wp2_with fail
    refine (lowerText_any n0 _ (by omega)).mono ?_
    rintro e w3 ⟨rfl, hb3⟩
    obtain ⟨cB, fB, zB⟩ := fresh1 hb3
    have hbB3 := nx hbB hb3
    have hne : w2.heap.size ≠ w1.heap.size := by omega
    have hBelow3 : Below w2.heap.size w2 w3 := nx ((Below.refl _ _).alloc (Nat.le_refl _) _) hb3
    have cA3 : ∀ i, w3.cell? ⟨w1.heap.size, i, none⟩ = #[Value.string n0, .string v0][i]? := fun i => (below_at hBelow3 zA).trans (cA i)
    have HK : Hid (∀ w', Below (w3.setCell ⟨w2.heap.size, 0, none⟩ (.string (lowS n0))).heap.size (w3.setCell ⟨w2.heap.size, 0, none⟩ (.string (lowS n0))) w' →
        (∀ i, w'.cell? ⟨w1.heap.size, i, none⟩ = #[Value.string n0, .string v0][i]?) ∧ w'.cell? ⟨w2.heap.size, 0, none⟩ = some (.string (lowS n0)) ∧ w'.cell? ⟨w2.heap.size, 1, none⟩ = some (.string v0) ∧ Below w.heap.size w w') := fun w' h => by
      have hz3 : w1.heap.size < (w3.setCell ⟨w2.heap.size, 0, none⟩ (.string (lowS n0))).heap.size := by simp; omega
      have hz4 : w2.heap.size < (w3.setCell ⟨w2.heap.size, 0, none⟩ (.string (lowS n0))).heap.size := by simpa using zB
      refine ⟨fun i => ?_, ?_, ?_, ?_⟩
      · rw [below_at h hz3, cell_blk hne]; exact cA3 i
      · rw [below_at h hz4, cell_same (u := .string n0) (cB 0)]
      · rw [below_at h hz4, cell_off (by omega)]; exact cB 1
      · exact nx (hbB3.setCell (by show w.heap.size ≤ w2.heap.size; have := hbA2.size; omega) _) h
    clear hbA hbA2 hbB hbB3 hb1 hb2 hb3 hBelow3
    obtain ⟨dA, dB0, dB1, _⟩ := HK.out _ (Below.refl _ _)
    cases q
    · have hfl : (foldF f).length = 0 := by
        have := HNE.out
        cases hz : (foldF f).length with
        | zero => rfl
        | succ m => rw [hz] at this; simp at this
      have hf0 : foldF f = [] := List.length_eq_zero_iff.1 hfl
      have HF0 := Lib.hid hf0
      clear hfl hf0
      go_wp2_with fail
      refine (HV2.out _ HSM.out).mono ?_
      rintro e w4 ⟨rfl, hb4⟩
      obtain ⟨dA4, dB04, dB14, _⟩ := HK.out _ hb4
      have HB4 := Lib.hid hb4
      clear hb4 dA dB0 dB1
      go_wp2_with fail
      refine (HV3.out _ HSM.out).mono ?_
      rintro e w5 ⟨v5, rfl, ho5, hb5⟩
      rw [HF0.out] at ho5
      obtain ⟨a5, c5, rfl, hd5, _⟩ := ho5.read
      have HB5 := Lib.hid (nx HB4.out hb5)
      obtain ⟨dA5, dB05, dB15, _⟩ := HK.out _ HB5.out
      clear ho5 hd5 dA4 dB04 dB14
      go_wp2_with fail
      refine (fieldValid_any (lowS n0) v0 _ hlz hz1).mono ?_
      rintro e w6 ⟨rfl, hb6⟩
      rw [HLW.out]
      go_wp2
      go_ret
      exact ⟨rfl, (HK.out _ (nx HB5.out hb6)).2.2.2⟩
    · have hfl : 0 < (foldF f).length := HNE.out.2 rfl
      have hfi : (0 : Int) < ((foldF f).length : Int) := by omega
      go_wp2_with fail
      refine (HV2.out _ HSM.out).mono ?_
      rintro e w4 ⟨rfl, hb4⟩
      obtain ⟨dA4, dB04, dB14, _⟩ := HK.out _ hb4
      have HB4 := Lib.hid hb4
      clear hb4 dA dB0 dB1
      go_wp2_with fail
      refine (HV3.out _ HSM.out).mono ?_
      rintro e w5 ⟨v5, rfl, ho5, hb5⟩
      obtain ⟨a5, c5, rfl, hd5, _⟩ := ho5.read
      have HB5 := Lib.hid (nx HB4.out hb5)
      obtain ⟨dA5, dB05, dB15, _⟩ := HK.out _ HB5.out
      clear ho5 hd5 dA4 dB04 dB14
      go_wp2_with fail
      refine (fieldValid_any (lowS n0) v0 _ hlz hz1).mono ?_
      rintro e w6 ⟨rfl, hb6⟩
      rw [HLW.out]
      go_wp2
      go_ret
      exact ⟨rfl, (HK.out _ (nx HB5.out hb6)).2.2.2⟩
end Go.Proofs.YtfjpajeipihlaaaDoor
