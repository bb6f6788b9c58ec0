/-
  FnDropPut: the law's walk. For every input of the law: it returns true, and the input reads as it did. Conditions: none but the statement's own.
-/
import Derived.Test.YtfjpajeipihlaabDoorLaw0
import Derived.Test.YtfjpajeipihlaabDoorPutF
import Derived.Test.YtfjpajeipihlaabDoorSameF
import Derived.Deep.RegionWith
import Derived.Deep.RegionHeld3
import Derived.BigRegion
namespace Go.Proofs.YtfjpajeipihlaabDoor
open Go.ChangeShapes Go.WideShapes Go.ChangeAt Go.RowKit
open Go.ChangeMaps (open_string shut_string)

/-- A value put: as a slice. -/
def PutTo (ys : List Fld) (ok : Bool) (w : World) (e : Ending) (w' : World) : Prop := ∃ a c, e = .returned (.tuple #[.slice a ys.length c, .bool ok]) ∧ RdF w' a ys.length ys ∧ ys.length ≤ c ∧ Below w.heap.size w w'
theorem putRet_to {xs ys : List Fld} {f : Fld} {ok : Bool} {w w' : World} {e : Ending} (h1 : (putF xs f).getD [] = ys) (h2 : (putF xs f).isSome = ok) (h : PutRet xs f w e w') : PutTo ys ok w e w' := by
  obtain ⟨u, rfl, ho, hb⟩ := h
  rw [h1] at ho
  rw [h2]
  obtain ⟨a, c, rfl, hr, _, hc⟩ := ho.read fldC_len
  exact ⟨a, c, rfl, hr, hc, hb⟩
set_option maxRecDepth 100000 in
set_option maxHeartbeats 4000000 in
theorem fnDropPut_walk (a : Option Addr) (n c : Nat) (w : World) (hc : Code w a n) (hnc : n ≤ c) (hm : c ≤ maxLen) :
    Calls Tryd.prog 3 #[.slice a n c] w fun e w' => e = .returned (.bool true) ∧ Below w.heap.size w w' := by
  have hm' := hm
  unfold maxLen at hm'
  by_cases hn : 1048576 < n
  · have hd : decide ((1048576 : Int) < n) = true := by simp; omega
    go_enter Tryd.func3, Tryd.ntmps3
    go_wp2
    go_ret
    exact ⟨rfl, Below.refl _ _⟩
  have hd : decide ((1048576 : Int) < n) = false := by simp; omega
  go_enter Tryd.func3, Tryd.ntmps3
  go_wp2_with fail
  refine (drawDropField_any a n c w hc hnc hm).mono ?_
  rintro e w1 ⟨v, xs, s, rfl, ho, hl4, hsm, hs10, hb1⟩
  obtain ⟨a1, c1, rfl, hd1, _, _⟩ := ho.read fldC_len
  have HSM : Hid (∀ x ∈ xs, SmallF 1073741824 x) := fun x hx => (hsm x hx).up (by omega)
  have HSD : Hid (∀ x ∈ dropF xs s.data.toList, SmallF 1073741000 x) := fun x hx => (hsm x (dropF_mem hx).1).up (by omega)
  have HD := Lib.hid hd1
  have hn1 : xs.length ≤ 1073741824 := by omega
  have hdl := dropF_len xs s.data.toList
  have HFS : Hid (str (fld s ⟨#[118]⟩).name = s ∧ str (fld s ⟨#[118]⟩).val = ⟨#[118]⟩) := ⟨str_of s, str_of ⟨#[118]⟩⟩
  have HSF : Hid (SmallF 1073741000 (fld s ⟨#[118]⟩)) := ⟨by show s.data.toList.length ≤ _; rw [size_list]; omega, by show (1 : Nat) ≤ _; omega⟩
  have HPN : Hid (∀ y, putF (dropF xs s.data.toList) (fld s ⟨#[118]⟩) = some y → y = dropF xs s.data.toList ++ [fld s ⟨#[118]⟩] ∧ countF y s.data.toList = 1) := fun y h => put_new h
  clear hd1 ho hsm
  have HDL : Hid ((dropF xs s.data.toList).length ≤ 4) := by show _ ≤ _; omega
  go_wp2_with fail
  refine (dropField_any a1 _ c1 xs s _ HD.out hn1 HSM.out (by omega)).mono ?_
  rintro e w2 ⟨v2, rfl, ho2, hb2⟩
  have HD1 := Lib.hid (HD.out.below hb2)
  have HB2 := Lib.hid (nx hb1 hb2)
  clear hb1
  generalize hds : dropF xs s.data.toList = ds at *
  have HDS := Lib.hid hds
  have HO2 := Lib.hid ho2
  obtain ⟨a2, c2, rfl, hd2, hz2, _⟩ := ho2.read fldC_len
  have HD2 := Lib.hid hd2
  clear ho2 hd2 hb2 hds
  go_wp2_with fail
  refine (dropFieldS_any a1 _ c1 xs s _ HD1.out hn1 HSM.out (by omega)).mono ?_
  rintro e w3 ⟨v3, rfl, ho3, hb3⟩
  rw [HDS.out] at ho3
  obtain ⟨a3, c3, rfl, hd3, hz3, _⟩ := ho3.read fldC_len
  have HO3 := Lib.hid (HO2.out.keep hb3)
  have HB3 := Lib.hid (nx HB2.out hb3)
  have HD23 := Lib.hid (HD2.out.below hb3)
  have HD3 := Lib.hid hd3
  clear ho3 hb3 hd3
  go_wp2_with fail
  refine (fieldsSame_any a2 a3 _ c2 _ c3 _ _ _ HD23.out HD3.out hz2 hz3).mono ?_
  rintro e w4 ⟨rfl, hb4⟩
  rw [decide_eq_true (rfl : ds = ds)]
  have HO4 := Lib.hid (HO3.out.keep hb4)
  have HB4 := Lib.hid (nx HB3.out hb4)
  clear hb4
  have hbA : Below w.heap.size w (w4.alloc (.cells #[.string s, .string ⟨#[118]⟩] 29)) := HB4.out.alloc HB4.out.size _
  have HK : Hid (∀ w', Below (w4.alloc (.cells #[.string s, .string ⟨#[118]⟩] 29)).heap.size (w4.alloc (.cells #[.string s, .string ⟨#[118]⟩] 29)) w' → (∀ i, w'.cell? ⟨w4.heap.size, i, none⟩ = #[Value.string s, .string ⟨#[118]⟩][i]?) ∧ Below w.heap.size w w') :=
    fun w' h => ⟨(fresh1 h).1, nx hbA h⟩
  have HO5 := Lib.hid (HO4.out.keep ((Below.refl _ _).alloc (o := .cells #[.string s, .string ⟨#[118]⟩] 29) (Nat.le_refl _)))
  have HP : Hid (∀ ys ok, (putF ds (fld s ⟨#[118]⟩)).getD [] = ys → (putF ds (fld s ⟨#[118]⟩)).isSome = ok → Calls Tryd.prog 13 #[.slice a2 ds.length c2, .agg #[.string s, .string ⟨#[118]⟩]] (w4.alloc (.cells #[.string s, .string ⟨#[118]⟩] 29)) (PutTo ys ok (w4.alloc (.cells #[.string s, .string ⟨#[118]⟩] 29)))) := fun ys ok h1 h2 => by
    have h := putField_any _ _ ds (fld s ⟨#[118]⟩) _ HO5.out (by have := HDL.out; omega) HSD.out HSF.out
    rw [HFS.out.1, HFS.out.2] at h
    exact h.mono fun e w' h' => putRet_to h1 h2 h'
  clear hbA
  cases hp : putF ds (fld s ⟨#[118]⟩) with
  | none =>
    have HP1 := Lib.hid (HP.out [] false (by rw [hp]; rfl) (by rw [hp]; rfl))
    clear hp
    go_wp2_with fail
    refine HP1.out.mono ?_
    rintro e w5 ⟨a5, c5, rfl, _, _, hb5⟩
    go_wp2
    go_ret
    exact ⟨rfl, (HK.out _ hb5).2⟩
  | some y =>
    obtain ⟨hy, hcy⟩ := HPN.out y hp
    have hyl : y.length = ds.length + 1 := by rw [hy]; simp
    have HP1 := Lib.hid (HP.out y true (by rw [hp]; rfl) (by rw [hp]; rfl))
    have HYS : Hid (∀ x ∈ y, SmallF 1073741824 x) := fun x hx => by
      rw [hy] at hx
      rcases List.mem_append.1 hx with h | h
      · exact (HSD.out x h).up (by omega)
      · rw [List.mem_singleton.1 h]; exact HSF.out.up (by omega)
    have HLAST : Hid (∃ h : ds.length < y.length, y[ds.length] = fld s ⟨#[118]⟩) := ⟨by omega, by subst hy; simp⟩
    have HCY := Lib.hid hcy
    have HYL := Lib.hid hyl
    clear hp hy hcy
    unfold PutTo at HP1
    have hMpos : y.length ≠ 0 := by omega
    clear hyl
    go_wp2_with fail
    refine HP1.out.mono ?_
    rintro e w5 ⟨a5, c5, rfl, hr5, hc5, hb5⟩
    have HR5 := Lib.hid hr5
    obtain ⟨b5, o5, rfl, hbl5, hcell5⟩ := hr5.2.resolve_left hMpos
    obtain ⟨hlt, hlast⟩ := HLAST.out
    obtain ⟨p0, p1⟩ := RdR.fld hcell5 hlt
    rw [hlast, HFS.out.1] at p0
    rw [hlast, HFS.out.2] at p1
    have HB5 := Lib.hid hb5
    obtain ⟨d5, _⟩ := HK.out _ HB5.out
    have HP0 := Lib.hid p0
    have HP2 := Lib.hid p1
    clear hlt hlast hcell5 hr5 hb5 hMpos HLAST
    have HS : Hid (∀ w', Below w5.heap.size w5 w' → w'.cell? ⟨w4.heap.size, 0, none⟩ = some (.string s) ∧ w'.cell? ⟨w4.heap.size, 1, none⟩ = some (.string ⟨#[118]⟩) ∧ w'.cell? ⟨b5, o5 + ds.length * 2, none⟩ = some (.string s) ∧ w'.cell? ⟨b5, o5 + ds.length * 2 + 1, none⟩ = some (.string ⟨#[118]⟩) ∧ Below w5.heap.size w5 w') := fun w' h =>
      ⟨(HK.out _ (nx HB5.out h)).1 0, (HK.out _ (nx HB5.out h)).1 1, by rw [below_at h hbl5]; exact HP0.out, by rw [below_at h hbl5]; exact HP2.out, h⟩
    have hnl := HDL.out
    generalize hM : y.length = M at *
    generalize ds.length = L at *
    have HML := Lib.hid HYL.out
    have hee0 : (s.toList == s.toList) = true := by simp
    have hee1 : ((ByteArray.mk #[118]).toList == (ByteArray.mk #[118]).toList) = true := by simp
    have hw1 : IntKind.i64.wrap ((M : Int) - 1) = (L : Int) := by
      rw [HML.out]
      have : L = 0 ∨ L = 1 ∨ L = 2 ∨ L = 3 ∨ L = 4 := by omega
      rcases this with rfl | rfl | rfl | rfl | rfl <;> decide
    have hw2 : IntKind.i64.wrap ((L : Int) + 1) = (M : Int) := by
      rw [HML.out]
      have : L = 0 ∨ L = 1 ∨ L = 2 ∨ L = 3 ∨ L = 4 := by omega
      rcases this with rfl | rfl | rfl | rfl | rfl <;> decide
    have hi0 : (0 : Int) ≤ (L : Int) := by omega
    have hi1 : (L : Int) < (M : Int) := by have := HML.out; omega
    have hi2 : L < M := by have := HML.out; omega
    have hMb : M ≤ 1073741824 := by have := HML.out; omega
    have HMB := Lib.hid hMb
    clear hM HYL
    have HCF : Hid (∀ u, Below w5.heap.size w5 u → Calls Tryd.prog 14 #[.slice (some ⟨b5, o5, none⟩) M c5, .string s] u fun e w' => e = .returned (.int .i64 1) ∧ Below u.heap.size u w') := fun u h => by
      have := countField_any (some ⟨b5, o5, none⟩) M c5 y s u (HR5.out.below h) HMB.out HYS.out (by omega)
      rw [HCY.out] at this; exact this
    have hs0 := HS.out w5 (Below.refl _ _)
    clear hc5
    go_wp2
    go_region_held3 (fun w' => w'.cell? ⟨w4.heap.size, 0, none⟩ = some (.string s) ∧ w'.cell? ⟨w4.heap.size, 1, none⟩ = some (.string ⟨#[118]⟩) ∧ w'.cell? ⟨b5, o5 + L * 2, none⟩ = some (.string s) ∧ w'.cell? ⟨b5, o5 + L * 2 + 1, none⟩ = some (.string ⟨#[118]⟩) ∧ Below w5.heap.size w5 w')
      (first
        | exact HS.out _ (Below.refl _ _)
        | exact HS.out _ (Below.refl _ _).drew
        | exact HS.out _ hb7)
      (first
        | (go_at_call 14
           refine (HCF.out _ (by go_split_ands; assumption)).mono ?_
           rintro e w6 ⟨rfl, hb6⟩
           have hb7 : Below w5.heap.size w5 w6 := nx (by go_split_ands; assumption) hb6))
    all_goals
      go_split_ands
      go_wp2
      go_ret
      exact ⟨rfl, (HK.out _ (nx HB5.out hb7)).2⟩
end Go.Proofs.YtfjpajeipihlaabDoor
