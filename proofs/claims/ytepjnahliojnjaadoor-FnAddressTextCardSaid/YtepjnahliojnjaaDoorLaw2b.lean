/-
  Laws of chapter 2 on one address and its text, and on lists of one: each law's walk. For every input of the law: it returns true, and the input reads as it did. Conditions: none but the statement's own.
-/
import Derived.Test.YtepjnahliojnjaaDoorLaw2
import Derived.Deep.RegionWith
import Derived.Deep.RegionHeld3
namespace Go.Proofs.YtepjnahliojnjaaDoor
open Go.ChangeShapes Go.WideShapes Go.ChangeAt Go.RowKit
open Go.ChangeMaps (open_string shut_string)

theorem fmtL_one {x : Adr} (h : isAdr x = true) : fmtL [x] = fmtA x := by
  have hl := fmtA_len x
  rw [fmtA_val h] at hl ⊢
  unfold fmtL
  have e : fmtAll [x] = fmtT x := rfl
  rw [e, if_pos]
  simp [h]; omega
theorem parseL_one {x : Adr} (h : isAdr x = true) : parseL (fmtA x) = some [x] := by
  rw [← fmtL_one h]
  exact parse_list (by rw [fmtL_one h]; exact fmtA_ne.2 h)
set_option maxRecDepth 100000 in
set_option maxHeartbeats 1000000 in
theorem fnListOne_walk (a : Option Addr) (n c : Nat) (w : World) (en : Env w) (hc : Code w a n) (hnc : n ≤ c) (hm : c ≤ maxLen) :
    Calls Tryd.prog 8 #[.slice a n c] w fun e w' => e = .returned (.bool true) ∧ Below w.heap.size w w' := by
  have hm' := hm
  unfold maxLen at hm'
  by_cases hn : 1048576 < n
  · have hd : decide ((1048576 : Int) < n) = true := by simp; omega
    go_enter Tryd.func8, Tryd.ntmps8
    go_wp2
    go_ret
    exact ⟨rfl, Below.refl _ _⟩
  · have hd : decide ((1048576 : Int) < n) = false := by simp; omega
    go_enter Tryd.func8, Tryd.ntmps8
    go_wp2_with fail
    refine (drawParseAddress_any a n c w hc hnc hm).mono ?_
    rintro e w1 ⟨s, rfl, hs, hb1⟩
    have en1 := en.below hb1
    go_wp2_with fail
    refine (parseAddress_any s _ en1 (by omega)).mono ?_
    rintro e w2 ⟨rfl, hb2⟩
    have HSOME := Lib.hid (parseR_mem (l := s.data.toList))
    generalize hx : parseR s.data.toList = x at *
    generalize hok : (parseA s.data.toList).isSome = ok at *
    have HX := Lib.hid hx
    have HOK := Lib.hid hok
    have hXV : adrV x = .agg #[.string (str x.name), .string (str x.loc), .string (str x.dom)] := rfl
    have HXV := Lib.hid hXV
    rw [hXV]
    clear hx hok hXV
    have hb12 := nx hb1 hb2
    have hbA := hb12.alloc hb12.size (.cells #[.string (str x.name), .string (str x.loc), .string (str x.dom)] 30)
    go_wp2_with fail
    refine (parseAddressS_any s _ (by omega)).mono ?_
    rintro e w3 ⟨rfl, hb3⟩
    rw [HX.out, HOK.out, HXV.out]
    have hb13 := nx hbA hb3
    obtain ⟨cA, fA, zA⟩ := fresh1 hb3
    cases ok
    · go_wp2
      go_ret
      exact ⟨rfl, hb13.alloc hb13.size _⟩
    · have hxa := HSOME.out rfl
      have hv := parseA_valid hxa
      obtain ⟨z0, z1, z2⟩ := isAdr_small hv
      have HSM : Hid (∀ y ∈ [x], SmallA 1073741000 y) := by
        intro y hy
        simp only [List.mem_singleton] at hy
        subst hy
        exact ⟨by omega, by omega, by omega⟩
      rw [← str_size] at z0 z1 z2
      have HF : Hid (fmtA (adr (str x.name) (str x.loc) (str x.dom)) = fmtA x) := by show _ = _; rw [adr_str]
      have HL1 : Hid (fmtL [x] = fmtA x) := fmtL_one hv
      have HPL : Hid (parseLR (str (fmtA x)).data.toList = [x] ∧ (parseL (str (fmtA x)).data.toList).isSome = true) := by
        show _ ∧ _
        rw [str_list]; unfold parseLR; rw [parseL_one hv]; exact ⟨rfl, rfl⟩
      have hfl : (str (fmtA x)).size ≤ 157 := by rw [str_size]; exact fmtA_len x
      have hee : ((str (fmtA x)).toList == (str (fmtA x)).toList) = true := by simp
      clear hxa hv
      have hbB := hb13.alloc hb13.size (.cells #[.string (str x.name), .string (str x.loc), .string (str x.dom)] 30)
      have hb3B := hb3.alloc hb3.size (.cells #[.string (str x.name), .string (str x.loc), .string (str x.dom)] 30)
      go_wp2_with fail
      refine (formatAddress_any (str x.name) (str x.loc) (str x.dom) _ (en.below hbB) (by omega) (by omega) (by omega)).mono ?_
      rintro e w4 ⟨rfl, hb4⟩
      rw [HF.out]
      have hb14 := nx hbB hb4
      have hb34 := nx hb3B hb4
      go_wp2_with fail
      refine (parseList_any (str (fmtA x)) _ (en.below hb14) (by omega)).mono ?_
      rintro e w5 ⟨v5, rfl, ho, hb5⟩
      rw [HPL.out.2]
      rw [HPL.out.1] at ho
      obtain ⟨a5, c5, hv5, hr5, _, hc5⟩ := ho.read adrC_len
      have hv5 : v5 = .slice a5 1 c5 := hv5
      have hr5 : RdA w5 a5 1 [x] := hr5
      subst hv5
      have HR5 := Lib.hid hr5
      obtain ⟨b5, o5, rfl, hbl5, hcell5⟩ := hr5.2.resolve_left (by omega)
      have q0 : w5.cell? ⟨b5, o5, none⟩ = some (.string (str x.name)) := hcell5 0 Nat.zero_lt_one 0 _ rfl
      have q1 : w5.cell? ⟨b5, o5 + 1, none⟩ = some (.string (str x.loc)) := hcell5 0 Nat.zero_lt_one 1 _ rfl
      have q2 : w5.cell? ⟨b5, o5 + 2, none⟩ = some (.string (str x.dom)) := hcell5 0 Nat.zero_lt_one 2 _ rfl
      have hB := nx hb14 hb5
      have hA := nx hb34 hb5
      obtain ⟨cA5, fA5, zA5⟩ := fresh1 hA
      have hL : Below w5.heap.size w5 w5 := Below.refl _ _
      have HN : Hid (∀ {w' : World}, Below w5.heap.size w5 w' → RdA w' (some ⟨b5, o5, none⟩) 1 [x]) := fun {w'} k => HR5.out.below k
      clear hcell5 hr5 ho
      have HK : Hid (∀ w', Below w5.heap.size w5 w' → w'.cell? ⟨w2.heap.size, 0, none⟩ = some (.string (str x.name)) ∧ w'.cell? ⟨w2.heap.size, 1, none⟩ = some (.string (str x.loc)) ∧ w'.cell? ⟨w2.heap.size, 2, none⟩ = some (.string (str x.dom)) ∧ w'.cell? ⟨b5, o5, none⟩ = some (.string (str x.name)) ∧ w'.cell? ⟨b5, o5 + 1, none⟩ = some (.string (str x.loc)) ∧ w'.cell? ⟨b5, o5 + 2, none⟩ = some (.string (str x.dom)) ∧ Below w5.heap.size w5 w') := by
        intro w' k
        refine ⟨?_, ?_, ?_, ?_, ?_, ?_, k⟩
        · rw [below_at k zA5]; exact cA5 0
        · rw [below_at k zA5]; exact cA5 1
        · rw [below_at k zA5]; exact cA5 2
        · rw [← q0]; exact below_at k hbl5
        · rw [← q1]; exact below_at k hbl5
        · rw [← q2]; exact below_at k hbl5
      clear hL cA fA zA hb1 hb2 hb3 hb12 hbA hb13 hbB hb3B hb4 hb14 hb34 hb5 en1 hA cA5 fA5 zA5 q0 q1 q2
      go_wp2
      go_region_held3 (fun w' => w'.cell? ⟨w2.heap.size, 0, none⟩ = some (.string (str x.name)) ∧ w'.cell? ⟨w2.heap.size, 1, none⟩ = some (.string (str x.loc)) ∧ w'.cell? ⟨w2.heap.size, 2, none⟩ = some (.string (str x.dom)) ∧ w'.cell? ⟨b5, o5, none⟩ = some (.string (str x.name)) ∧ w'.cell? ⟨b5, o5 + 1, none⟩ = some (.string (str x.loc)) ∧ w'.cell? ⟨b5, o5 + 2, none⟩ = some (.string (str x.dom)) ∧ Below w5.heap.size w5 w')
        (first
          | exact HK.out _ (Below.refl _ _).drew
          | exact HK.out _ hb7)
        (first
          | (go_at_call 31
             refine (formatList_any _ _ _ [x] _ (en.below (nx hB (by go_split_ands; assumption))) (HN.out (by go_split_ands; assumption)) (by omega) HSM.out).mono ?_
             rintro e w6 ⟨rfl, hb6⟩
             rw [HL1.out]
             have hb7 : Below w5.heap.size w5 w6 := nx (by go_split_ands; assumption) hb6)
          | (go_at_call 21
             refine (formatAddress_any (str x.name) (str x.loc) (str x.dom) _ (en.below (nx hB (by go_split_ands; assumption))) (by omega) (by omega) (by omega)).mono ?_
             rintro e w6 ⟨rfl, hb6⟩
             rw [HF.out]
             have hb7 : Below w5.heap.size w5 w6 := nx (by go_split_ands; assumption) hb6))
      all_goals
        go_wp2
        go_ret
        exact ⟨rfl, nx hB (by go_split_ands; assumption)⟩
set_option maxRecDepth 100000 in
set_option maxHeartbeats 1000000 in
theorem fnAddressText_walk (a : Option Addr) (n c : Nat) (w : World) (en : Env w) (hc : Code w a n) (hnc : n ≤ c) (hm : c ≤ maxLen) :
    Calls Tryd.prog 4 #[.slice a n c] w fun e w' => e = .returned (.bool true) ∧ Below w.heap.size w w' := by
  have hm' := hm
  unfold maxLen at hm'
  by_cases hn : 1048576 < n
  · have hd : decide ((1048576 : Int) < n) = true := by simp; omega
    go_enter Tryd.func4, Tryd.ntmps4
    go_wp2
    go_ret
    exact ⟨rfl, Below.refl _ _⟩
  · have hd : decide ((1048576 : Int) < n) = false := by simp; omega
    go_enter Tryd.func4, Tryd.ntmps4
    go_wp2_with fail
    refine (drawFormatAddress_any a n c w hc hnc hm).mono ?_
    rintro e w1 ⟨x, rfl, ⟨z0, z1, z2⟩, hb1⟩
    rw [← str_size] at z0 z1 z2
    have hXV : adrV x = .agg #[.string (str x.name), .string (str x.loc), .string (str x.dom)] := rfl
    have HXV := Lib.hid hXV
    rw [hXV]
    clear hXV
    have HAD : Hid (adr (str x.name) (str x.loc) (str x.dom) = x) := adr_str x
    have hbA := hb1.alloc hb1.size (.cells #[.string (str x.name), .string (str x.loc), .string (str x.dom)] 30)
    go_wp2_with fail
    refine (formatAddress_any (str x.name) (str x.loc) (str x.dom) _ (en.below hbA) (by omega) (by omega) (by omega)).mono ?_
    rintro e w2 ⟨rfl, hb2⟩
    rw [HAD.out]
    have hB := nx hbA hb2
    obtain ⟨cA, fA, zA⟩ := fresh1 hb2
    have HB0 := Lib.hid hb2
    have HK : Hid (∀ w', Below w2.heap.size w2 w' → w'.cell? ⟨w1.heap.size, 0, none⟩ = some (.string (str x.name)) ∧ w'.cell? ⟨w1.heap.size, 1, none⟩ = some (.string (str x.loc)) ∧ w'.cell? ⟨w1.heap.size, 2, none⟩ = some (.string (str x.dom)) ∧ Below w2.heap.size w2 w') := by
      intro w' k
      refine ⟨?_, ?_, ?_, k⟩
      · rw [below_at k zA]; exact cA 0
      · rw [below_at k zA]; exact cA 1
      · rw [below_at k zA]; exact cA 2
    have hee : ((str (fmtA x)).toList == (str (fmtA x)).toList) = true := by simp
    cases hv : isAdr x
    · have HV := Lib.hid hv
      have he : (str (fmtA x)).toList.isEmpty = true := empty_t (by rw [str_size, fmtA_no hv]; rfl)
      clear hv
      clear hb1 hbA hb2 cA fA zA
      go_wp2
      go_region_held3 (fun w' => w'.cell? ⟨w1.heap.size, 0, none⟩ = some (.string (str x.name)) ∧ w'.cell? ⟨w1.heap.size, 1, none⟩ = some (.string (str x.loc)) ∧ w'.cell? ⟨w1.heap.size, 2, none⟩ = some (.string (str x.dom)) ∧ Below w2.heap.size w2 w')
        (first
          | exact HK.out _ (Below.refl _ _).drew
          | exact HK.out _ hb7)
        (first
          | (go_at_call 22
             refine (formatAddressS_any (str x.name) (str x.loc) (str x.dom) _ (by omega) (by omega) (by omega)).mono ?_
             rintro e w6 ⟨rfl, hb6⟩
             rw [HAD.out]
             have hb7 : Below w2.heap.size w2 w6 := nx (by go_split_ands; assumption) hb6)
          | (go_at_call 23
             refine (addressValid_any (str x.name) (str x.loc) (str x.dom) _ (en.below (nx hB (by go_split_ands; assumption))) (by omega) (by omega) (by omega)).mono ?_
             rintro e w6 ⟨rfl, hb6⟩
             rw [HAD.out, HV.out]
             have hb7 : Below w2.heap.size w2 w6 := nx (by go_split_ands; assumption) hb6)
          | (go_at_call 24
             refine (addressValidS_any (str x.name) (str x.loc) (str x.dom) _ (by omega) (by omega) (by omega)).mono ?_
             rintro e w6 ⟨rfl, hb6⟩
             rw [HAD.out, HV.out]
             have hb7 : Below w2.heap.size w2 w6 := nx (by go_split_ands; assumption) hb6))
      all_goals
        go_wp2
        go_ret
        exact ⟨rfl, nx hB (by go_split_ands; assumption)⟩
    · have HV := Lib.hid hv
      have he : (str (fmtA x)).toList.isEmpty = false := empty_f (by rw [str_size]; exact List.length_pos_iff.2 (fmtA_ne.2 hv))
      have HPR : Hid (parseR (str (fmtA x)).data.toList = x ∧ (parseA (str (fmtA x)).data.toList).isSome = true) := by show _ ∧ _; rw [str_list]; exact parseR_some (parse_fmtA hv)
      have HPW : Hid (parseR (⟨#[32, 32]⟩ ++ str (fmtA x) ++ ⟨#[32]⟩ : ByteArray).data.toList = x ∧ (parseA (⟨#[32, 32]⟩ ++ str (fmtA x) ++ ⟨#[32]⟩ : ByteArray).data.toList).isSome = true) := by
        show _ ∧ _
        rw [Joins.data_append, Joins.data_append, str_list, fmtA_val hv]
        exact parseR_some (parse_wide hv)
      have hfl : (str (fmtA x)).size ≤ 157 := by rw [str_size]; exact fmtA_len x
      have hwl : (⟨#[32, 32]⟩ ++ str (fmtA x) ++ ⟨#[32]⟩ : ByteArray).size ≤ 160 := by
        rw [ByteArray.size_append, ByteArray.size_append]
        have e1 : (ByteArray.mk #[32, 32]).size = 2 := rfl
        have e2 : (ByteArray.mk #[32]).size = 1 := rfl
        omega
      clear hv
      clear hb1 hbA hb2 cA fA zA
      go_wp2
      go_region_held3 (fun w' => w'.cell? ⟨w1.heap.size, 0, none⟩ = some (.string (str x.name)) ∧ w'.cell? ⟨w1.heap.size, 1, none⟩ = some (.string (str x.loc)) ∧ w'.cell? ⟨w1.heap.size, 2, none⟩ = some (.string (str x.dom)) ∧ Below w2.heap.size w2 w')
        (first
          | exact HK.out _ (Below.refl _ _).drew
          | exact HK.out _ hb7)
        (first
          | (go_at_call 22
             refine (formatAddressS_any (str x.name) (str x.loc) (str x.dom) _ (by omega) (by omega) (by omega)).mono ?_
             rintro e w6 ⟨rfl, hb6⟩
             rw [HAD.out]
             have hb7 : Below w2.heap.size w2 w6 := nx (by go_split_ands; assumption) hb6)
          | (go_at_call 23
             refine (addressValid_any (str x.name) (str x.loc) (str x.dom) _ (en.below (nx hB (by go_split_ands; assumption))) (by omega) (by omega) (by omega)).mono ?_
             rintro e w6 ⟨rfl, hb6⟩
             rw [HAD.out, HV.out]
             have hb7 : Below w2.heap.size w2 w6 := nx (by go_split_ands; assumption) hb6)
          | (go_at_call 24
             refine (addressValidS_any (str x.name) (str x.loc) (str x.dom) _ (by omega) (by omega) (by omega)).mono ?_
             rintro e w6 ⟨rfl, hb6⟩
             rw [HAD.out, HV.out]
             have hb7 : Below w2.heap.size w2 w6 := nx (by go_split_ands; assumption) hb6))
      all_goals
        go_split_ands
        have HB := Lib.hid (nx hB hb7)
        have HB2 := Lib.hid (nx HB0.out hb7)
        generalize str (fmtA x) = ft at *
        go_wp2_with fail
        refine (parseAddress_any ft _ (en.below HB.out) (by omega)).mono ?_
        rintro e w7 ⟨rfl, hb7⟩
        rw [HPR.out.1, HPR.out.2, HXV.out]
        have hB7 := nx HB.out hb7
        have hA7 := nx HB2.out hb7
        obtain ⟨cA7, fA7, zA7⟩ := fresh1 hA7
        have hB7 := hB7.alloc hB7.size (.cells #[.string (str x.name), .string (str x.loc), .string (str x.dom)] 30)
        have hA7 := hA7.alloc hA7.size (.cells #[.string (str x.name), .string (str x.loc), .string (str x.dom)] 30)
        go_wp2_with fail
        refine (parseAddress_any _ _ (en.below hB7) (by omega)).mono ?_
        rintro e w8 ⟨rfl, hb8⟩
        rw [HPW.out.1, HPW.out.2, HXV.out]
        obtain ⟨cA8, fA8, zA8⟩ := fresh1 (nx hA7 hb8)
        obtain ⟨cB8, fB8, zB8⟩ := fresh1 hb8
        have hB8 := nx hB7 hb8
        go_wp2
        go_ret
        exact ⟨rfl, hB8.alloc hB8.size _⟩
end Go.Proofs.YtepjnahliojnjaaDoor
