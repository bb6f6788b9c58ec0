/-
  The laws of chapter 2 on addresses: each law's walk. For every input of the law: it returns true, and the input reads as it did. Conditions: none but the statement's own.
-/
import Derived.Test.YtepjnahliojnjaaDoorLaw0
import Derived.Test.YtepjnahliojnjaaDoorDrawA
import Derived.Test.YtepjnahliojnjaaDoorParseS2
import Derived.Test.YtepjnahliojnjaaDoorListA3
import Derived.Test.YtepjnahliojnjaaDoorListS
import Derived.Test.YtepjnahliojnjaaDoorBoxA
namespace Go.Proofs.YtepjnahliojnjaaDoor
open Go.ChangeShapes Go.WideShapes Go.ChangeAt Go.RowKit
open Go.ChangeMaps (open_string shut_string)

/-- A new block, behind whatever else was made. -/
theorem fresh1 {w w' : World} {C : Array Value} {T : TypeId} (b : Below (w.alloc (.cells C T)).heap.size (w.alloc (.cells C T)) w') :
    (∀ i, w'.cell? ⟨w.heap.size, i, none⟩ = C[i]?) ∧ (∀ i, w'.frozen? ⟨w.heap.size, i, none⟩ = false) ∧ w.heap.size < w'.heap.size := by
  refine ⟨fun i => ?_, fun i => ?_, ?_⟩
  · rw [below_at b (by simp), World.cell?_alloc_at _ _ _ _ rfl]
  · rw [below_fz b (by simp), World.frozen?_alloc_at _ _ _ _ rfl]
  · have := b.size; simp at this; omega
theorem parse_fmtA {a : Adr} (h : isAdr a = true) : parseA (fmtA a) = some a := by rw [fmtA_val h]; exact parse_fmt h
theorem parseR_mem {l : List UInt8} (h : (parseA l).isSome = true) : parseA l = some (parseR l) := by
  unfold parseR; cases hp : parseA l with
  | none => rw [hp] at h; cases h
  | some a => rfl
theorem parseR_zero {l : List UInt8} (h : (parseA l).isSome = false) : parseR l = adr0 := by
  unfold parseR; cases hp : parseA l with
  | none => rfl
  | some a => rw [hp] at h; cases h
set_option maxRecDepth 100000 in
set_option maxHeartbeats 1000000 in
theorem fnParseAddress_walk (a : Option Addr) (n c : Nat) (w : World) (en : Env w) (hc : Code w a n) (hnc : n ≤ c) (hm : c ≤ maxLen) :
    Calls Tryd.prog 5 #[.slice a n c] w fun e w' => e = .returned (.bool true) ∧ Below w.heap.size w w' := by
  have hm' := hm
  unfold maxLen at hm'
  by_cases hn : 1048576 < n
  · have hd : decide ((1048576 : Int) < n) = true := by simp; omega
    go_enter Tryd.func5, Tryd.ntmps5
    go_wp2
    go_ret
    exact ⟨rfl, Below.refl _ _⟩
  · have hd : decide ((1048576 : Int) < n) = false := by simp; omega
    go_enter Tryd.func5, Tryd.ntmps5
    go_wp2_with fail
    refine (drawParseAddress_any a n c w hc hnc hm).mono ?_
    rintro e w1 ⟨s, rfl, hs, hb1⟩
    have en1 := en.below hb1
    go_wp2_with fail
    refine (parseAddress_any s _ en1 (by omega)).mono ?_
    rintro e w2 ⟨rfl, hb2⟩
    have HSOME := Lib.hid (parseR_mem (l := s.data.toList))
    generalize hx : parseR s.data.toList = x at *
    generalize hok : (parseA s.data.toList).isSome = ok at *
    have HX := Lib.hid hx
    have HOK := Lib.hid hok
    have hXV : adrV x = .agg #[.string (str x.name), .string (str x.loc), .string (str x.dom)] := rfl
    have HXV := Lib.hid hXV
    rw [hXV]
    clear hx hok hXV
    have hb12 := nx hb1 hb2
    have hbA := hb12.alloc hb12.size (.cells #[.string (str x.name), .string (str x.loc), .string (str x.dom)] 30)
    go_wp2_with fail
    refine (parseAddressS_any s _ (by omega)).mono ?_
    rintro e w3 ⟨rfl, hb3⟩
    rw [HX.out, HOK.out, HXV.out]
    have hb13 := nx hbA hb3
    obtain ⟨cA, fA, zA⟩ := fresh1 hb3
    cases ok
    · go_wp2
      go_ret
      exact ⟨rfl, hb13.alloc hb13.size _⟩
    · have hxa := HSOME.out rfl
      have hv := parseA_valid hxa
      obtain ⟨z0, z1, z2⟩ := isAdr_small hv
      rw [← str_size] at z0 z1 z2
      have HV : Hid (isAdr (adr (str x.name) (str x.loc) (str x.dom)) = true) := by show _ = _; rw [adr_str]; exact hv
      have HF : Hid (fmtA (adr (str x.name) (str x.loc) (str x.dom)) = fmtA x) := by show _ = _; rw [adr_str]
      have HP := Lib.hid (parse_fmtA hv)
      have HPR : Hid (parseR (str (fmtA x)).data.toList = x ∧ (parseA (str (fmtA x)).data.toList).isSome = true) := by show _ ∧ _; rw [str_list]; exact parseR_some (parse_fmtA hv)
      have hfl : (str (fmtA x)).size ≤ 157 := by rw [str_size]; exact fmtA_len x
      clear hxa hv
      have hbB := hb13.alloc hb13.size (.cells #[.string (str x.name), .string (str x.loc), .string (str x.dom)] 30)
      have hb3B := hb3.alloc hb3.size (.cells #[.string (str x.name), .string (str x.loc), .string (str x.dom)] 30)
      go_wp2_with fail
      refine (formatAddress_any (str x.name) (str x.loc) (str x.dom) _ (en.below hbB) (by omega) (by omega) (by omega)).mono ?_
      rintro e w4 ⟨rfl, hb4⟩
      rw [HF.out]
      have hb14 := nx hbB hb4
      have hb34 := nx hb3B hb4
      go_wp2_with fail
      refine (parseAddress_any (str (fmtA x)) _ (en.below hb14) (by omega)).mono ?_
      rintro e w5 ⟨rfl, hb5⟩
      rw [HPR.out.1, HPR.out.2, HXV.out]
      have hb15 := nx hb14 hb5
      have hb35 := nx hb34 hb5
      obtain ⟨cA5, fA5, zA5⟩ := fresh1 hb35
      have hbC := hb15.alloc hb15.size (.cells #[.string (str x.name), .string (str x.loc), .string (str x.dom)] 30)
      have hb3C := hb35.alloc hb35.size (.cells #[.string (str x.name), .string (str x.loc), .string (str x.dom)] 30)
      go_wp2_with fail
      refine (addressValid_any (str x.name) (str x.loc) (str x.dom) _ (en.below hbC) (by omega) (by omega) (by omega)).mono ?_
      rintro e w6 ⟨rfl, hb6⟩
      rw [HV.out]
      obtain ⟨cC6, fC6, zC6⟩ := fresh1 hb6
      obtain ⟨cA6, fA6, zA6⟩ := fresh1 (nx hb3C hb6)
      go_wp2
      go_ret
      exact ⟨rfl, nx hbC hb6⟩
set_option maxRecDepth 100000 in
set_option maxHeartbeats 1000000 in
theorem fnAddressCapital_walk (a : Option Addr) (n c : Nat) (w : World) (en : Env w) (hc : Code w a n) (hnc : n ≤ c) (hm : c ≤ maxLen) :
    Calls Tryd.prog 7 #[.slice a n c] w fun e w' => e = .returned (.bool true) ∧ Below w.heap.size w w' := by
  have hm' := hm
  unfold maxLen at hm'
  by_cases hn : 1048576 < n
  · have hd : decide ((1048576 : Int) < n) = true := by simp; omega
    go_enter Tryd.func7, Tryd.ntmps7
    go_wp2
    go_ret
    exact ⟨rfl, Below.refl _ _⟩
  · have hd : decide ((1048576 : Int) < n) = false := by simp; omega
    go_enter Tryd.func7, Tryd.ntmps7
    go_wp2_with fail
    refine (drawParseAddress_any a n c w hc hnc hm).mono ?_
    rintro e w1 ⟨s, rfl, hs, hb1⟩
    have en1 := en.below hb1
    go_wp2_with fail
    refine (parseAddress_any s _ en1 (by omega)).mono ?_
    rintro e w2 ⟨rfl, hb2⟩
    have HSOME := Lib.hid (parseR_mem (l := s.data.toList))
    generalize hx : parseR s.data.toList = x at *
    generalize hok : (parseA s.data.toList).isSome = ok at *
    have HX := Lib.hid hx
    have HOK := Lib.hid hok
    have hXV : adrV x = .agg #[.string (str x.name), .string (str x.loc), .string (str x.dom)] := rfl
    have HXV := Lib.hid hXV
    rw [hXV]
    clear hx hok hXV
    have hb12 := nx hb1 hb2
    have hbA := hb12.alloc hb12.size (.cells #[.string (str x.name), .string (str x.loc), .string (str x.dom)] 30)
    go_wp2_with fail
    refine (parseAddressS_any s _ (by omega)).mono ?_
    rintro e w3 ⟨rfl, hb3⟩
    rw [HX.out, HOK.out, HXV.out]
    have hb13 := nx hbA hb3
    obtain ⟨cA, fA, zA⟩ := fresh1 hb3
    cases ok
    · go_wp2
      go_ret
      exact ⟨rfl, hb13.alloc hb13.size _⟩
    · have hxa := HSOME.out rfl
      have hv := parseA_valid hxa
      obtain ⟨z0, z1, z2⟩ := isAdr_small hv
      have hln := loc_ne hv
      have hdn := dom_ne hv
      have hp1 : (str x.loc).toList.isEmpty = false := empty_f (by rw [str_size]; exact List.length_pos_iff.2 hln)
      have hp2 : (str x.dom).toList.isEmpty = false := empty_f (by rw [str_size]; exact List.length_pos_iff.2 hdn)
      have HLOW : Hid (lowS (str x.dom) = str x.dom) := by show _ = _; rw [lowS_str, dom_low hv]
      rw [← str_size] at z2
      have hz2 : (str x.dom).size ≤ 1073741824 := by omega
      have hbB := hb13.alloc hb13.size (.cells #[.string (str x.name), .string (str x.loc), .string (str x.dom)] 30)
      clear hxa hv hln hdn z0 z1 z2
      go_wp2
      go_region_with (go_at_call 29; refine (lowerText_any _ _ ?_).mono ?_; exact hz2; rintro e w5 ⟨rfl, hb5⟩; rw [HLOW.out]; obtain ⟨hc5, hf5⟩ := bcell hb5)
      all_goals
        go_wp2
        go_ret
        first
          | exact ⟨rfl, nx hbB hb5⟩
          | exact ⟨rfl, nx hbB.drew hb5⟩
set_option maxRecDepth 100000 in
set_option maxHeartbeats 1000000 in
theorem fnAddressValid_walk (a : Option Addr) (n c : Nat) (w : World) (en : Env w) (hc : Code w a n) (hnc : n ≤ c) (hm : c ≤ maxLen) :
    Calls Tryd.prog 10 #[.slice a n c] w fun e w' => e = .returned (.bool true) ∧ Below w.heap.size w w' := by
  have hm' := hm
  unfold maxLen at hm'
  by_cases hn : 1048576 < n
  · have hd : decide ((1048576 : Int) < n) = true := by simp; omega
    go_enter Tryd.func10, Tryd.ntmps10
    go_wp2
    go_ret
    exact ⟨rfl, Below.refl _ _⟩
  · have hd : decide ((1048576 : Int) < n) = false := by simp; omega
    go_enter Tryd.func10, Tryd.ntmps10
    go_wp2_with fail
    refine (drawAddressValid_any a n c w hc hnc hm).mono ?_
    rintro e w1 ⟨x, rfl, ⟨z0, z1, z2⟩, hb1⟩
    rw [← str_size] at z0 z1 z2
    have hXV : adrV x = .agg #[.string (str x.name), .string (str x.loc), .string (str x.dom)] := rfl
    rw [hXV]
    clear hXV
    have HAD : Hid (adr (str x.name) (str x.loc) (str x.dom) = x) := adr_str x
    have HAD0 : Hid (adr ⟨#[]⟩ (str x.loc) (str x.dom) = ⟨[], x.loc, x.dom⟩) := adr_str ⟨[], x.loc, x.dom⟩
    have hbA := hb1.alloc hb1.size (.cells #[.string (str x.name), .string (str x.loc), .string (str x.dom)] 30)
    go_wp2_with fail
    refine (addressValid_any (str x.name) (str x.loc) (str x.dom) _ (en.below hbA) (by omega) (by omega) (by omega)).mono ?_
    rintro e w2 ⟨rfl, hb2⟩
    rw [HAD.out]
    have hbA2 := nx hbA hb2
    obtain ⟨cA, fA, zA⟩ := fresh1 hb2
    have hbB := hbA2.alloc hbA2.size (.cells #[.string ⟨#[]⟩, .string (str x.loc), .string (str x.dom)] 30)
    have hb2B := hb2.alloc hb2.size (.cells #[.string ⟨#[]⟩, .string (str x.loc), .string (str x.dom)] 30)
    cases hv : isAdr x
    · have HV := Lib.hid hv
      have he : (str (fmtA x)).toList.isEmpty = true := empty_t (by rw [str_size, fmtA_no hv]; rfl)
      clear hv
      go_wp2_with fail
      refine (addressValidS_any (str x.name) (str x.loc) (str x.dom) _ (by omega) (by omega) (by omega)).mono ?_
      rintro e w3 ⟨rfl, hb3⟩
      rw [HAD.out, HV.out]
      have hbB3 := nx hbB hb3
      obtain ⟨cA3, fA3, zA3⟩ := fresh1 (nx hb2B hb3)
      go_wp2_with fail
      refine (formatAddress_any (str x.name) (str x.loc) (str x.dom) _ (en.below hbB3) (by omega) (by omega) (by omega)).mono ?_
      rintro e w4 ⟨rfl, hb4⟩
      rw [HAD.out]
      generalize str (fmtA x) = ft at *
      go_wp2
      go_ret
      exact ⟨rfl, nx hbB3 hb4⟩
    · have HV := Lib.hid hv
      have he : (str (fmtA x)).toList.isEmpty = false := empty_f (by rw [str_size]; exact List.length_pos_iff.2 (fmtA_ne.2 hv))
      have HV0 : Hid (isAdr ⟨[], x.loc, x.dom⟩ = true) := isAdr_noname (n := x.name) hv
      clear hv
      go_wp2_with fail
      refine (addressValidS_any (str x.name) (str x.loc) (str x.dom) _ (by omega) (by omega) (by omega)).mono ?_
      rintro e w3 ⟨rfl, hb3⟩
      rw [HAD.out, HV.out]
      have hbB3 := nx hbB hb3
      obtain ⟨cA3, fA3, zA3⟩ := fresh1 (nx hb2B hb3)
      obtain ⟨cB3, fB3, zB3⟩ := fresh1 hb3
      go_wp2_with fail
      refine (formatAddress_any (str x.name) (str x.loc) (str x.dom) _ (en.below hbB3) (by omega) (by omega) (by omega)).mono ?_
      rintro e w4 ⟨rfl, hb4⟩
      rw [HAD.out]
      have hbB4 := nx hbB3 hb4
      obtain ⟨cB4, fB4, zB4⟩ := fresh1 (nx hb3 hb4)
      generalize str (fmtA x) = ft at *
      go_wp2_with fail
      refine (addressValid_any ⟨#[]⟩ (str x.loc) (str x.dom) _ (en.below hbB4) (Nat.zero_le _) (by omega) (by omega)).mono ?_
      rintro e w5 ⟨rfl, hb5⟩
      rw [HAD0.out, HV0.out]
      go_wp2
      go_ret
      exact ⟨rfl, nx hbB4 hb5⟩
set_option maxRecDepth 100000 in
set_option maxHeartbeats 1000000 in
theorem fnAddressName_walk (a : Option Addr) (n c : Nat) (w : World) (en : Env w) (hc : Code w a n) (hnc : n ≤ c) (hm : c ≤ maxLen) :
    Calls Tryd.prog 6 #[.slice a n c] w fun e w' => e = .returned (.bool true) ∧ Below w.heap.size w w' := by
  have hm' := hm
  unfold maxLen at hm'
  by_cases hn : 1048576 < n
  · have hd : decide ((1048576 : Int) < n) = true := by simp; omega
    go_enter Tryd.func6, Tryd.ntmps6
    go_wp2
    go_ret
    exact ⟨rfl, Below.refl _ _⟩
  · have hd : decide ((1048576 : Int) < n) = false := by simp; omega
    go_enter Tryd.func6, Tryd.ntmps6
    go_wp2_with fail
    refine (drawFormatAddress_any a n c w hc hnc hm).mono ?_
    rintro e w1 ⟨x, rfl, ⟨z0, z1, z2⟩, hb1⟩
    rw [← str_size] at z0 z1 z2
    have hXV : adrV x = .agg #[.string (str x.name), .string (str x.loc), .string (str x.dom)] := rfl
    rw [hXV]
    clear hXV
    have HAD : Hid (adr (str x.name) (str x.loc) (str x.dom) = x) := adr_str x
    have HAD0 : Hid (adr ⟨#[]⟩ (str x.loc) (str x.dom) = ⟨[], x.loc, x.dom⟩) := adr_str ⟨[], x.loc, x.dom⟩
    have hbA := hb1.alloc hb1.size (.cells #[.string (str x.name), .string (str x.loc), .string (str x.dom)] 30)
    go_wp2_with fail
    refine (formatAddress_any (str x.name) (str x.loc) (str x.dom) _ (en.below hbA) (by omega) (by omega) (by omega)).mono ?_
    rintro e w2 ⟨rfl, hb2⟩
    rw [HAD.out]
    have hbA2 := nx hbA hb2
    obtain ⟨cA, fA, zA⟩ := fresh1 hb2
    cases hv : isAdr x
    · have HFE : Hid (fmtA x = []) := fmtA_no hv
      have he : (str (fmtA x)).toList.isEmpty = true := empty_t (by rw [str_size, fmtA_no hv]; rfl)
      have hee : ((str (fmtA x)).toList == (str (fmtA x)).toList) = true := by simp
      clear hv
      go_wp2_with fail
      refine (formatAddressS_any (str x.name) (str x.loc) (str x.dom) _ (by omega) (by omega) (by omega)).mono ?_
      rintro e w3 ⟨rfl, hb3⟩
      rw [HAD.out]
      have hbA3 := nx hbA2 hb3
      obtain ⟨cA3, fA3, zA3⟩ := fresh1 (nx hb2 hb3)
      go_wp2_with fail
      refine (formatAddressS_any (str x.name) (str x.loc) (str x.dom) _ (by omega) (by omega) (by omega)).mono ?_
      rintro e w4 ⟨rfl, hb4⟩
      rw [HAD.out]
      go_wp2
      go_ret
      exact ⟨rfl, nx hbA3 hb4⟩
    · have he : (str (fmtA x)).toList.isEmpty = false := empty_f (by rw [str_size]; exact List.length_pos_iff.2 (fmtA_ne.2 hv))
      have hv0 := isAdr_noname (n := x.name) (a := x.loc) (d := x.dom) hv
      have HF0 : Hid (str (fmtA ⟨[], x.loc, x.dom⟩) = str x.loc ++ ⟨#[64]⟩ ++ str x.dom) := by
        show _ = _
        apply bytes_ext
        rw [str_list, Joins.data_append, Joins.data_append, str_list, str_list, fmtA_val hv0]
        unfold fmtT boxT; simp
      have HSB : Hid (sameB x ⟨[], x.loc, x.dom⟩ = true) := by show _ = _; unfold sameB; simp
      have HLE : Hid ((fmtA ⟨[], x.loc, x.dom⟩).length ≤ (fmtA x).length) := by
        show _ ≤ _
        rw [fmtA_val hv0, fmtA_val hv]
        unfold fmtT boxT
        by_cases hn : x.name = []
        · rw [if_pos hn]; simp
        · rw [if_neg hn]; simp; omega
      have hle : ((str x.loc).size : Int) + 1 + (str x.dom).size ≤ (str (fmtA x)).size := by
        have h1 := congrArg ByteArray.size HF0.out
        have e64 : (ByteArray.mk #[64]).size = 1 := rfl
        rw [str_size, ByteArray.size_append, ByteArray.size_append, e64] at h1
        have h2 := HLE.out
        rw [str_size (fmtA x)]; omega
      have s64 : (ByteArray.mk #[64]).size = 1 := rfl
      clear hv hv0
      go_wp2_with fail
      refine (formatAddressS_any (str x.name) (str x.loc) (str x.dom) _ (by omega) (by omega) (by omega)).mono ?_
      rintro e w3 ⟨rfl, hb3⟩
      rw [HAD.out]
      have hbA3 := nx hbA2 hb3
      have hA3 := nx hb2 hb3
      obtain ⟨cA3, fA3, zA3⟩ := fresh1 hA3
      have hbB := hbA3.alloc hbA3.size (.cells #[.string ⟨#[]⟩, .string (str x.loc), .string (str x.dom)] 30)
      have hA3B := hA3.alloc hA3.size (.cells #[.string ⟨#[]⟩, .string (str x.loc), .string (str x.dom)] 30)
      go_wp2_with fail
      refine (formatAddress_any ⟨#[]⟩ (str x.loc) (str x.dom) _ (en.below hbB) (Nat.zero_le _) (by omega) (by omega)).mono ?_
      rintro e w4 ⟨rfl, hb4⟩
      rw [HAD0.out, HF0.out]
      have hbB4 := nx hbB hb4
      obtain ⟨cA4, fA4, zA4⟩ := fresh1 (nx hA3B hb4)
      obtain ⟨cB4, fB4, zB4⟩ := fresh1 hb4
      go_wp2_with fail
      refine (sameBox_any (str x.name) (str x.loc) (str x.dom) ⟨#[]⟩ (str x.loc) (str x.dom) _ (by omega) (by omega)).mono ?_
      rintro e w5 ⟨rfl, hb5⟩
      rw [HAD.out, HAD0.out, HSB.out]
      go_wp2
      go_ret
      exact ⟨rfl, nx hbB4 hb5⟩
end Go.Proofs.YtepjnahliojnjaaDoor
