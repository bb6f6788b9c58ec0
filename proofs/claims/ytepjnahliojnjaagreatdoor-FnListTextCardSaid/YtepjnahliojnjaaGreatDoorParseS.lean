/-
  Addresses, read: what the model's functions return. No statement is proved here.
-/
import Derived.Test.YtepjnahliojnjaaGreatDoorParse2
import Derived.Test.YtepjnahliojnjaaGreatDoorAddrS
import Derived.Deep.RegionWith
namespace Go.Proofs.YtepjnahliojnjaaGreatDoor
open Go.RowKit

set_option maxRecDepth 100000 in
set_option maxHeartbeats 400000 in
theorem l2Name_any (s : ByteArray) (w : World) (hs : s.size ≤ 1073741824) :
    Calls Tryz.prog 36 #[.string s] w fun e w' => e = .returned (.bool (isName s.data.toList)) ∧ w = w' := by
  have HD : Hid (isName s.data.toList = (isText s.data.toList && decide (s.size ≤ 40))) := rfl
  cases h : isText s.data.toList
  · have H := Lib.hid h
    clear h
    go_enter Tryz.func36, Tryz.ntmps36
    go_wp2_with fail
    refine (textValidS_any s _ (by unfold maxLen; omega)).mono ?_
    rintro e w1 ⟨rfl, rfl⟩
    rw [H.out]
    go_wp2
    go_ret
    exact ⟨ret_bool (by rw [HD.out, H.out]; rfl), rfl⟩
  · have H := Lib.hid h
    clear h
    go_enter Tryz.func36, Tryz.ntmps36
    go_wp2_with fail
    refine (textValidS_any s _ (by unfold maxLen; omega)).mono ?_
    rintro e w1 ⟨rfl, rfl⟩
    rw [H.out]
    go_wp2
    go_ret
    exact ⟨ret_bool (by rw [HD.out, H.out, Bool.true_and, Bool.eq_iff_iff]; simp; omega), rfl⟩
theorem isLocal_long {l : List UInt8} (h : 30 < l.length) : isLocal l = false := by unfold isLocal; rw [decide_eq_false (by omega)]; rfl
theorem isDomain_long {l : List UInt8} (h : 40 < l.length) : isDomain l = false := by unfold isDomain; rw [decide_eq_false (by omega)]; rfl
set_option maxRecDepth 100000 in
set_option maxHeartbeats 1000000 in
theorem addressValidS_any (n l d : ByteArray) (w : World) (hn : n.size ≤ 1073741000) (hl : l.size ≤ 1073741000) (hd : d.size ≤ 1073741000) :
    Calls Tryz.prog 16 #[.agg #[.string n, .string l, .string d]] w fun e w' => e = .returned (.bool (isAdr (adr n l d))) ∧ Below w.heap.size w w' := by
  have HP : Hid (isAdr (adr n l d) = (isName n.data.toList && isLocal l.data.toList && isDomain d.data.toList)) := rfl
  have hb0 : Below w.heap.size w (w.alloc (.cells #[.string n, .string l, .string d] 36)) := (Below.refl _ _).alloc (Nat.le_refl _) _
  cases h1 : isName n.data.toList
  · have H1 := Lib.hid h1
    clear h1
    go_enter Tryz.func16, Tryz.ntmps16
    go_wp2_with fail
    refine (l2Name_any n _ (by omega)).mono ?_
    rintro e w1 ⟨rfl, rfl⟩
    rw [H1.out]
    go_wp2
    go_ret
    exact ⟨ret_bool (by rw [HP.out, H1.out]; rfl), hb0⟩
  · have H1 := Lib.hid h1
    clear h1
    by_cases h30 : l.size ≤ 30
    · have d1 : decide ((l.size : Int) ≤ 30) = true := by simp; omega
      cases h3 : isLocal l.data.toList
      · have H3 := Lib.hid h3
        clear h3
        go_enter Tryz.func16, Tryz.ntmps16
        go_wp2_with fail
        refine (l2Name_any n _ (by omega)).mono ?_
        rintro e w1 ⟨rfl, rfl⟩
        rw [H1.out]
        go_wp2_with fail
        refine (l2Local_any l _ hl).mono ?_
        rintro e w1 ⟨rfl, hb1⟩
        rw [H3.out]
        go_wp2
        go_ret
        exact ⟨ret_bool (by rw [HP.out, H1.out, H3.out]; rfl), nx hb0 hb1⟩
      · have H3 := Lib.hid h3
        clear h3
        by_cases h40 : d.size ≤ 40
        · have d2 : decide ((d.size : Int) ≤ 40) = true := by simp; omega
          go_enter Tryz.func16, Tryz.ntmps16
          go_wp2_with fail
          refine (l2Name_any n _ (by omega)).mono ?_
          rintro e w1 ⟨rfl, rfl⟩
          rw [H1.out]
          go_wp2_with fail
          refine (l2Local_any l _ hl).mono ?_
          rintro e w1 ⟨rfl, hb1⟩
          rw [H3.out]
          obtain ⟨hc, hf⟩ := bcell hb1
          go_wp2_with fail
          refine (l2Domain_any d _ hd).mono ?_
          rintro e w2 ⟨rfl, hb2⟩
          go_wp2
          go_ret
          exact ⟨ret_bool (by rw [HP.out, H1.out, H3.out]; rfl), nx (nx hb0 hb1) hb2⟩
        · have d2 : decide ((d.size : Int) ≤ 40) = false := by simp; omega
          have HDD := Lib.hid (isDomain_long (l := d.data.toList) (by rw [size_list]; omega))
          go_enter Tryz.func16, Tryz.ntmps16
          go_wp2_with fail
          refine (l2Name_any n _ (by omega)).mono ?_
          rintro e w1 ⟨rfl, rfl⟩
          rw [H1.out]
          go_wp2_with fail
          refine (l2Local_any l _ hl).mono ?_
          rintro e w1 ⟨rfl, hb1⟩
          rw [H3.out]
          obtain ⟨hc, hf⟩ := bcell hb1
          go_wp2
          go_ret
          exact ⟨ret_bool (by rw [HP.out, H1.out, H3.out, HDD.out]; rfl), nx hb0 hb1⟩
    · have d1 : decide ((l.size : Int) ≤ 30) = false := by simp; omega
      have HLL := Lib.hid (isLocal_long (l := l.data.toList) (by rw [size_list]; omega))
      go_enter Tryz.func16, Tryz.ntmps16
      go_wp2_with fail
      refine (l2Name_any n _ (by omega)).mono ?_
      rintro e w1 ⟨rfl, rfl⟩
      rw [H1.out]
      go_wp2
      go_ret
      exact ⟨ret_bool (by rw [HP.out, H1.out, HLL.out]; rfl), hb0⟩
set_option maxRecDepth 100000 in
set_option maxHeartbeats 1000000 in
theorem formatAddressS_any (n l d : ByteArray) (w : World) (hn : n.size ≤ 1073741000) (hl : l.size ≤ 1073741000) (hd : d.size ≤ 1073741000) :
    Calls Tryz.prog 17 #[.agg #[.string n, .string l, .string d]] w fun e w' => e = .returned (.string (str (fmtA (adr n l d)))) ∧ Below w.heap.size w w' := by
  have hb0 : Below w.heap.size w (w.alloc (.cells #[.string n, .string l, .string d] 36)) := (Below.refl _ _).alloc (Nat.le_refl _) _
  have s64 : (ByteArray.mk #[64]).size = 1 := rfl
  have s62 : (ByteArray.mk #[62]).size = 1 := rfl
  have s3260 : (ByteArray.mk #[32, 60]).size = 2 := rfl
  cases h1 : isAdr (adr n l d)
  · have HF := Lib.hid (fmtA_no h1)
    have H1 := Lib.hid h1
    clear h1
    go_enter Tryz.func17, Tryz.ntmps17
    go_wp2_with fail
    refine (addressValidS_any n l d _ hn hl hd).mono ?_
    rintro e w1 ⟨rfl, hb1⟩
    rw [H1.out]
    go_wp2
    go_ret
    exact ⟨ret_str (by rw [HF.out]; rfl), nx hb0 hb1⟩
  · have H1 := Lib.hid h1
    by_cases h0 : n.size = 0
    · have HF := Lib.hid (fmtA_none h1 h0)
      have he := empty_t h0
      have H0 := Lib.hid h0
      clear h1 h0
      go_enter Tryz.func17, Tryz.ntmps17
      go_wp2_with fail
      refine (addressValidS_any n l d _ hn hl hd).mono ?_
      rintro e w1 ⟨rfl, hb1⟩
      rw [H1.out]
      obtain ⟨hc, hf⟩ := bcell hb1
      go_wp2
      go_ret
      exact ⟨ret_str (bytes_ext (by rw [HF.out, Joins.data_append, Joins.data_append, str_list]; simp)), nx hb0 hb1⟩
    · have HF := Lib.hid (fmtA_some h1 h0)
      have he := empty_f (s := n) (by omega)
      clear h1
      go_enter Tryz.func17, Tryz.ntmps17
      go_wp2_with fail
      refine (addressValidS_any n l d _ hn hl hd).mono ?_
      rintro e w1 ⟨rfl, hb1⟩
      rw [H1.out]
      obtain ⟨hc, hf⟩ := bcell hb1
      go_wp2_with fail
      refine (quoteWordS_any n _ (by omega)).mono ?_
      rintro e w2 ⟨rfl, hb2⟩
      have hq : (str (quoteW n.data.toList)).size ≤ 402 := by rw [str_size]; exact quoteW_len _
      have HL := Lib.hid (str_list (quoteW n.data.toList))
      generalize str (quoteW n.data.toList) = q at *
      go_wp2
      go_ret
      exact ⟨ret_str (bytes_ext (by rw [HF.out]; simp only [Joins.data_append]; rw [HL.out, str_list]; simp)), nx (nx hb0 hb1) hb2⟩
theorem str_drop1 (c : UInt8) (r : List UInt8) : (str (c :: r)).extract 1 (str (c :: r)).size = str r := by
  rw [ext_drop, str_list]; rfl
theorem str_init (r : List UInt8) (c : UInt8) : (str (r ++ [c])).extract 0 ((str (r ++ [c])).size - 1) = str r := by
  rw [ext_take, str_list, str_size]; simp
theorem str_last (r : List UInt8) (c : UInt8) (h : (str (r ++ [c])).size - 1 < (str (r ++ [c])).size) : (str (r ++ [c]))[(str (r ++ [c])).size - 1] = c := by
  rw [str_at]; simp [str_size]
theorem str_first (c : UInt8) (r : List UInt8) (h : 0 < (str (c :: r)).size) : (str (c :: r))[0] = c := by
  rw [str_at]; rfl
theorem snoc_cases (l : List UInt8) : l = [] ∨ ∃ r c, l = r ++ [c] := by
  rcases List.eq_nil_or_concat l with h | ⟨r, c, h⟩
  · exact .inl h
  · exact .inr ⟨r, c, by simpa using h⟩
set_option maxRecDepth 100000 in
set_option maxHeartbeats 1000000 in
theorem l2Trim_any (s : ByteArray) (w : World) (hs : s.size ≤ 1073741824) :
    Calls Tryz.prog 25 #[.string s] w fun e w' => e = .returned (.string (str (trimS s.data.toList))) ∧ w = w' := by
  go_enter Tryz.func25, Tryz.ntmps25
  go_wp2_with fail
  go_loop [0] (fun t => ∃ l : List UInt8, t = .string (str l) ∧ l.length ≤ s.size ∧ trimF s.data.toList = trimF l) (fun t => Lib.strSize t)
  case atStart => exact ⟨s.data.toList, by rw [str_of], by rw [size_list]; exact Nat.le_refl _, rfl⟩
  case round =>
    obtain ⟨l, rfl, hl, ht⟩ := hrel
    have HT := Lib.hid ht
    clear ht
    by_cases hsp : ∃ r, l = 32 :: r
    · obtain ⟨r, rfl⟩ := hsp
      have HN : Hid (trimF s.data.toList = trimF r) := by show _ = _; rw [HT.out, trimF_space]
      have hz := str_size (32 :: r)
      have hp : 0 < (str (32 :: r)).size := by rw [hz]; simp
      have hp2 : 1 ≤ (str (32 :: r)).size := hp
      have hzz : (str (32 :: r)).size ≤ 1073741824 := by omega
      have e1 := beq_t (str_first 32 r hp) (n := 32) rfl
      have HX := Lib.hid (str_drop1 32 r)
      have hrl : r.length + 1 ≤ s.size := by simpa using hl
      have HM : Hid (Lib.strSize (.string (str r)) < Lib.strSize (.string (str (32 :: r)))) := by show _ < _; rw [Lib.strSize_string, Lib.strSize_string, str_size, str_size]; simp
      clear hz
      generalize str (32 :: r) = x at *
      go_wp2
      go_round
      case rel => exact ⟨r, by rw [HX.out], by omega, HN.out⟩
      case measure => rw [HX.out]; exact HM.out
    · have HL : Hid (trimF s.data.toList = l) := by
        show _ = _
        rw [HT.out]; refine trimF_head l ?_
        match l, hsp with
        | [], _ => simp
        | c :: r, hsp => intro e; have e : c = 32 := by simpa using e
                         exact hsp ⟨r, by rw [e]⟩
      have HTR : Hid (trimS s.data.toList = (trimF l.reverse).reverse) := by show _ = _; unfold trimS; rw [HL.out]
      have hz := str_size l
      have hzz : (str l).size ≤ 1073741824 := by omega
      have HFST : Hid ((str l).size = 0 ∨ ∃ h : 0 < (str l).size, (str l)[0] ≠ 32) := by
        show _ ∨ _
        match l, hsp with
        | [], _ => exact .inl rfl
        | c :: r, hsp =>
          have h : 0 < (str (c :: r)).size := by rw [str_size]; simp
          refine .inr ⟨h, fun e => ?_⟩
          rw [str_first c r h] at e; exact hsp ⟨r, by rw [e]⟩
      obtain ⟨x, hx⟩ : ∃ x, x = str l := ⟨_, rfl⟩
      have HXL := Lib.hid hx
      rw [← hx] at HFST hzz ⊢
      clear hsp hx hz
      rcases HFST.out with h0 | ⟨hp, hne⟩
      · have hlt0 : ¬ (0 < (x.size : Int)) := by omega
        have HRES : Hid (str (trimS s.data.toList) = x) := by
          have hl0 : l = [] := by
            have := HXL.out ▸ h0
            rw [str_size] at this; exact List.length_eq_zero_iff.1 this
          show _ = _
          rw [HTR.out, HXL.out, hl0]; rfl
        have H0 := Lib.hid h0
        clear h0
        go_wp2_with fail
        go_loop [0] (fun t => t = .string x) (fun _ => 0)
        case atStart => rfl
        case round =>
          subst hrel
          go_wp2
          go_ret
          exact ⟨ret_str HRES.out.symm, rfl⟩
      · have e1 := beq_f hne (n := 32) rfl
        clear hne
        go_wp2_with fail
        go_loop [0] (fun t => ∃ m : List UInt8, t = .string (str m) ∧ m.length ≤ s.size ∧ trimF l.reverse = trimF m.reverse) (fun t => Lib.strSize t)
        case atStart => exact ⟨l, by rw [HXL.out], hl, rfl⟩
        case round =>
          obtain ⟨m, rfl, hm, ht⟩ := hrel
          have HT2 := Lib.hid ht
          clear ht e1
          rcases snoc_cases m with rfl | ⟨r, c, rfl⟩
          · have HRES : Hid (str (trimS s.data.toList) = str []) := by show _ = _; rw [HTR.out, HT2.out]; rfl
            have hq : (str []).size = 0 := rfl
            have hq2 : (str []).size ≤ 0 := Nat.le_refl _
            have HQ := Lib.hid hq
            clear hq
            generalize str [] = y at *
            go_wp2
            go_ret
            exact ⟨ret_str HRES.out.symm, rfl⟩
          · have hyz := str_size (r ++ [c])
            have hyl : (r ++ [c]).length = r.length + 1 := by simp
            have hy1 : 0 < (str (r ++ [c])).size := by omega
            have hy2 : 1 ≤ (str (r ++ [c])).size := hy1
            have hy3 : (str (r ++ [c])).size - 1 < (str (r ++ [c])).size := by omega
            have hyz' : (str (r ++ [c])).size ≤ 1073741824 := by omega
            have HLS := Lib.hid (str_last r c hy3)
            have HIN := Lib.hid (str_init r c)
            have HM : Hid (Lib.strSize (.string (str r)) < Lib.strSize (.string (str (r ++ [c])))) := by show _ < _; rw [Lib.strSize_string, Lib.strSize_string, str_size, str_size]; simp
            by_cases hc : c = 32
            · have HN : Hid (trimF l.reverse = trimF r.reverse) := by show _ = _; rw [HT2.out, hc, List.reverse_append]; exact trimF_space _
              have e2 : (((str (r ++ [c]))[(str (r ++ [c])).size - 1].toNat : Int) == 32) = true := by rw [HLS.out, hc]; rfl
              clear hyz hyl hc
              generalize str (r ++ [c]) = y at *
              go_wp2
              go_round
              case rel => exact ⟨r, by rw [HIN.out], by simp at hm; omega, HN.out⟩
              case measure => rw [HIN.out]; exact HM.out
            · have HRES : Hid (str (trimS s.data.toList) = str (r ++ [c])) := by
                show _ = _
                rw [HTR.out, HT2.out, List.reverse_append]
                show str (trimF (c :: r.reverse)).reverse = _
                rw [trimF_ne _ hc]; simp
              have e2 : (((str (r ++ [c]))[(str (r ++ [c])).size - 1].toNat : Int) == 32) = false := by
                rw [HLS.out]; exact beq_f hc rfl
              clear hyz hyl hc
              generalize str (r ++ [c]) = y at *
              go_wp2
              go_ret
              exact ⟨ret_str HRES.out.symm, rfl⟩
theorem spaced_snoc : ∀ (xs : List (List UInt8)) (x : List UInt8), spaced (xs ++ [x]) = if xs = [] then x else spaced xs ++ 32 :: x
  | [], x => rfl
  | [y], x => by simp [spaced]
  | y :: z :: xs, x => by
    have ih := spaced_snoc (z :: xs) x
    rw [if_neg (by simp)] at ih
    show y ++ 32 :: spaced ((z :: xs) ++ [x]) = _
    rw [ih, if_neg (by simp)]
    show _ = (y ++ 32 :: spaced (z :: xs)) ++ 32 :: x
    simp
theorem spaced_next (xs : List (List UInt8)) (k : Nat) (h : k < xs.length) : spaced (xs.take (k + 1)) = if k = 0 then xs[k] else spaced (xs.take k) ++ 32 :: xs[k] := by
  rw [List.take_succ_eq_append_getElem h, spaced_snoc]
  by_cases hk : k = 0
  · subst hk; simp
  · rw [if_neg hk, if_neg (by intro e; have h2 : (xs.take k).length = 0 := (by rw [e]; rfl); rw [List.length_take] at h2; omega)]
set_option maxRecDepth 100000 in
set_option maxHeartbeats 1000000 in
theorem l2Space_any (a : Option Addr) (n c : Nat) (xs : List (List UInt8)) (w : World) (hr : RdL w a n xs) (hn : n ≤ 1000) (hx : ∀ x ∈ xs, x.length ≤ 1000) :
    Calls Tryz.prog 50 #[.slice a n c] w fun e w' => e = .returned (.string (str (spaced xs))) ∧ w = w' := by
  obtain ⟨hl, hr2⟩ := hr
  have HLEN := Lib.hid hl
  have HR := Lib.hid hr2
  have HX := Lib.hid hx
  clear hl hr2 hx
  go_enter Tryz.func50, Tryz.ntmps50
  go_wp2_with fail
  go_loop [3, 4] (fun v i => ∃ (k : Nat) (o : ByteArray), k ≤ n ∧ i = .int .i64 k ∧ v = .string o ∧ o.size ≤ k * 1001 ∧ o.data.toList = spaced (xs.take k)) (fun _ i => n - (intOf i).toNat)
  case atStart => exact ⟨0, _, Nat.zero_le _, rfl, rfl, Nat.zero_le _, rfl⟩
  case round =>
    obtain ⟨k, o, hk, rfl, rfl, ho, hd⟩ := hrel
    have HO := Lib.hid hd
    clear hd
    by_cases hlt : k < n
    · have hkx : k < xs.length := by rw [HLEN.out]; exact hlt
      obtain ⟨b, off, rfl, hbl, hcell⟩ := HR.out.resolve_left (by omega)
      have hc1 : w.cell? ⟨b, off + k, none⟩ = some (.string (str xs[k])) := hcell k hkx
      have hsz : (str xs[k]).size ≤ 1000 := by rw [str_size]; exact HX.out _ (List.getElem_mem hkx)
      have HN := Lib.hid (spaced_next xs k hkx)
      have HXK := Lib.hid (str_list xs[k])
      have s32' : (ByteArray.mk #[32]).size = 1 := rfl
      generalize str xs[k] = x at *
      clear hcell
      by_cases hk0 : k = 0
      · have hlt0 : ¬ ((0 : Int) < (k : Int)) := by omega
        have HN2 : Hid ((o ++ x).data.toList = spaced (xs.take (k + 1))) := by
          show _ = _
          have e0 : spaced (xs.take k) = [] := by rw [hk0]; rfl
          rw [Joins.data_append, HN.out, if_pos hk0, HO.out, HXK.out, e0]; rfl
        clear hk0
        go_wp2
        go_round
        case rel => exact ⟨k + 1, _, by omega, by go_num, rfl, by rw [ByteArray.size_append]; omega, HN2.out⟩
        case measure => simp [intOf]; omega
      · have hlt0 : (0 : Int) < (k : Int) := by omega
        have HN2 : Hid ((o ++ ⟨#[32]⟩ ++ x).data.toList = spaced (xs.take (k + 1))) := by
          show _ = _
          rw [Joins.data_append, Joins.data_append, HN.out, if_neg hk0, HO.out, HXK.out]; simp
        clear hk0
        go_wp2
        go_round
        case rel => exact ⟨k + 1, _, by omega, by go_num, rfl, by rw [ByteArray.size_append, ByteArray.size_append]; omega, HN2.out⟩
        case measure => simp [intOf]; omega
    · have HE : Hid (o = str (spaced xs)) := by
        show _ = _
        apply bytes_ext
        rw [HO.out, str_list, List.take_of_length_le (by rw [HLEN.out]; omega)]
      go_wp2
      go_ret
      exact ⟨ret_str HE.out, rfl⟩
end Go.Proofs.YtepjnahliojnjaaGreatDoor
