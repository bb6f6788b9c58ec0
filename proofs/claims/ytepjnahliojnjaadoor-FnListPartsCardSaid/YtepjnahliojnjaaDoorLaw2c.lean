/-
  Laws of chapter 2 on lists of addresses: each law's walk. For every input of the law: it returns true, and the input reads as it did. Conditions: none but the statement's own.
-/
import Derived.Test.YtepjnahliojnjaaDoorLaw2
import Derived.Test.YtepjnahliojnjaaDoorDrawA2
import Derived.Test.YtepjnahliojnjaaDoorListA
import Derived.Test.YtepjnahliojnjaaDoorListS
namespace Go.Proofs.YtepjnahliojnjaaDoor
open Go.ChangeShapes Go.WideShapes Go.ChangeAt Go.RowKit
open Go.ChangeMaps (open_string shut_string)

theorem joinC_step {xs : List Adr} {k : Nat} (hk : k < xs.length) : joinC ((xs.take (k + 1)).map fmtA) = if k = 0 then fmtA xs[k] else joinC ((xs.take k).map fmtA) ++ 44 :: 32 :: fmtA xs[k] := by
  rw [List.take_succ_eq_append_getElem hk, List.map_append]
  by_cases h0 : k = 0
  · subst h0; rfl
  · rw [if_neg h0]
    have hne : ¬ List.map fmtA (List.take k xs) = [] := by
      simp only [List.map_eq_nil_iff, List.take_eq_nil_iff]; intro h; rcases h with h | h; exact h0 h; rw [h] at hk; simp at hk
    show joinC (List.map fmtA (List.take k xs) ++ [fmtA xs[k]]) = _
    rw [joinC_snoc, if_neg hne]
theorem fmtL_joinA {xs : List Adr} (h : fmtL xs ≠ []) : joinC (xs.map fmtA) = fmtL xs := by
  obtain ⟨h1, _, _, h4, _⟩ := fmtL_ne h
  rw [h4]
  unfold fmtAll
  congr 1
  exact List.map_congr_left fun x hx => fmtA_val (h1 x hx)
set_option maxRecDepth 100000 in
set_option maxHeartbeats 1000000 in
theorem fnListParts_walk (a : Option Addr) (n c : Nat) (w : World) (en : Env w) (hc : Code w a n) (hnc : n ≤ c) (hm : c ≤ maxLen) :
    Calls Tryd.prog 9 #[.slice a n c] w fun e w' => e = .returned (.bool true) ∧ Below w.heap.size w w' := by
  have hm' := hm
  unfold maxLen at hm'
  by_cases hn : 1048576 < n
  · have hd : decide ((1048576 : Int) < n) = true := by simp; omega
    go_enter Tryd.func9, Tryd.ntmps9
    go_wp2
    go_ret
    exact ⟨rfl, Below.refl _ _⟩
  · have hd : decide ((1048576 : Int) < n) = false := by simp; omega
    go_enter Tryd.func9, Tryd.ntmps9
    go_wp2_with fail
    refine (drawFormatList_any a n c w hc hnc hm).mono ?_
    rintro e w1 ⟨v, xs, rfl, ho, hl4, hx4, hb1⟩
    obtain ⟨a1, c1, rfl, hr1, _, _⟩ := ho.read adrC_len
    have HR := Lib.hid hr1
    have HX : Hid (∀ x ∈ xs, SmallA 1073741000 x) := fun x hx => (hx4 x hx).up (by omega)
    have HX4 := Lib.hid hx4
    clear ho hr1 hx4
    go_wp2_with fail
    refine (formatList_any a1 xs.length c1 xs _ (en.below hb1) HR.out (by omega) HX.out).mono ?_
    rintro e w2 ⟨rfl, hb2⟩
    have hb12 := nx hb1 hb2
    have hee : ((str (fmtL xs)).toList == (str (fmtL xs)).toList) = true := by simp
    have hne : ((str (fmtL xs)).toList != (str (fmtL xs)).toList) = false := by simp
    by_cases hf : fmtL xs = []
    · have he : (str (fmtL xs)).toList.isEmpty = true := empty_t (by rw [str_size, hf]; rfl)
      clear hf
      go_wp2_with fail
      refine (formatListS_any a1 xs.length c1 xs _ (HR.out.below hb2) (by omega) HX.out).mono ?_
      rintro e w3 ⟨rfl, hb3⟩
      have hb13 := nx hb12 hb3
      go_wp2_with fail
      refine (formatListS_any a1 xs.length c1 xs _ ((HR.out.below hb2).below hb3) (by omega) HX.out).mono ?_
      rintro e w4 ⟨rfl, hb4⟩
      go_wp2
      go_ret
      exact ⟨rfl, nx hb13 hb4⟩
    · have he : (str (fmtL xs)).toList.isEmpty = false := empty_f (by rw [str_size]; exact List.length_pos_iff.2 hf)
      obtain ⟨hall, hl10, h200, _, _⟩ := fmtL_ne hf
      have HALL := Lib.hid hall
      have HJ := Lib.hid (fmtL_joinA hf)
      have HT : Hid (isText (str (fmtL xs)).data.toList = true) := by show _ = _; rw [str_list]; exact fmtL_text hf
      have hd10 : decide ((xs.length : Int) ≤ 10) = true := by simp; omega
      have hfs : Hid ((str (fmtL xs)).data.toList = fmtL xs) := str_list _
      have hfz : (str (fmtL xs)).size ≤ 200 := by rw [str_size]; have := fmtL_ne hf; rw [this.2.2.2.1]; exact h200
      clear hf hall hl10 h200
      generalize hFT : str (fmtL xs) = ft at *
      have HFT := Lib.hid hFT
      clear hFT
      go_wp2_with fail
      refine (formatListS_any a1 xs.length c1 xs _ (HR.out.below hb2) (by omega) HX.out).mono ?_
      rintro e w3 ⟨rfl, hb3⟩
      rw [HFT.out]
      have hb13 := nx hb12 hb3
      have HR3 : Hid (RdA w3 a1 xs.length xs) := (HR.out.below hb2).below hb3
      go_wp2_with fail
      go_loopw [5, 6] (fun t i wr => ∃ (k : Nat) (o : ByteArray), k ≤ xs.length ∧ i = .int .i64 k ∧ t = .string o ∧ o.data.toList = joinC ((xs.take k).map fmtA) ∧ o.size ≤ 159 * k ∧ Below w3.heap.size w3 wr) (fun _ i _ => xs.length - (intOf i).toNat)
      case atStart => exact ⟨0, _, Nat.zero_le _, rfl, rfl, by simp [joinC], Nat.le_refl _, Below.refl _ _⟩
      case round =>
        obtain ⟨k, o, hk, rfl, rfl, hjo, hsz, hb⟩ := hrel
        have HJO := Lib.hid hjo
        clear hjo
        by_cases hlt : k < xs.length
        · obtain ⟨b, off, rfl, hbl, hcell⟩ := HR3.out.2.resolve_left (by omega)
          obtain ⟨q0, q1, q2⟩ := RdR.adr hcell hlt
          rw [← below_at hb hbl] at q0 q1 q2
          obtain ⟨z0, z1, z2⟩ := HX4.out _ (List.getElem_mem hlt)
          rw [← str_size] at z0 z1 z2
          have HN := Lib.hid (joinC_step hlt)
          have HF : Hid (fmtA (adr (str xs[k].name) (str xs[k].loc) (str xs[k].dom)) = fmtA xs[k]) := by show _ = _; rw [adr_str]
          have hfl := fmtA_len xs[k]
          rw [← str_size] at hfl
          have HFL : Hid ((str (fmtA xs[k])).data.toList = fmtA xs[k]) := str_list _
          clear hcell
          generalize str xs[k].name = s0 at *
          generalize str xs[k].loc = s1 at *
          generalize str xs[k].dom = s2 at *
          by_cases h0 : k = 0
          · have hkp : ¬ (0 : Int) < (k : Int) := by omega
            have H0 := Lib.hid h0
            clear h0
            go_wp2_with fail
            refine (formatAddress_any s0 s1 s2 _ (en.below (nx hb13 hb)) (by omega) (by omega) (by omega)).mono ?_
            rintro e w4 ⟨rfl, hb4⟩
            rw [HF.out]
            generalize str (fmtA xs[k]) = fx at *
            go_wp2
            go_roundw
            case rel => exact ⟨k + 1, _, by omega, by go_num, rfl, by
              rw [Joins.data_append, HJO.out, HN.out, HFL.out, if_pos H0.out, show List.take k xs = [] by rw [H0.out]; rfl]; simp [joinC], by rw [ByteArray.size_append]; omega, nx hb hb4⟩
            case measure => simp [intOf]; omega
          · have hkp : 0 < (k : Int) := by omega
            have e2 : (ByteArray.mk #[44, 32]).size = 2 := rfl
            go_wp2_with fail
            refine (formatAddress_any s0 s1 s2 _ (en.below (nx hb13 hb)) (by omega) (by omega) (by omega)).mono ?_
            rintro e w4 ⟨rfl, hb4⟩
            rw [HF.out]
            generalize str (fmtA xs[k]) = fx at *
            go_wp2
            go_roundw
            case rel => exact ⟨k + 1, _, by omega, by go_num, rfl, by
              rw [Joins.data_append, Joins.data_append, HJO.out, HN.out, HFL.out, if_neg h0]; simp, by rw [ByteArray.size_append, ByteArray.size_append]; omega, nx hb hb4⟩
            case measure => simp [intOf]; omega
        · have hkn : k = xs.length := by omega
          have hoe : o = ft := bytes_ext (by rw [HJO.out, hfs.out, ← HJ.out, hkn, List.take_length])
          subst hoe
          subst hkn
          go_wp2_with fail
          refine (textValid_any o _ (by unfold maxLen; omega)).mono ?_
          rintro e w4 ⟨rfl, rfl⟩
          rw [HT.out]
          go_wp2
          go_ret
          exact ⟨rfl, nx hb13 hb⟩
end Go.Proofs.YtepjnahliojnjaaDoor
