/-
  Coded names: names written and read: what the functions return. No statement is proved here.
-/
import Derived.Test.YtboopbjdehdhgadDoorNamC
import Derived.Test.YtboopbjdehdhgadDoorNamX
import Derived.Test.YtboopbjdehdhgadDoorNamR
import Derived.Test.YtboopbjdehdhgadDoorNamB
import Derived.Outline
namespace Go.Proofs.YtboopbjdehdhgadDoor
open Go.RowKit

theorem needs_parts (l : List UInt8) : needs l = (decide (120 < l.length) || (!isText l || (decide (l.head? = some 32) || (decide (l.getLast? = some 32) || hasQ l)))) := rfl
theorem needs_long {s : ByteArray} (h : 120 < s.size) : needs s.data.toList = true := by unfold needs; rw [decide_eq_true (by rw [size_list]; exact h)]; rfl
theorem needs_short {s : ByteArray} (h : ¬ 120 < s.size) : needs s.data.toList = (!isText s.data.toList || (decide (s.data.toList.head? = some 32) || (decide (s.data.toList.getLast? = some 32) || hasQ s.data.toList))) := by unfold needs; rw [decide_eq_false (by rw [size_list]; exact h)]; rfl
theorem ext_takeN (l : List UInt8) (k : Nat) : (str l).extract 0 k = str (l.take k) := by rw [ext_take, str_list]
theorem ext_dropN (l : List UInt8) (k : Nat) : (str l).extract k (str l).size = str (l.drop k) := by rw [ext_drop, str_list]
theorem emp_N (l : List UInt8) : (str l).toList.isEmpty = decide (l = []) := by
  rw [emp_of, str_size, Bool.eq_iff_iff, decide_eq_true_iff, decide_eq_true_iff, List.length_eq_zero_iff]
theorem drop_consN (xs : List (List UInt8)) (k : Nat) (h : k < xs.length) : xs.drop k = xs[k] :: xs.drop (k + 1) := List.drop_eq_getElem_cons h
theorem dgo_coded {fst cd : Bool} {p b : List UInt8} (ps : List (List UInt8)) (h : readW p = some b) : dgo fst cd (p :: ps) = (if fst || cd then [] else [32]) ++ (b ++ dgo false true ps) := by rw [dgo, h]; simp
theorem dgo_bare {fst cd : Bool} {p : List UInt8} (ps : List (List UInt8)) (h : readW p = none) : dgo fst cd (p :: ps) = (if fst then [] else [32]) ++ (p ++ dgo false false ps) := by rw [dgo, h]; simp
theorem decN_long {s : ByteArray} (h : 600 < s.size) : decN s.data.toList = none := by unfold decN; rw [if_neg (by rw [size_list]; omega)]
theorem decN_none {s : ByteArray} {t : List UInt8} (h : dgo true false (splitC 32 s.data.toList) = t) (h2 : 120 < t.length) : decN s.data.toList = none := by unfold decN; rw [h, if_neg (by omega)]
theorem decN_yes {s : ByteArray} {t : List UInt8} (h : dgo true false (splitC 32 s.data.toList) = t) (h0 : ¬ 600 < s.size) (h2 : ¬ 120 < t.length) : decN s.data.toList = some t := by unfold decN; rw [h, if_pos ⟨by rw [size_list]; omega, by omega⟩]
theorem own_lt {B : Nat} {v : Value} {xs : List (List UInt8)} {w : World} (h : OwnL B v xs w) {g n c : Nat} (hv : v = .slice (some ⟨g, 0, none⟩) n c) : g < w.heap.size := by
  rcases h.2 with ⟨h1, _⟩ | ⟨g', cap, cur, h1, _, h2, _⟩
  · rw [hv] at h1; cases h1
  · rw [hv] at h1
    injection h1 with h3 _ _
    injection h3 with h3
    injection h3 with h3 _ _
    subst h3
    rcases Nat.lt_or_ge g w.heap.size with h9 | h9
    · exact h9
    · simp [Array.getElem?_eq_none h9] at h2
set_option maxRecDepth 100000 in
set_option maxHeartbeats 4000000 in
theorem decodeName_any (s : ByteArray) (w : World) (hmx : ∃ m, w.cell? ⟨0, 0, none⟩ = some (.int .i64 m)) (hs : s.size ≤ 1073741000) :
    Calls Tryd.prog 5 #[.string s] w (DecRet (decN s.data.toList) w) := by
  by_cases h600 : 600 < s.size
  · have HN := Lib.hid (decN_long h600)
    go_enter Tryd.func5, Tryd.ntmps5
    go_wp2
    go_ret2
    exact decRet_none HN.out rfl (Below.refl _ _)
  · have hsm := splitC_small 32 s.data.toList
    rw [size_list] at hsm
    have HDN : Hid (∀ t, dgo true false (splitC 32 s.data.toList) = t → 120 < t.length → decN s.data.toList = none) := fun t h h2 => decN_none h h2
    have HDY : Hid (∀ t, dgo true false (splitC 32 s.data.toList) = t → ¬ 120 < t.length → decN s.data.toList = some t) := fun t h h2 => decN_yes h h600 h2
    have HSP := Lib.hid (fun u hu => splitOwnC_any s 32 u (mx_belowN hmx hu) (by omega))
    have HMX := Lib.hid hmx
    have HXL : Hid (∀ x ∈ splitC 32 s.data.toList, x.length ≤ 600) := fun x hx => by have := hsm.2 x hx; omega
    have hxl : (splitC 32 s.data.toList).length ≤ 601 := by omega
    obtain ⟨m0, hm0⟩ := hmx
    have hmlt := lt_of_cell hm0
    clear hsm hm0
    generalize splitC 32 s.data.toList = xs at *
    obtain ⟨n, hn⟩ : ∃ n, xs.length = n := ⟨_, rfl⟩
    have HLEN := Lib.hid hn
    rw [hn] at HSP hxl
    clear hn
    go_enter Tryd.func5, Tryd.ntmps5
    go_wp2_with fail
    refine (HSP.out _ ((Below.refl _ _).alloc (Nat.le_refl _) _)).mono ?_
    rintro e w1 ⟨rfl, ho1, hb1⟩
    have HBG := Lib.hid (bldG_fresh hb1)
    have hb01 : Below w.heap.size w w1 := nx ((Below.refl _ _).alloc (Nat.le_refl _) _) hb1
    have hglt := own_lt ho1 rfl
    have hR : (w.alloc (.cells #[.pointer none, .slice none 0 0] 30)).heap.size = w.heap.size + 1 := by simp
    have HCELL : Hid (∀ k, (h : k < xs.length) → w1.cell? ⟨w.heap.size + 1, k, none⟩ = some (.string (str xs[k]))) := fun k hk => by
      obtain ⟨a1, c1, hv1, hr1, _⟩ := ho1.read
      injection hv1 with hva hvn _
      obtain ⟨b, off, ha, _, hc⟩ := hr1.2.resolve_left (by omega)
      rw [← hva] at ha
      injection ha with ha
      injection ha with ha hoff _
      have := hc k hk
      rw [← ha, ← hoff, Nat.zero_add, hR] at this
      exact this
    rw [hR] at hglt ⊢
    have HB01 := Lib.hid hb01
    have hbs1 := hb01.size
    clear ho1 hb1 hb01 hR
    go_wp2_with fail
    go_loopw [5, 16] (fun g i wr => ∃ (k : Nat) (cd : Bool) (acc : List UInt8), k ≤ n ∧ i = .int .i64 k ∧ g = .bool cd ∧ acc.length ≤ 602 * k ∧ dgo true false xs = acc ++ dgo (decide (k = 0)) cd (xs.drop k) ∧ BldG w1.heap.size w.heap.size acc wr ∧ Touch w.heap.size w1 wr) (fun _ i _ => n - (intOf i).toNat)
    case atStart => exact ⟨0, false, [], by omega, rfl, rfl, by simp, rfl, HBG.out, Touch.refl _ _⟩
    case round =>
      obtain ⟨k, cd, acc, hk, rfl, rfl, hal, hg, hB, ht⟩ := hrel
      have HG := Lib.hid hg
      have HB := Lib.hid hB
      have HT := Lib.hid ht
      have htz := ht.size
      clear hg hB ht
      by_cases hlt : k < n
      · have hkx : k < xs.length := by rw [HLEN.out]; exact hlt
        have c0 : wr.cell? ⟨w.heap.size + 1, k, none⟩ = some (.string (str xs[k])) := by rw [HT.out.cell hglt (by omega)]; exact HCELL.out k hkx
        have hzx : xs[k].length ≤ 600 := HXL.out _ (List.getElem_mem hkx)
        have hkz := str_size xs[k]
        have HSL := Lib.hid (str_list xs[k])
        have HMR : Hid (∃ m, wr.cell? ⟨0, 0, none⟩ = some (.int .i64 m)) := by
          obtain ⟨m, hm⟩ := HMX.out
          exact ⟨m, by rw [HT.out.cell (by omega) (by omega), below_at HB01.out hmlt]; exact hm⟩
        have HRC := Lib.hid (readCodeWord_any (str xs[k]) wr HMR.out (by omega))
        rw [HSL.out] at HRC
        have HDR := Lib.hid (drop_consN xs k hkx)
        have HRL : Hid (∀ b, readW xs[k] = some b → b.length ≤ 28) := fun b h => (readW_len h).1
        have HDC : Hid (∀ b, readW xs[k] = some b → dgo true false xs = (acc ++ (if (decide (k = 0) || cd) = true then [] else [32]) ++ b) ++ dgo (decide (k + 1 = 0)) true (xs.drop (k + 1))) := fun b h => by rw [HG.out, HDR.out, dgo_coded _ h, decide_eq_false (show ¬ k + 1 = 0 by omega)]; simp
        have HDB : Hid (readW xs[k] = none → dgo true false xs = (acc ++ (if decide (k = 0) = true then [] else [32]) ++ xs[k]) ++ dgo (decide (k + 1 = 0)) false (xs.drop (k + 1))) := fun h => by rw [HG.out, HDR.out, dgo_bare _ h, decide_eq_false (show ¬ k + 1 = 0 by omega)]; simp
        generalize xs[k] = xk at *
        clear HDR
        cases hq : readW xk with
        | none =>
          rw [hq] at HRC
          have HNX := Lib.hid (HDB.out hq)
          clear hq
          by_cases hk0 : k = 0
          · rw [if_pos (decide_eq_true hk0), List.append_nil] at HNX
            have hki : ¬ ((0 : Int) < (k : Int)) := by omega
            clear hk0
            go_wp2_with fail
            refine HRC.out.mono ?_
            rintro e w4 ⟨rfl, hb4⟩
            have hB4 := HB.out.keep hb4
            have hT4 : Touch w.heap.size w1 w4 := HT.out.ext (hb4.mono htz)
            go_wp2_with fail
            refine (writeStringG_any _ _ _ (str xk) _ hB4 (by rw [str_size]; first | omega | (simp only [List.length_append, List.length_singleton]; omega))).mono ?_
            rintro e w6 ⟨rfl, hB6, hf6⟩
            rw [str_list] at hB6
            have hT6 := hf6 w1 rfl hT4
            clear hf6
            go_wp2
            go_roundw
            case rel => exact ⟨k + 1, false, _, by omega, by go_num, rfl, by simp only [List.length_append]; omega, HNX.out, hB6, hT6⟩
            case measure => simp [intOf]; omega
          · rw [if_neg (by simp [hk0])] at HNX
            have hki : ((0 : Int) < (k : Int)) := by omega
            clear hk0
            go_wp2_with fail
            refine HRC.out.mono ?_
            rintro e w4 ⟨rfl, hb4⟩
            have hB4 := HB.out.keep hb4
            have hT4 : Touch w.heap.size w1 w4 := HT.out.ext (hb4.mono htz)
            go_wp2_with fail
            refine (writeByteG_any _ _ _ 32 _ hB4 (by omega)).mono ?_
            rintro e w5 ⟨rfl, hB5, hf5⟩
            have hT5 := hf5 w1 rfl hT4
            clear hf5
            go_wp2_with fail
            refine (writeStringG_any _ _ _ (str xk) _ hB5 (by rw [str_size]; first | omega | (simp only [List.length_append, List.length_singleton]; omega))).mono ?_
            rintro e w6 ⟨rfl, hB6, hf6⟩
            rw [str_list] at hB6
            have hT6 := hf6 w1 rfl hT5
            clear hf6
            go_wp2
            go_roundw
            case rel => exact ⟨k + 1, false, _, by omega, by go_num, rfl, by simp only [List.length_append, List.length_singleton]; omega, HNX.out, hB6, hT6⟩
            case measure => simp [intOf]; omega
        | some b =>
          rw [hq] at HRC
          have HNX := Lib.hid (HDC.out b hq)
          have hbl := HRL.out b hq
          clear hq
          by_cases hk0 : k = 0
          · rw [if_pos (by simp [hk0]), List.append_nil] at HNX
            have hki : ¬ ((0 : Int) < (k : Int)) := by omega
            clear hk0
            go_wp2_with fail
            refine HRC.out.mono ?_
            rintro e w4 ⟨rfl, hb4⟩
            have hB4 := HB.out.keep hb4
            have hT4 : Touch w.heap.size w1 w4 := HT.out.ext (hb4.mono htz)
            go_wp2_with fail
            refine (writeStringG_any _ _ _ (str b) _ hB4 (by rw [str_size]; first | omega | (simp only [List.length_append, List.length_singleton]; omega))).mono ?_
            rintro e w6 ⟨rfl, hB6, hf6⟩
            rw [str_list] at hB6
            have hT6 := hf6 w1 rfl hT4
            clear hf6
            go_wp2
            go_roundw
            case rel => exact ⟨k + 1, true, _, by omega, by go_num, rfl, by simp only [List.length_append]; omega, HNX.out, hB6, hT6⟩
            case measure => simp [intOf]; omega
          · have hki : ((0 : Int) < (k : Int)) := by omega
            cases cd
            · rw [if_neg (by simp [hk0])] at HNX
              clear hk0
              go_wp2_with fail
              refine HRC.out.mono ?_
              rintro e w4 ⟨rfl, hb4⟩
              have hB4 := HB.out.keep hb4
              have hT4 : Touch w.heap.size w1 w4 := HT.out.ext (hb4.mono htz)
              go_wp2_with fail
              refine (writeByteG_any _ _ _ 32 _ hB4 (by omega)).mono ?_
              rintro e w5 ⟨rfl, hB5, hf5⟩
              have hT5 := hf5 w1 rfl hT4
              clear hf5
              go_wp2_with fail
              refine (writeStringG_any _ _ _ (str b) _ hB5 (by rw [str_size]; first | omega | (simp only [List.length_append, List.length_singleton]; omega))).mono ?_
              rintro e w6 ⟨rfl, hB6, hf6⟩
              rw [str_list] at hB6
              have hT6 := hf6 w1 rfl hT5
              clear hf6
              go_wp2
              go_roundw
              case rel => exact ⟨k + 1, true, _, by omega, by go_num, rfl, by simp only [List.length_append, List.length_singleton]; omega, HNX.out, hB6, hT6⟩
              case measure => simp [intOf]; omega
            · rw [if_pos (by simp), List.append_nil] at HNX
              clear hk0
              go_wp2_with fail
              refine HRC.out.mono ?_
              rintro e w4 ⟨rfl, hb4⟩
              have hB4 := HB.out.keep hb4
              have hT4 : Touch w.heap.size w1 w4 := HT.out.ext (hb4.mono htz)
              go_wp2_with fail
              refine (writeStringG_any _ _ _ (str b) _ hB4 (by rw [str_size]; first | omega | (simp only [List.length_append, List.length_singleton]; omega))).mono ?_
              rintro e w6 ⟨rfl, hB6, hf6⟩
              rw [str_list] at hB6
              have hT6 := hf6 w1 rfl hT4
              clear hf6
              go_wp2
              go_roundw
              case rel => exact ⟨k + 1, true, _, by omega, by go_num, rfl, by simp only [List.length_append]; omega, HNX.out, hB6, hT6⟩
              case measure => simp [intOf]; omega
      · have HF : Hid (dgo true false xs = acc) := by show _ = _; rw [HG.out, List.drop_eq_nil_of_le (by rw [HLEN.out]; omega)]; simp [dgo]
        have hBb := HB.out.toBld
        go_wp2_with fail
        refine (bLen_any _ _ _ _ hBb).mono ?_
        rintro e w5 ⟨rfl, rfl⟩
        have hfin : Below w.heap.size w wr := HB01.out.trans (HT.out.below (Nat.le_refl _) hbs1)
        by_cases h120 : 120 < acc.length
        · have HN := Lib.hid (HDN.out acc HF.out h120)
          go_wp2
          go_ret2
          exact decRet_none HN.out rfl hfin
        · have HN := Lib.hid (HDY.out acc HF.out h120)
          go_wp2_with fail
          refine (bString_any _ _ _ _ hBb).mono ?_
          rintro e w6 ⟨rfl, hb6⟩
          go_wp2
          go_ret2
          exact decRet_some HN.out rfl (hfin.trans hb6)
end Go.Proofs.YtboopbjdehdhgadDoor
