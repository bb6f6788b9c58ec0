/-
  Coded names: names read by the model: what it returns. No statement is proved here.
-/
import Derived.Test.YtboopbjdehdhgabDoorNamR
import Derived.Test.YtboopbjdehdhgabDoorAddrS
import Derived.Outline
namespace Go.Proofs.YtboopbjdehdhgabDoor
open Go.RowKit

theorem drop_consS (xs : List (List UInt8)) (k : Nat) (h : k < xs.length) : xs.drop k = xs[k] :: xs.drop (k + 1) := List.drop_eq_getElem_cons h
theorem dgo_codedS {fst cd : Bool} {p b : List UInt8} (ps : List (List UInt8)) (h : readW p = some b) : dgo fst cd (p :: ps) = (if fst || cd then [] else [32]) ++ (b ++ dgo false true ps) := by rw [dgo, h]; simp
theorem dgo_bareS {fst cd : Bool} {p : List UInt8} (ps : List (List UInt8)) (h : readW p = none) : dgo fst cd (p :: ps) = (if fst then [] else [32]) ++ (p ++ dgo false false ps) := by rw [dgo, h]; simp
set_option maxRecDepth 100000 in
set_option maxHeartbeats 4000000 in
theorem decodeNameS_any (s : ByteArray) (w : World) (hs : s.size ≤ 1073741000) :
    Calls Tryd.prog 13 #[.string s] w (DecRet (decN s.data.toList) w) := by
  by_cases h600 : 600 < s.size
  · have HN : Hid (decN s.data.toList = none) := by show _ = _; unfold decN; rw [if_neg (by rw [size_list]; omega)]
    go_enter Tryd.func13, Tryd.ntmps13
    go_wp2
    go_ret2
    exact decRet_none HN.out rfl (Below.refl _ _)
  · have hsm := splitC_small 32 s.data.toList
    rw [size_list] at hsm
    have HDN : Hid (∀ t, dgo true false (splitC 32 s.data.toList) = t → 120 < t.length → decN s.data.toList = none) := fun t h h2 => by unfold decN; rw [h, if_neg (by omega)]
    have HDY : Hid (∀ t, dgo true false (splitC 32 s.data.toList) = t → ¬ 120 < t.length → decN s.data.toList = some t) := fun t h h2 => by unfold decN; rw [h, if_pos ⟨by rw [size_list]; omega, by omega⟩]
    have HSP := Lib.hid (fun u => l2Parts_any s 32 u hs)
    have HXL : Hid (∀ x ∈ splitC 32 s.data.toList, x.length ≤ 600) := fun x hx => by have := hsm.2 x hx; omega
    have hxl : (splitC 32 s.data.toList).length ≤ 601 := by omega
    clear hsm
    generalize splitC 32 s.data.toList = xs at *
    go_enter Tryd.func13, Tryd.ntmps13
    go_wp2_with fail
    refine (HSP.out _).mono ?_
    rintro e w1 ⟨v, rfl, ho1, hb1⟩
    obtain ⟨a1, c1, rfl, hr1, _⟩ := ho1.read
    have HR := Lib.hid hr1.2
    obtain ⟨n, hn⟩ : ∃ n, xs.length = n := ⟨_, rfl⟩
    have HLEN := Lib.hid hn
    rw [hn] at hxl ⊢
    have HB01 := Lib.hid hb1
    clear hr1 ho1 hb1 hn
    go_wp2_with fail
    go_loopw [5, 6, 7] (fun o g i wr => ∃ (k : Nat) (cd : Bool) (acc : List UInt8), k ≤ n ∧ i = .int .i64 k ∧ g = .bool cd ∧ o = .string (str acc) ∧ acc.length ≤ 602 * k ∧ dgo true false xs = acc ++ dgo (decide (k = 0)) cd (xs.drop k) ∧ Below w1.heap.size w1 wr) (fun _ _ i _ => n - (intOf i).toNat)
    case atStart => exact ⟨0, false, [], by omega, rfl, rfl, rfl, by simp, rfl, Below.refl _ _⟩
    case round =>
      obtain ⟨k, cd, acc, hk, rfl, rfl, rfl, hal, hg, hb⟩ := hrel
      have HG := Lib.hid hg
      have HB := Lib.hid hb
      have haz := str_size acc
      clear hg hb
      by_cases hlt : k < n
      · have hkx : k < xs.length := by rw [HLEN.out]; exact hlt
        obtain ⟨b0, off, rfl, hbl, hcell⟩ := HR.out.resolve_left (by rw [HLEN.out]; omega)
        have c0 : wr.cell? ⟨b0, off + k, none⟩ = some (.string (str xs[k])) := by rw [below_at HB.out hbl]; exact hcell k hkx
        have hzx : xs[k].length ≤ 600 := HXL.out _ (List.getElem_mem hkx)
        have hkz := str_size xs[k]
        have HRC := Lib.hid (readCodeWordS_any (str xs[k]) wr (by omega))
        rw [str_list] at HRC
        have HDR := Lib.hid (drop_consS xs k hkx)
        have HRL : Hid (∀ b, readW xs[k] = some b → b.length ≤ 28) := fun b h => (readW_len h).1
        have HDC : Hid (∀ b, readW xs[k] = some b → dgo true false xs = (acc ++ (if (decide (k = 0) || cd) = true then [] else [32]) ++ b) ++ dgo (decide (k + 1 = 0)) true (xs.drop (k + 1))) := fun b h => by rw [HG.out, HDR.out, dgo_codedS _ h, decide_eq_false (show ¬ k + 1 = 0 by omega)]; simp
        have HDB : Hid (readW xs[k] = none → dgo true false xs = (acc ++ (if decide (k = 0) = true then [] else [32]) ++ xs[k]) ++ dgo (decide (k + 1 = 0)) false (xs.drop (k + 1))) := fun h => by rw [HG.out, HDR.out, dgo_bareS _ h, decide_eq_false (show ¬ k + 1 = 0 by omega)]; simp
        generalize xs[k] = xk at *
        clear HDR hcell
        have hs32 : (str acc ++ ByteArray.mk #[32]).size = (str acc).size + 1 := ByteArray.size_append
        have HS32 : Hid (str acc ++ ByteArray.mk #[32] = str (acc ++ [32])) := by show str acc ++ str [32] = _; rw [str_app]
        cases hq : readW xk with
        | none =>
          rw [hq] at HRC
          have HNX := Lib.hid (HDB.out hq)
          clear hq
          by_cases hk0 : k = 0
          · rw [if_pos (decide_eq_true hk0), List.append_nil] at HNX
            have hki : ¬ ((0 : Int) < (k : Int)) := by omega
            clear hk0
            go_wp2_with fail
            refine HRC.out.mono ?_
            rintro e w4 ⟨rfl, hb4⟩
            have hB4 := nx HB.out hb4
            have c4 : w4.cell? ⟨b0, off + k, none⟩ = some (.string (str xk)) := by rw [below_at hb4 (lt_of_cell c0)]; exact c0
            go_wp2
            go_roundw
            case rel => exact ⟨k + 1, false, _, by omega, by go_num, rfl, by rw [← str_app], by simp only [List.length_append]; omega, HNX.out, hB4⟩
            case measure => simp [intOf]; omega
          · rw [if_neg (by simp [hk0])] at HNX
            have hki : ((0 : Int) < (k : Int)) := by omega
            clear hk0
            go_wp2_with fail
            refine HRC.out.mono ?_
            rintro e w4 ⟨rfl, hb4⟩
            have hB4 := nx HB.out hb4
            have c4 : w4.cell? ⟨b0, off + k, none⟩ = some (.string (str xk)) := by rw [below_at hb4 (lt_of_cell c0)]; exact c0
            go_wp2
            go_roundw
            case rel => exact ⟨k + 1, false, _, by omega, by go_num, rfl, by rw [← str_app, ← HS32.out], by simp only [List.length_append, List.length_singleton]; omega, HNX.out, hB4⟩
            case measure => simp [intOf]; omega
        | some b =>
          rw [hq] at HRC
          have HNX := Lib.hid (HDC.out b hq)
          have hbl2 := HRL.out b hq
          have hbz := str_size b
          have HGB : Hid (str ((some b).getD []) = str b) := rfl
          clear hq
          by_cases hk0 : k = 0
          · rw [if_pos (by simp [hk0]), List.append_nil] at HNX
            have hki : ¬ ((0 : Int) < (k : Int)) := by omega
            clear hk0
            go_wp2_with fail
            refine HRC.out.mono ?_
            rintro e w4 ⟨rfl, hb4⟩
            have hB4 := nx HB.out hb4
            rw [HGB.out]
            go_wp2
            go_roundw
            case rel => exact ⟨k + 1, true, _, by omega, by go_num, rfl, by rw [← str_app], by simp only [List.length_append]; omega, HNX.out, hB4⟩
            case measure => simp [intOf]; omega
          · have hki : ((0 : Int) < (k : Int)) := by omega
            cases cd
            · rw [if_neg (by simp [hk0])] at HNX
              clear hk0
              go_wp2_with fail
              refine HRC.out.mono ?_
              rintro e w4 ⟨rfl, hb4⟩
              have hB4 := nx HB.out hb4
              rw [HGB.out]
              go_wp2
              go_roundw
              case rel => exact ⟨k + 1, true, _, by omega, by go_num, rfl, by rw [← str_app, ← HS32.out], by simp only [List.length_append, List.length_singleton]; omega, HNX.out, hB4⟩
              case measure => simp [intOf]; omega
            · rw [if_pos (by simp), List.append_nil] at HNX
              clear hk0
              go_wp2_with fail
              refine HRC.out.mono ?_
              rintro e w4 ⟨rfl, hb4⟩
              have hB4 := nx HB.out hb4
              rw [HGB.out]
              go_wp2
              go_roundw
              case rel => exact ⟨k + 1, true, _, by omega, by go_num, rfl, by rw [← str_app], by simp only [List.length_append]; omega, HNX.out, hB4⟩
              case measure => simp [intOf]; omega
      · have HF : Hid (dgo true false xs = acc) := by show _ = _; rw [HG.out, List.drop_eq_nil_of_le (by rw [HLEN.out]; omega)]; simp [dgo]
        have hfin : Below w.heap.size w wr := nx HB01.out HB.out
        by_cases h120 : 120 < acc.length
        · have HN := Lib.hid (HDN.out acc HF.out h120)
          go_wp2
          go_ret2
          exact decRet_none HN.out rfl hfin
        · have HN := Lib.hid (HDY.out acc HF.out h120)
          go_wp2
          go_ret2
          exact decRet_some HN.out rfl hfin
end Go.Proofs.YtboopbjdehdhgabDoor
