/-
  Coded names: names written and read: what the functions return. No statement is proved here.
-/
import Derived.Test.YtboopbjdehdhgabDoorNamC
import Derived.Test.YtboopbjdehdhgabDoorNamX
import Derived.Test.YtboopbjdehdhgabDoorNamR
import Derived.Test.YtboopbjdehdhgabDoorNamB
import Derived.Test.YtboopbjdehdhgabDoorTrimS
import Derived.Outline
namespace Go.Proofs.YtboopbjdehdhgabDoor
open Go.RowKit

theorem needs_parts (l : List UInt8) : needs l = (decide (120 < l.length) || (!isText l || (decide (l.head? = some 32) || (decide (l.getLast? = some 32) || hasQ l)))) := rfl
theorem needs_long {s : ByteArray} (h : 120 < s.size) : needs s.data.toList = true := by unfold needs; rw [decide_eq_true (by rw [size_list]; exact h)]; rfl
theorem needs_short {s : ByteArray} (h : ¬ 120 < s.size) : needs s.data.toList = (!isText s.data.toList || (decide (s.data.toList.head? = some 32) || (decide (s.data.toList.getLast? = some 32) || hasQ s.data.toList))) := by unfold needs; rw [decide_eq_false (by rw [size_list]; exact h)]; rfl
theorem ext_takeN (l : List UInt8) (k : Nat) : (str l).extract 0 k = str (l.take k) := by rw [ext_take, str_list]
theorem ext_dropN (l : List UInt8) (k : Nat) : (str l).extract k (str l).size = str (l.drop k) := by rw [ext_drop, str_list]
theorem emp_N (l : List UInt8) : (str l).toList.isEmpty = decide (l = []) := by
  rw [emp_of, str_size, Bool.eq_iff_iff, decide_eq_true_iff, decide_eq_true_iff, List.length_eq_zero_iff]
theorem drop_consN (xs : List (List UInt8)) (k : Nat) (h : k < xs.length) : xs.drop k = xs[k] :: xs.drop (k + 1) := List.drop_eq_getElem_cons h
theorem dgo_coded {fst cd : Bool} {p b : List UInt8} (ps : List (List UInt8)) (h : readW p = some b) : dgo fst cd (p :: ps) = (if fst || cd then [] else [32]) ++ (b ++ dgo false true ps) := by rw [dgo, h]; simp
theorem dgo_bare {fst cd : Bool} {p : List UInt8} (ps : List (List UInt8)) (h : readW p = none) : dgo fst cd (p :: ps) = (if fst then [] else [32]) ++ (p ++ dgo false false ps) := by rw [dgo, h]; simp
theorem decN_long {s : ByteArray} (h : 600 < s.size) : decN s.data.toList = none := by unfold decN; rw [if_neg (by rw [size_list]; omega)]
theorem decN_none {s : ByteArray} {t : List UInt8} (h : dgo true false (splitC 32 s.data.toList) = t) (h2 : 120 < t.length) : decN s.data.toList = none := by unfold decN; rw [h, if_neg (by omega)]
theorem decN_yes {s : ByteArray} {t : List UInt8} (h : dgo true false (splitC 32 s.data.toList) = t) (h0 : ¬ 600 < s.size) (h2 : ¬ 120 < t.length) : decN s.data.toList = some t := by unfold decN; rw [h, if_pos ⟨by rw [size_list]; omega, by omega⟩]
set_option maxRecDepth 100000 in
set_option maxHeartbeats 1000000 in
theorem needsCode_any (s : ByteArray) (w : World) (hmx : ∃ m, w.cell? ⟨0, 0, none⟩ = some (.int .i64 m)) (hs : s.size ≤ 1073741000) :
    Calls Tryd.prog 9 #[.string s] w fun e w' => e = .returned (.bool (needs s.data.toList)) ∧ w = w' := by
  by_cases h120 : 120 < s.size
  · have HN := Lib.hid (needs_long h120)
    go_enter Tryd.func9, Tryd.ntmps9
    go_wp2
    go_ret
    exact ⟨ret_bool HN.out.symm, rfl⟩
  · have HE := Lib.hid (needs_short h120)
    have HT := Lib.hid (fun u => textValid_any s u (by unfold maxLen; omega))
    have HP := Lib.hid (fun u => hasPre_any s u)
    have HS := Lib.hid (fun u => hasSuf_any s u (by omega))
    have HQ := Lib.hid (hasQ_any s w hmx (by omega))
    generalize isText s.data.toList = t at *
    generalize decide (s.data.toList.head? = some 32) = hd at *
    generalize decide (s.data.toList.getLast? = some 32) = lt at *
    generalize hasQ s.data.toList = q at *
    cases t
    · go_enter Tryd.func9, Tryd.ntmps9
      go_wp2_with fail
      refine (HT.out _).mono ?_
      rintro e w1 ⟨rfl, rfl⟩
      go_wp2
      go_ret
      exact ⟨ret_bool (by rw [HE.out]; rfl), rfl⟩
    · cases hd
      · cases lt
        · go_enter Tryd.func9, Tryd.ntmps9
          go_wp2_with fail
          refine (HT.out _).mono ?_
          rintro e w1 ⟨rfl, rfl⟩
          go_wp2_with fail
          refine (HP.out _).mono ?_
          rintro e w1 ⟨rfl, rfl⟩
          go_wp2_with fail
          refine (HS.out _).mono ?_
          rintro e w1 ⟨rfl, rfl⟩
          go_wp2_with fail
          refine HQ.out.mono ?_
          rintro e w1 ⟨rfl, rfl⟩
          go_wp2
          go_ret
          exact ⟨ret_bool (by rw [HE.out]; rfl), rfl⟩
        · go_enter Tryd.func9, Tryd.ntmps9
          go_wp2_with fail
          refine (HT.out _).mono ?_
          rintro e w1 ⟨rfl, rfl⟩
          go_wp2_with fail
          refine (HP.out _).mono ?_
          rintro e w1 ⟨rfl, rfl⟩
          go_wp2_with fail
          refine (HS.out _).mono ?_
          rintro e w1 ⟨rfl, rfl⟩
          go_wp2
          go_ret
          exact ⟨ret_bool (by rw [HE.out]; rfl), rfl⟩
      · go_enter Tryd.func9, Tryd.ntmps9
        go_wp2_with fail
        refine (HT.out _).mono ?_
        rintro e w1 ⟨rfl, rfl⟩
        go_wp2_with fail
        refine (HP.out _).mono ?_
        rintro e w1 ⟨rfl, rfl⟩
        go_wp2
        go_ret
        exact ⟨ret_bool (by rw [HE.out]; rfl), rfl⟩
set_option maxRecDepth 100000 in
set_option maxHeartbeats 2000000 in
theorem encodeName_any (s : ByteArray) (w : World) (hmx : ∃ m, w.cell? ⟨0, 0, none⟩ = some (.int .i64 m)) (hs : s.size ≤ 1073741000) :
    Calls Tryd.prog 7 #[.string s] w (DecRet (encN s.data.toList) w) := by
  obtain ⟨i0, hi, hz0, hz1, hz2⟩ := info_parts sInfo
  by_cases h120 : 120 < s.size
  · have HN := Lib.hid (encN_out (b := s.data.toList) (by rw [size_list]; exact h120))
    go_enter Tryd.func7, Tryd.ntmps7
    go_wp2
    go_ret2
    exact decRet_none HN.out rfl (Below.refl _ _)
  · have HE := Lib.hid (encN_in (b := s.data.toList) (by rw [size_list]; omega))
    have HNC := Lib.hid (needsCode_any s w hmx hs)
    have hs120 : s.size ≤ 120 := by omega
    cases hn : needs s.data.toList
    · rw [hn] at HNC HE
      clear hn
      go_enter Tryd.func7, Tryd.ntmps7
      go_wp2_with fail
      refine HNC.out.mono ?_
      rintro e w1 ⟨rfl, rfl⟩
      go_wp2
      go_ret2
      exact decRet_some HE.out (by simp [str_of]) (Below.refl _ _)
    · rw [hn, if_pos rfl] at HE
      rw [hn] at HNC
      clear hn
      have HJL := Lib.hid (joinWords_len (l := s.data.toList) (by rw [size_list]; exact hs120))
      go_enter Tryd.func7, Tryd.ntmps7
      go_wp2_with fail
      refine HNC.out.mono ?_
      rintro e w1 ⟨rfl, rfl⟩
      go_wp2_with fail
      go_loopw [0, 4] (fun b v wr => ∃ (r : List UInt8) (acc : List (List UInt8)), b = .string (str r) ∧ r.length + acc.length ≤ 120 ∧ wordsOf s.data.toList = acc ++ wordsOf r ∧ OwnL w.heap.size v acc wr ∧ Below w.heap.size w wr) (fun b _ _ => Lib.strSize b)
      case atStart => exact ⟨s.data.toList, [], by rw [str_of], by rw [size_list]; simpa using hs120, rfl, OwnL.nil _ _, Below.refl _ _⟩
      case round =>
        obtain ⟨r, acc, rfl, hrl, hg, hown, hb⟩ := hrel
        have HG := Lib.hid hg
        have HOWN := Lib.hid hown
        have HB := Lib.hid hb
        have hbs := hb.size
        have hrz := str_size r
        clear hg hown hb
        by_cases hr : r = []
        · have HF : Hid (wordsOf s.data.toList = acc) := by show _ = _; rw [HG.out, hr, wordsOf_nil, List.append_nil]
          have he : (str r).toList.isEmpty = true := by rw [emp_N, decide_eq_true hr]
          obtain ⟨a, c, rfl, hrd, _⟩ := HOWN.out.read
          have hjl : (Lib.join acc [32]).length ≤ 560 := by rw [← HF.out]; exact HJL.out
          have HRD := Lib.hid hrd
          have hcc : acc.length ≤ c := by
            rcases HOWN.out.2 with ⟨hv, _⟩ | ⟨g, cap, cur, hv, _, _, h1, _⟩
            · injection hv with _ h1 h2; omega
            · injection hv with _ h1 h2; omega
          clear hrd hr
          go_wp2_with fail
          refine (joinC_any a acc.length c acc ⟨#[32]⟩ wr HRD.out hcc (by omega) (by show (Lib.join acc [32]).length ≤ _; omega)).mono ?_
          rintro e w5 ⟨rfl, hb5⟩
          go_wp2
          go_ret2
          exact decRet_some HE.out (by rw [HF.out]) (nx HB.out hb5)
        · have he : (str r).toList.isEmpty = false := by rw [emp_N, decide_eq_false hr]
          have hrm := room_le r 28
          have hrp := room_pos hr
          have HBR := Lib.hid (fun u => bytesInRoom_any (str r) u (by omega))
          rw [str_list] at HBR
          have HWC := Lib.hid (word_code hr)
          have HST : Hid (wordsOf s.data.toList = (acc ++ [wordL (r.take (room 28 r))]) ++ wordsOf (r.drop (room 28 r))) := by show _ = _; rw [HG.out, wordsOf_step hr]; simp
          have HCW := Lib.hid (fun u => codeWord_any ((str r).extract 0 (room 28 r)) u (by rw [ext_takeN, str_size, List.length_take]; omega))
          have HXT := Lib.hid (ext_takeN r (room 28 r))
          rw [HXT.out, str_list, HWC.out] at HCW
          rw [← HXT.out] at HCW
          have HXD : Hid ((str r).extract (room 28 r) r.length = str (r.drop (room 28 r))) := by show _ = _; rw [← ext_dropN, str_size]
          have HDL : Hid ((r.drop (room 28 r)).length + room 28 r = r.length) := by show _ = _; rw [List.length_drop]; omega
          have HWL := Lib.hid (str_list (wordL (r.take (room 28 r))))
          generalize wordL (r.take (room 28 r)) = wl at *
          generalize hdd : r.drop (room 28 r) = dd at *
          generalize room 28 r = cn at *
          have HX2 := Lib.hid (str_size dd)
          generalize str r = x at *
          clear hr hdd
          have hown1 := HOWN.out
          unfold OwnL at hown1
          go_wp2_with fail
          refine (HBR.out _).mono ?_
          rintro e w2 ⟨rfl, hb2⟩
          go_wp2_with fail
          refine (HCW.out _).mono ?_
          rintro e w3 ⟨rfl, hb3⟩
          have hb23 := nx hb2 hb3
          have hbs3 := hb23.size
          have hown3 := HOWN.out.keep hb23
          unfold OwnL at hown3
          go_wp2_with (at_builtin; refine wpList_append_own _ rfl _ _ 31 rfl w.heap.size 9 i0 (.string ⟨#[]⟩) 1 16 Tryd.underlying31 hi hz0 hz1 hz2 rfl (by decide) _ _ _ rfl (World.ownsRow.alloc hown3 _) ⟨w3.heap.size, 0, none⟩ 1 1 [.string (str wl)] rfl rfl ?c1 ?c2 ?c3 ?c4 ?c5 ?_)
          case c1 =>
            intro u v hj
            match u, hj with
            | 0, hj => simp at hj; subst hj; simp [Addr.add]
          case c2 => intro u hu; simp at hu; subst hu; rfl
          case c3 => unfold maxLen; omega
          case c4 => omega
          case c5 => simp; omega
          intro v' w4 hown' hgrow _
          have hO4 := own_snoc hown'
          rw [HWL.out] at hO4
          have hb4 : Below w.heap.size w3 w4 := ((Below.refl _ _).alloc (by omega) _).grown hgrow (by simp; omega) (fun k hk => (World.ownsRow.lt hown3 k hk).1)
          have hB4 : Below w.heap.size w w4 := (nx HB.out hb23).trans hb4
          go_wp2
          go_roundw
          case rel => exact ⟨dd, _, by rw [HXD.out], by rw [List.length_append, List.length_singleton]; have := HDL.out; omega, HST.out, hO4, hB4⟩
          case measure => rw [HXD.out, Lib.strSize_string, Lib.strSize_string]; have := HX2.out; have := HDL.out; omega
theorem own_lt {B : Nat} {v : Value} {xs : List (List UInt8)} {w : World} (h : OwnL B v xs w) {g n c : Nat} (hv : v = .slice (some ⟨g, 0, none⟩) n c) : g < w.heap.size := by
  rcases h.2 with ⟨h1, _⟩ | ⟨g', cap, cur, h1, _, h2, _⟩
  · rw [hv] at h1; cases h1
  · rw [hv] at h1
    injection h1 with h3 _ _
    injection h3 with h3
    injection h3 with h3 _ _
    subst h3
    rcases Nat.lt_or_ge g w.heap.size with h9 | h9
    · exact h9
    · simp [Array.getElem?_eq_none h9] at h2
set_option maxRecDepth 100000 in
set_option maxHeartbeats 4000000 in
theorem decodeName_any (s : ByteArray) (w : World) (hmx : ∃ m, w.cell? ⟨0, 0, none⟩ = some (.int .i64 m)) (hs : s.size ≤ 1073741000) :
    Calls Tryd.prog 12 #[.string s] w (DecRet (decN s.data.toList) w) := by
  by_cases h600 : 600 < s.size
  · have HN := Lib.hid (decN_long h600)
    go_enter Tryd.func12, Tryd.ntmps12
    go_wp2
    go_ret2
    exact decRet_none HN.out rfl (Below.refl _ _)
  · have hsm := splitC_small 32 s.data.toList
    rw [size_list] at hsm
    have HDN : Hid (∀ t, dgo true false (splitC 32 s.data.toList) = t → 120 < t.length → decN s.data.toList = none) := fun t h h2 => decN_none h h2
    have HDY : Hid (∀ t, dgo true false (splitC 32 s.data.toList) = t → ¬ 120 < t.length → decN s.data.toList = some t) := fun t h h2 => decN_yes h h600 h2
    have HSP := Lib.hid (fun u hu => splitOwnC_any s 32 u (mx_belowN hmx hu) (by omega))
    have HMX := Lib.hid hmx
    have HXL : Hid (∀ x ∈ splitC 32 s.data.toList, x.length ≤ 600) := fun x hx => by have := hsm.2 x hx; omega
    have hxl : (splitC 32 s.data.toList).length ≤ 601 := by omega
    obtain ⟨m0, hm0⟩ := hmx
    have hmlt := lt_of_cell hm0
    clear hsm hm0
    generalize splitC 32 s.data.toList = xs at *
    obtain ⟨n, hn⟩ : ∃ n, xs.length = n := ⟨_, rfl⟩
    have HLEN := Lib.hid hn
    rw [hn] at HSP hxl
    clear hn
    go_enter Tryd.func12, Tryd.ntmps12
    go_wp2_with fail
    refine (HSP.out _ ((Below.refl _ _).alloc (Nat.le_refl _) _)).mono ?_
    rintro e w1 ⟨rfl, ho1, hb1⟩
    have HBG := Lib.hid (bldG_fresh hb1)
    have hb01 : Below w.heap.size w w1 := nx ((Below.refl _ _).alloc (Nat.le_refl _) _) hb1
    have hglt := own_lt ho1 rfl
    have hR : (w.alloc (.cells #[.pointer none, .slice none 0 0] 41)).heap.size = w.heap.size + 1 := by simp
    have HCELL : Hid (∀ k, (h : k < xs.length) → w1.cell? ⟨w.heap.size + 1, k, none⟩ = some (.string (str xs[k]))) := fun k hk => by
      obtain ⟨a1, c1, hv1, hr1, _⟩ := ho1.read
      injection hv1 with hva hvn _
      obtain ⟨b, off, ha, _, hc⟩ := hr1.2.resolve_left (by omega)
      rw [← hva] at ha
      injection ha with ha
      injection ha with ha hoff _
      have := hc k hk
      rw [← ha, ← hoff, Nat.zero_add, hR] at this
      exact this
    rw [hR] at hglt ⊢
    have HB01 := Lib.hid hb01
    have hbs1 := hb01.size
    clear ho1 hb1 hb01 hR
    go_wp2_with fail
    go_loopw [5, 16] (fun g i wr => ∃ (k : Nat) (cd : Bool) (acc : List UInt8), k ≤ n ∧ i = .int .i64 k ∧ g = .bool cd ∧ acc.length ≤ 602 * k ∧ dgo true false xs = acc ++ dgo (decide (k = 0)) cd (xs.drop k) ∧ BldG w1.heap.size w.heap.size acc wr ∧ Touch w.heap.size w1 wr) (fun _ i _ => n - (intOf i).toNat)
    case atStart => exact ⟨0, false, [], by omega, rfl, rfl, by simp, rfl, HBG.out, Touch.refl _ _⟩
    case round =>
      obtain ⟨k, cd, acc, hk, rfl, rfl, hal, hg, hB, ht⟩ := hrel
      have HG := Lib.hid hg
      have HB := Lib.hid hB
      have HT := Lib.hid ht
      have htz := ht.size
      clear hg hB ht
      by_cases hlt : k < n
      · have hkx : k < xs.length := by rw [HLEN.out]; exact hlt
        have c0 : wr.cell? ⟨w.heap.size + 1, k, none⟩ = some (.string (str xs[k])) := by rw [HT.out.cell hglt (by omega)]; exact HCELL.out k hkx
        have hzx : xs[k].length ≤ 600 := HXL.out _ (List.getElem_mem hkx)
        have hkz := str_size xs[k]
        have HSL := Lib.hid (str_list xs[k])
        have HMR : Hid (∃ m, wr.cell? ⟨0, 0, none⟩ = some (.int .i64 m)) := by
          obtain ⟨m, hm⟩ := HMX.out
          exact ⟨m, by rw [HT.out.cell (by omega) (by omega), below_at HB01.out hmlt]; exact hm⟩
        have HRC := Lib.hid (readCodeWord_any (str xs[k]) wr HMR.out (by omega))
        rw [HSL.out] at HRC
        have HDR := Lib.hid (drop_consN xs k hkx)
        have HRL : Hid (∀ b, readW xs[k] = some b → b.length ≤ 28) := fun b h => (readW_len h).1
        have HDC : Hid (∀ b, readW xs[k] = some b → dgo true false xs = (acc ++ (if (decide (k = 0) || cd) = true then [] else [32]) ++ b) ++ dgo (decide (k + 1 = 0)) true (xs.drop (k + 1))) := fun b h => by rw [HG.out, HDR.out, dgo_coded _ h, decide_eq_false (show ¬ k + 1 = 0 by omega)]; simp
        have HDB : Hid (readW xs[k] = none → dgo true false xs = (acc ++ (if decide (k = 0) = true then [] else [32]) ++ xs[k]) ++ dgo (decide (k + 1 = 0)) false (xs.drop (k + 1))) := fun h => by rw [HG.out, HDR.out, dgo_bare _ h, decide_eq_false (show ¬ k + 1 = 0 by omega)]; simp
        generalize xs[k] = xk at *
        clear HDR
        cases hq : readW xk with
        | none =>
          rw [hq] at HRC
          have HNX := Lib.hid (HDB.out hq)
          clear hq
          by_cases hk0 : k = 0
          · rw [if_pos (decide_eq_true hk0), List.append_nil] at HNX
            have hki : ¬ ((0 : Int) < (k : Int)) := by omega
            clear hk0
            go_wp2_with fail
            refine HRC.out.mono ?_
            rintro e w4 ⟨rfl, hb4⟩
            have hB4 := HB.out.keep hb4
            have hT4 : Touch w.heap.size w1 w4 := HT.out.ext (hb4.mono htz)
            go_wp2_with fail
            refine (writeStringG_any _ _ _ (str xk) _ hB4 (by rw [str_size]; first | omega | (simp only [List.length_append, List.length_singleton]; omega))).mono ?_
            rintro e w6 ⟨rfl, hB6, hf6⟩
            rw [str_list] at hB6
            have hT6 := hf6 w1 rfl hT4
            clear hf6
            go_wp2
            go_roundw
            case rel => exact ⟨k + 1, false, _, by omega, by go_num, rfl, by simp only [List.length_append]; omega, HNX.out, hB6, hT6⟩
            case measure => simp [intOf]; omega
          · rw [if_neg (by simp [hk0])] at HNX
            have hki : ((0 : Int) < (k : Int)) := by omega
            clear hk0
            go_wp2_with fail
            refine HRC.out.mono ?_
            rintro e w4 ⟨rfl, hb4⟩
            have hB4 := HB.out.keep hb4
            have hT4 : Touch w.heap.size w1 w4 := HT.out.ext (hb4.mono htz)
            go_wp2_with fail
            refine (writeByteG_any _ _ _ 32 _ hB4 (by omega)).mono ?_
            rintro e w5 ⟨rfl, hB5, hf5⟩
            have hT5 := hf5 w1 rfl hT4
            clear hf5
            go_wp2_with fail
            refine (writeStringG_any _ _ _ (str xk) _ hB5 (by rw [str_size]; first | omega | (simp only [List.length_append, List.length_singleton]; omega))).mono ?_
            rintro e w6 ⟨rfl, hB6, hf6⟩
            rw [str_list] at hB6
            have hT6 := hf6 w1 rfl hT5
            clear hf6
            go_wp2
            go_roundw
            case rel => exact ⟨k + 1, false, _, by omega, by go_num, rfl, by simp only [List.length_append, List.length_singleton]; omega, HNX.out, hB6, hT6⟩
            case measure => simp [intOf]; omega
        | some b =>
          rw [hq] at HRC
          have HNX := Lib.hid (HDC.out b hq)
          have hbl := HRL.out b hq
          clear hq
          by_cases hk0 : k = 0
          · rw [if_pos (by simp [hk0]), List.append_nil] at HNX
            have hki : ¬ ((0 : Int) < (k : Int)) := by omega
            clear hk0
            go_wp2_with fail
            refine HRC.out.mono ?_
            rintro e w4 ⟨rfl, hb4⟩
            have hB4 := HB.out.keep hb4
            have hT4 : Touch w.heap.size w1 w4 := HT.out.ext (hb4.mono htz)
            go_wp2_with fail
            refine (writeStringG_any _ _ _ (str b) _ hB4 (by rw [str_size]; first | omega | (simp only [List.length_append, List.length_singleton]; omega))).mono ?_
            rintro e w6 ⟨rfl, hB6, hf6⟩
            rw [str_list] at hB6
            have hT6 := hf6 w1 rfl hT4
            clear hf6
            go_wp2
            go_roundw
            case rel => exact ⟨k + 1, true, _, by omega, by go_num, rfl, by simp only [List.length_append]; omega, HNX.out, hB6, hT6⟩
            case measure => simp [intOf]; omega
          · have hki : ((0 : Int) < (k : Int)) := by omega
            cases cd
            · rw [if_neg (by simp [hk0])] at HNX
              clear hk0
              go_wp2_with fail
              refine HRC.out.mono ?_
              rintro e w4 ⟨rfl, hb4⟩
              have hB4 := HB.out.keep hb4
              have hT4 : Touch w.heap.size w1 w4 := HT.out.ext (hb4.mono htz)
              go_wp2_with fail
              refine (writeByteG_any _ _ _ 32 _ hB4 (by omega)).mono ?_
              rintro e w5 ⟨rfl, hB5, hf5⟩
              have hT5 := hf5 w1 rfl hT4
              clear hf5
              go_wp2_with fail
              refine (writeStringG_any _ _ _ (str b) _ hB5 (by rw [str_size]; first | omega | (simp only [List.length_append, List.length_singleton]; omega))).mono ?_
              rintro e w6 ⟨rfl, hB6, hf6⟩
              rw [str_list] at hB6
              have hT6 := hf6 w1 rfl hT5
              clear hf6
              go_wp2
              go_roundw
              case rel => exact ⟨k + 1, true, _, by omega, by go_num, rfl, by simp only [List.length_append, List.length_singleton]; omega, HNX.out, hB6, hT6⟩
              case measure => simp [intOf]; omega
            · rw [if_pos (by simp), List.append_nil] at HNX
              clear hk0
              go_wp2_with fail
              refine HRC.out.mono ?_
              rintro e w4 ⟨rfl, hb4⟩
              have hB4 := HB.out.keep hb4
              have hT4 : Touch w.heap.size w1 w4 := HT.out.ext (hb4.mono htz)
              go_wp2_with fail
              refine (writeStringG_any _ _ _ (str b) _ hB4 (by rw [str_size]; first | omega | (simp only [List.length_append, List.length_singleton]; omega))).mono ?_
              rintro e w6 ⟨rfl, hB6, hf6⟩
              rw [str_list] at hB6
              have hT6 := hf6 w1 rfl hT4
              clear hf6
              go_wp2
              go_roundw
              case rel => exact ⟨k + 1, true, _, by omega, by go_num, rfl, by simp only [List.length_append]; omega, HNX.out, hB6, hT6⟩
              case measure => simp [intOf]; omega
      · have HF : Hid (dgo true false xs = acc) := by show _ = _; rw [HG.out, List.drop_eq_nil_of_le (by rw [HLEN.out]; omega)]; simp [dgo]
        have hBb := HB.out.toBld
        go_wp2_with fail
        refine (bLen_any _ _ _ _ hBb).mono ?_
        rintro e w5 ⟨rfl, rfl⟩
        have hfin : Below w.heap.size w wr := HB01.out.trans (HT.out.below (Nat.le_refl _) hbs1)
        by_cases h120 : 120 < acc.length
        · have HN := Lib.hid (HDN.out acc HF.out h120)
          go_wp2
          go_ret2
          exact decRet_none HN.out rfl hfin
        · have HN := Lib.hid (HDY.out acc HF.out h120)
          go_wp2_with fail
          refine (bString_any _ _ _ _ hBb).mono ?_
          rintro e w6 ⟨rfl, hb6⟩
          go_wp2
          go_ret2
          exact decRet_some HN.out rfl (hfin.trans hb6)
theorem hasQ_at (s : ByteArray) (k : Nat) (h : k + 1 < s.size) : hasQ (s.data.toList.drop k) = ((decide (s[k] = 61) && decide (s[k + 1] = 63)) || hasQ (s.data.toList.drop (k + 1))) := by
  rw [drop_at s k (by omega), drop_at s (k + 1) h, hasQ]
theorem hasQ_end (s : ByteArray) (k : Nat) (h : s.size ≤ k + 1) : hasQ (s.data.toList.drop k) = false := by
  by_cases hk : k < s.size
  · rw [drop_at s k hk, drop_out s (k + 1) (by omega)]; rfl
  · rw [drop_out s k (by omega)]; rfl
theorem trim_ne (l : List UInt8) : decide (trimS l = l) = (!decide (l.head? = some 32) && !decide (l.getLast? = some 32)) := by
  rw [Bool.eq_iff_iff]
  simp only [decide_eq_true_eq, Bool.and_eq_true, Bool.not_eq_true', decide_eq_false_iff_not]
  constructor
  · intro h
    constructor
    · intro h1
      cases l with
      | nil => cases h1
      | cons c l =>
        have h1 : c = 32 := by simpa using h1
        subst h1
        rw [trimS_left] at h
        have := congrArg List.length h
        have h2 := trimS_len l
        rw [List.length_cons] at this; omega
    · intro h1
      have hne : l ≠ [] := fun e => by rw [e] at h1; simp at h1
      have h2 := List.dropLast_concat_getLast hne
      rw [List.getLast?_eq_some_getLast hne] at h1
      injection h1 with h1
      rw [h1] at h2
      by_cases h3 : l.head? = some 32
      · cases l with
        | nil => cases h3
        | cons c l =>
          have h3 : c = 32 := by simpa using h3
          subst h3
          rw [trimS_left] at h
          have := congrArg List.length h
          have h4 := trimS_len l
          rw [List.length_cons] at this; omega
      · by_cases h4 : l.dropLast = []
        · rw [h4] at h2; simp at h2; rw [← h2] at h3; simp at h3
        · have h5 : l.dropLast.head? ≠ some 32 := by
            cases hd : l.dropLast with
            | nil => exact absurd hd h4
            | cons a t => rw [← h2, hd] at h3; simpa using h3
          rw [← h2, trimS_right h5 h4] at h
          have := congrArg List.length h
          have h6 := trimS_len l.dropLast
          rw [List.length_append, List.length_singleton] at this; omega
  · rintro ⟨h1, h2⟩; exact trimS_id h1 h2
theorem needs_spec (l : List UInt8) : needs l = (hasQ l || (!isText l || (!decide (trimS l = l) || decide (120 < l.length)))) := by
  rw [trim_ne]; unfold needs
  cases decide (120 < l.length) <;> cases isText l <;> cases decide (l.head? = some 32) <;> cases decide (l.getLast? = some 32) <;> cases hasQ l <;> rfl
set_option maxRecDepth 100000 in
set_option maxHeartbeats 1000000 in
theorem needsCodeS_any (s : ByteArray) (w : World) (hs : s.size ≤ 1073741000) :
    Calls Tryd.prog 21 #[.string s] w fun e w' => e = .returned (.bool (needs s.data.toList)) ∧ w = w' := by
  have HE := Lib.hid (needs_spec s.data.toList)
  have HT := Lib.hid (fun u => textValidS_any s u (by unfold maxLen; omega))
  have HTR := Lib.hid (fun u => l2Trim_any s u (by omega))
  have HEQ : Hid (∀ b, decide (trimS s.data.toList = s.data.toList) = b → ((str (trimS s.data.toList)).toList == s.toList) = b ∧ ((str (trimS s.data.toList)).toList != s.toList) = !b) := fun b h => by
    have h1 : ((str (trimS s.data.toList)).toList == s.toList) = b := by
      rw [beq_dec, ← h, Bool.eq_iff_iff, decide_eq_true_iff, decide_eq_true_iff]
      exact ⟨fun e => (str_list _).symm.trans (congrArg (fun x : ByteArray => x.data.toList) e), fun e => by rw [e, str_of]⟩
    exact ⟨h1, by rw [bne, h1]⟩
  have HLN : Hid (decide (120 < s.data.toList.length) = decide (120 < s.size)) := rfl
  go_enter Tryd.func21, Tryd.ntmps21
  go_wp2_with fail
  go_loop [3] (fun i => ∃ k : Nat, k ≤ s.size ∧ i = .int .i64 k ∧ hasQ s.data.toList = hasQ (s.data.toList.drop k)) (fun i => s.size - (intOf i).toNat)
  case atStart => exact ⟨0, by omega, rfl, rfl⟩
  case round =>
    obtain ⟨k, hk, rfl, hg⟩ := hrel
    have HG := Lib.hid hg
    clear hg
    by_cases hlt : k + 1 < s.size
    · have hlt0 : k < s.size := by omega
      have HA := Lib.hid (hasQ_at s k hlt)
      have hw1 : IntKind.i64.wrap ((k : Int) + 1) = (k : Int) + 1 := IntWalk.i64_in _ (by omega)
      have hw2 : 0 ≤ (k : Int) + 1 := by omega
      have hw3 : ((k : Int) + 1).toNat = k + 1 := by omega
      have hw4 : (k : Int) + 1 < (s.size : Int) := by omega
      by_cases h61 : s[k] = 61
      · have e61 := beq_t h61 (n := 61) rfl
        by_cases h63 : s[k + 1] = 63
        · have e63 := beq_t h63 (n := 63) rfl
          have HN : Hid (needs s.data.toList = true) := by show _ = _; rw [HE.out, HG.out, HA.out, decide_eq_true h61, decide_eq_true h63]; rfl
          clear h61 h63
          go_wp2
          go_ret
          exact ⟨ret_bool HN.out.symm, rfl⟩
        · have e63 := beq_f h63 (n := 63) rfl
          have HN : Hid (hasQ s.data.toList = hasQ (s.data.toList.drop (k + 1))) := by show _ = _; rw [HG.out, HA.out, decide_eq_false h63, Bool.and_false, Bool.false_or]
          clear h61 h63
          go_wp2
          go_round
          case rel => exact ⟨k + 1, by omega, by go_num, HN.out⟩
          case measure => simp [intOf]; omega
      · have e61 := beq_f h61 (n := 61) rfl
        have HN : Hid (hasQ s.data.toList = hasQ (s.data.toList.drop (k + 1))) := by show _ = _; rw [HG.out, HA.out, decide_eq_false h61, Bool.false_and, Bool.false_or]
        clear h61
        go_wp2
        go_round
        case rel => exact ⟨k + 1, by omega, by go_num, HN.out⟩
        case measure => simp [intOf]; omega
    · have HQ : Hid (hasQ s.data.toList = false) := by show _ = _; rw [HG.out, hasQ_end s k (by omega)]
      have HE2 : Hid (needs s.data.toList = (!isText s.data.toList || (!decide (trimS s.data.toList = s.data.toList) || decide (120 < s.size)))) := by show _ = _; rw [HE.out, HQ.out]; rfl
      generalize ht : isText s.data.toList = t at *
      generalize hq : decide (trimS s.data.toList = s.data.toList) = q at *
      obtain ⟨e1, e2⟩ := HEQ.out q rfl
      clear ht hq HE HEQ HG
      generalize str (trimS s.data.toList) = x at *
      by_cases h120 : 120 < s.size
      all_goals
        have HDD : Hid (decide (120 < s.size) = decide (120 < s.size)) := rfl
        cases t
        · go_wp2_with fail
          refine (HT.out _).mono ?_
          rintro e w1 ⟨rfl, rfl⟩
          go_wp2
          go_ret
          exact ⟨ret_bool (by rw [HE2.out]; simp [h120] <;> omega), rfl⟩
        · cases q
          · go_wp2_with fail
            refine (HT.out _).mono ?_
            rintro e w1 ⟨rfl, rfl⟩
            go_wp2_with fail
            refine (HTR.out _).mono ?_
            rintro e w1 ⟨rfl, rfl⟩
            go_wp2
            go_ret
            exact ⟨ret_bool (by rw [HE2.out]; simp [h120] <;> omega), rfl⟩
          · go_wp2_with fail
            refine (HT.out _).mono ?_
            rintro e w1 ⟨rfl, rfl⟩
            go_wp2_with fail
            refine (HTR.out _).mono ?_
            rintro e w1 ⟨rfl, rfl⟩
            go_wp2
            go_ret
            exact ⟨ret_bool (by rw [HE2.out]; simp [h120] <;> omega), rfl⟩
theorem join_grow (acc : List (List UInt8)) (y : List UInt8) : Lib.join (acc ++ [y]) [32] = (if acc = [] then [] else Lib.join acc [32] ++ [32]) ++ y := join_snoc acc y
set_option maxRecDepth 100000 in
set_option maxHeartbeats 4000000 in
theorem encodeNameS_any (s : ByteArray) (w : World) (hs : s.size ≤ 1073741000) :
    Calls Tryd.prog 8 #[.string s] w (DecRet (encN s.data.toList) w) := by
  by_cases h120 : 120 < s.size
  · have HN := Lib.hid (encN_out (b := s.data.toList) (by rw [size_list]; exact h120))
    go_enter Tryd.func8, Tryd.ntmps8
    go_wp2
    go_ret2
    exact decRet_none HN.out rfl (Below.refl _ _)
  · have HE := Lib.hid (encN_in (b := s.data.toList) (by rw [size_list]; omega))
    have HNC := Lib.hid (needsCodeS_any s w hs)
    have hs120 : s.size ≤ 120 := by omega
    cases hn : needs s.data.toList
    · rw [hn] at HNC HE
      clear hn
      go_enter Tryd.func8, Tryd.ntmps8
      go_wp2_with fail
      refine HNC.out.mono ?_
      rintro e w1 ⟨rfl, rfl⟩
      go_wp2
      go_ret2
      exact decRet_some HE.out (by simp [str_of]) (Below.refl _ _)
    · rw [hn, if_pos rfl] at HE
      rw [hn] at HNC
      clear hn
      go_enter Tryd.func8, Tryd.ntmps8
      go_wp2_with fail
      refine HNC.out.mono ?_
      rintro e w1 ⟨rfl, rfl⟩
      go_wp2_with fail
      go_loopw [4, 5] (fun o i wr => ∃ (k : Nat) (acc : List (List UInt8)), k ≤ s.size ∧ i = .int .i64 k ∧ o = .string (str (Lib.join acc [32])) ∧ (Lib.join acc [32]).length ≤ 41 * k ∧ (acc = [] ↔ k = 0) ∧ wordsOf s.data.toList = acc ++ wordsOf (s.data.toList.drop k) ∧ Below w.heap.size w wr) (fun _ i _ => s.size - (intOf i).toNat)
      case atStart => exact ⟨0, [], by omega, rfl, rfl, by simp [Lib.join_nil], by simp, rfl, Below.refl _ _⟩
      case round =>
        obtain ⟨k, acc, hk, rfl, rfl, hjl, hac, hg, hb⟩ := hrel
        have HG := Lib.hid hg
        have HB := Lib.hid hb
        have HAC := Lib.hid hac
        have hjz := str_size (Lib.join acc [32])
        clear hg hb hac
        by_cases hlt : k < s.size
        · obtain ⟨R, hR⟩ : ∃ R, s.data.toList.drop k = R := ⟨_, rfl⟩
          have hRl : R.length + k = s.size := by rw [← hR, List.length_drop, size_list]; omega
          have hRn : R ≠ [] := fun e => by rw [e] at hRl; simp at hRl; omega
          have HXE : Hid (∀ m, k + m ≤ s.size → (s.extract k (k + m)).data.toList = R.take m) := fun m hm => by rw [Lib.extract_data, hR, Nat.add_sub_cancel_left]
          have HLC : Hid (∀ m u, k + m ≤ s.size → Calls Tryd.prog 22 #[.string (s.extract k (k + m))] u fun e w' => e = .returned (.string (str (codL (R.take m)))) ∧ Below u.heap.size u w') := fun m u hm => by
            have := l6Code_any (s.extract k (k + m)) u (by rw [ByteArray.size_extract]; omega)
            rw [HXE.out m hm] at this; exact this
          have HCZ : Hid (∀ m, (str (codL (R.take m))).size = (codL (R.take m)).length ∧ (codL (R.take m)).length ≤ 360) := fun m => ⟨str_size _, by
            have := (codL_len (R.take m)).2
            rw [List.length_take] at this; omega⟩
          have HRC := Lib.hid (fun m (h1 : m ≤ R.length) (h2 : (codL (R.take m)).length ≤ 28) h3 => room_char R 28 m h1 h2 h3)
          have HST : Hid (∀ m, room 28 R = m → wordsOf s.data.toList = (acc ++ [wordL (R.take m)]) ++ wordsOf (s.data.toList.drop (k + m)) ∧ codeW (R.take m) = some (wordL (R.take m))) := fun m h => by
            subst h
            refine ⟨?_, word_code hRn⟩
            rw [HG.out, hR, wordsOf_step hRn, ← hR, List.drop_drop]; simp
          have HC1 : Hid ((codL (R.take 1)).length ≤ 28) := by
            show _ ≤ _
            have := (codL_len (R.take 1)).2
            rw [List.length_take] at this; omega
          clear hR hRn
          rename World => wo
          go_wp2_with fail
          go_loopw [6] (fun e wx => ∃ m : Nat, 1 ≤ m ∧ k + m ≤ s.size ∧ e = .int .i64 ((k + m : Nat) : Int) ∧ (codL (R.take m)).length ≤ 28 ∧ Below wo.heap.size wo wx) (fun e _ => s.size - (intOf e).toNat)
          case atStart => exact ⟨1, by omega, by omega, by go_num, HC1.out, Below.refl _ _⟩
          case round =>
            obtain ⟨m, hm1, hmk, rfl, hmc, hbx⟩ := hrel
            by_cases hA : k + m < s.size
            · have HL1 := Lib.hid (fun u => HLC.out (m + 1) u (by omega))
              obtain ⟨hcz, hcz2⟩ := HCZ.out (m + 1)
              by_cases hC : (codL (R.take (m + 1))).length ≤ 28
              · obtain ⟨cc, hcc⟩ : ∃ cc, codL (R.take (m + 1)) = cc := ⟨_, rfl⟩
                have HQ := Lib.hid hcc
                rw [hcc] at HL1 hcz hcz2 hC
                have HCC := Lib.hid hC
                clear hcc
                go_wp2_with fail
                refine (HL1.out _).mono ?_
                rintro e wy ⟨rfl, hby⟩
                go_wp2
                go_roundw
                case rel => exact ⟨m + 1, by omega, by omega, by go_num, by rw [HQ.out]; exact HCC.out, nx hbx hby⟩
                case measure => simp [intOf]; omega
              · have HM := Lib.hid (HRC.out m (by omega) hmc (.inr (by omega)))
                obtain ⟨hst, hcw⟩ := HST.out m HM.out
                have HSTM := Lib.hid hst
                have HCW : Hid (∀ u, Calls Tryd.prog 23 #[.string (s.extract k (k + m))] u (DecRet (some (wordL (R.take m))) u)) := fun u => by
                  have := codeWordS_any (s.extract k (k + m)) u (by rw [ByteArray.size_extract]; omega)
                  rw [HXE.out m (by omega), hcw] at this; exact this
                have hwl : (wordL (R.take m)).length ≤ 40 := by rw [wordL_len]; omega
                have hwz := str_size (wordL (R.take m))
                clear hst hcw
                generalize wordL (R.take m) = wl at *
                generalize hjj : Lib.join acc [32] = jo at *
                have HJJ := Lib.hid hjj
                have hs32 : (str jo ++ ByteArray.mk #[32]).size = (str jo).size + 1 := ByteArray.size_append
                have HS32 : Hid (str jo ++ ByteArray.mk #[32] = str (jo ++ [32])) := by show str jo ++ str [32] = _; rw [str_app]
                clear hjj
                by_cases hk0 : k = 0
                · have HJN : Hid (Lib.join (acc ++ [wl]) [32] = jo ++ wl) := by
                    show _ = _
                    have h1 := HAC.out.2 hk0
                    rw [h1] at HJJ ⊢
                    rw [join_grow, if_pos rfl, ← HJJ.out]; rfl
                  have hki : ¬ ((0 : Int) < (k : Int)) := by omega
                  clear hk0
                  go_wp2_with fail
                  refine (HL1.out _).mono ?_
                  rintro e wy ⟨rfl, hby⟩
                  have hbz := nx hbx hby
                  go_wp2_with fail
                  refine (HCW.out _).mono ?_
                  rintro e w5 ⟨rfl, hb5⟩
                  go_wp2
                  go_roundw
                  case rel => exact ⟨k + m, acc ++ [wl], by omega, by go_num, by rw [HJN.out, ← str_app], by rw [HJN.out, List.length_append]; omega, by simp; omega, HSTM.out, nx HB.out (nx hbz hb5)⟩
                  case measure => simp [intOf]; omega
                · have HJN : Hid (Lib.join (acc ++ [wl]) [32] = (jo ++ [32]) ++ wl) := by
                    show _ = _
                    rw [join_grow, if_neg (fun h => hk0 (HAC.out.1 h)), HJJ.out]
                  have hki : ((0 : Int) < (k : Int)) := by omega
                  clear hk0
                  go_wp2_with fail
                  refine (HL1.out _).mono ?_
                  rintro e wy ⟨rfl, hby⟩
                  have hbz := nx hbx hby
                  go_wp2_with fail
                  refine (HCW.out _).mono ?_
                  rintro e w5 ⟨rfl, hb5⟩
                  go_wp2
                  go_roundw
                  case rel => exact ⟨k + m, acc ++ [wl], by omega, by go_num, by rw [HJN.out, ← str_app, ← HS32.out], by rw [HJN.out, List.length_append, List.length_append, List.length_singleton]; omega, by simp; omega, HSTM.out, nx HB.out (nx hbz hb5)⟩
                  case measure => simp [intOf]; omega
            · have HM := Lib.hid (HRC.out m (by omega) hmc (.inl (by omega)))
              obtain ⟨hst, hcw⟩ := HST.out m HM.out
              have HSTM := Lib.hid hst
              have HCW : Hid (∀ u, Calls Tryd.prog 23 #[.string (s.extract k (k + m))] u (DecRet (some (wordL (R.take m))) u)) := fun u => by
                have := codeWordS_any (s.extract k (k + m)) u (by rw [ByteArray.size_extract]; omega)
                rw [HXE.out m (by omega), hcw] at this; exact this
              have hwl : (wordL (R.take m)).length ≤ 40 := by rw [wordL_len]; omega
              have hwz := str_size (wordL (R.take m))
              clear hst hcw
              generalize wordL (R.take m) = wl at *
              generalize hjj : Lib.join acc [32] = jo at *
              have HJJ := Lib.hid hjj
              have hs32 : (str jo ++ ByteArray.mk #[32]).size = (str jo).size + 1 := ByteArray.size_append
              have HS32 : Hid (str jo ++ ByteArray.mk #[32] = str (jo ++ [32])) := by show str jo ++ str [32] = _; rw [str_app]
              clear hjj
              by_cases hk0 : k = 0
              · have HJN : Hid (Lib.join (acc ++ [wl]) [32] = jo ++ wl) := by
                  show _ = _
                  have h1 := HAC.out.2 hk0
                  rw [h1] at HJJ ⊢
                  rw [join_grow, if_pos rfl, ← HJJ.out]; rfl
                have hki : ¬ ((0 : Int) < (k : Int)) := by omega
                clear hk0
                go_wp2_with fail
                refine (HCW.out _).mono ?_
                rintro e w5 ⟨rfl, hb5⟩
                go_wp2
                go_roundw
                case rel => exact ⟨k + m, acc ++ [wl], by omega, by go_num, by rw [HJN.out, ← str_app], by rw [HJN.out, List.length_append]; omega, by simp; omega, HSTM.out, nx HB.out (nx hbx hb5)⟩
                case measure => simp [intOf]; omega
              · have HJN : Hid (Lib.join (acc ++ [wl]) [32] = (jo ++ [32]) ++ wl) := by
                  show _ = _
                  rw [join_grow, if_neg (fun h => hk0 (HAC.out.1 h)), HJJ.out]
                have hki : ((0 : Int) < (k : Int)) := by omega
                clear hk0
                go_wp2_with fail
                refine (HCW.out _).mono ?_
                rintro e w5 ⟨rfl, hb5⟩
                go_wp2
                go_roundw
                case rel => exact ⟨k + m, acc ++ [wl], by omega, by go_num, by rw [HJN.out, ← str_app, ← HS32.out], by rw [HJN.out, List.length_append, List.length_append, List.length_singleton]; omega, by simp; omega, HSTM.out, nx HB.out (nx hbx hb5)⟩
                case measure => simp [intOf]; omega
        · have HF : Hid (wordsOf s.data.toList = acc) := by show _ = _; rw [HG.out, drop_out s k (by omega), wordsOf_nil, List.append_nil]
          go_wp2
          go_ret2
          exact decRet_some HE.out (by rw [HF.out]) HB.out
end Go.Proofs.YtboopbjdehdhgabDoor
