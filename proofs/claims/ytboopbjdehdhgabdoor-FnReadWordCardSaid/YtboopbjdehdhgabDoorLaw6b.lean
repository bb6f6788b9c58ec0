/-
  The laws of chapter 6 that read coded words: each law's walk. For every input of the law: it returns true, and the input reads as it did. Conditions: none but the statement's own.
-/
import Derived.Test.YtboopbjdehdhgabDoorLaw0n
import Derived.Test.YtboopbjdehdhgabDoorNamR
import Derived.Test.YtboopbjdehdhgabDoorNamX
import Derived.Test.YtboopbjdehdhgabDoorNamN
import Derived.Test.YtboopbjdehdhgabDoorNamS
namespace Go.Proofs.YtboopbjdehdhgabDoor
open Go.ChangeShapes Go.WideShapes Go.ChangeAt Go.RowKit
open Go.ChangeMaps (open_string shut_string)

theorem enc_plain {l t : List UInt8} (h : encN l = some t) (hn : needs l = false) : t = l := by
  unfold encN at h
  split at h
  · injection h with h
    have h : l = t := by simpa [hn] using h
    exact h.symm
  · cases h
theorem dec_bare {s b : List UInt8} (h : decN s = some b) (hq : (63 : UInt8) ∉ s) : b = s := by
  rw [(decN_some h).2.2]; exact decN_plain (noQ_parts (hasQ_63 hq))
set_option maxRecDepth 100000 in
set_option maxHeartbeats 4000000 in
theorem fnDecodePlain_walk (a : Option Addr) (n c : Nat) (w : World) (hmx : ∃ m, w.cell? ⟨0, 0, none⟩ = some (.int .i64 m)) (hc : Code w a n) (hnc : n ≤ c) (hm : c ≤ maxLen) :
    Calls Tryd.prog 4 #[.slice a n c] w fun e w' => e = .returned (.bool true) ∧ Below w.heap.size w w' := by
  have hm' := hm
  unfold maxLen at hm'
  by_cases hn : 1048576 < n
  · have hd : decide ((1048576 : Int) < n) = true := by simp; omega
    go_enter Tryd.func4, Tryd.ntmps4
    go_wp2
    go_ret
    exact ⟨rfl, Below.refl _ _⟩
  have hd : decide ((1048576 : Int) < n) = false := by simp; omega
  go_enter Tryd.func4, Tryd.ntmps4
  go_wp2_with fail
  refine (drawDecodeName_any a n c w hc hnc hm).mono ?_
  rintro e w1 ⟨s, rfl, hs, hb1⟩
  have HI : Hid (∀ u, Below w.heap.size w u → Calls Tryd.prog 12 #[.string s] u (DecRet (decN s.data.toList) u)) := fun u hu => decodeName_any s u (mx_belowN hmx hu) (by omega)
  have HS := Lib.hid (fun u => decodeNameS_any s u (by omega))
  cases ho : decN s.data.toList with
  | none =>
    rw [ho] at HI HS
    have hem : (str ([] : List UInt8)).toList.isEmpty = true := by rw [emp_of]; rfl
    clear ho
    go_wp2_with fail
    refine (HI.out _ hb1).mono ?_
    rintro e w2 ⟨rfl, hb2⟩
    go_wp2_with fail
    refine (HS.out _).mono ?_
    rintro e w3 ⟨rfl, hb3⟩
    go_wp2
    go_ret
    exact ⟨rfl, nx (nx hb1 hb2) hb3⟩
  | some b =>
    have HI : Hid (∀ u, Below w.heap.size w u → Calls Tryd.prog 12 #[.string s] u fun e w' => e = .returned (.tuple #[.string (str b), .bool true]) ∧ Below u.heap.size u w') := fun u hu => by have := HI.out u hu; rw [ho] at this; exact this
    have HS : Hid (∀ u, Calls Tryd.prog 13 #[.string s] u fun e w' => e = .returned (.tuple #[.string (str b), .bool true]) ∧ Below u.heap.size u w') := fun u => by have := HS.out u; rw [ho] at this; exact this
    have hee : ((str b).toList == (str b).toList) = true := by simp
    have h120 := (decN_some ho).2.1
    have hbz := str_size b
    have HBARE : Hid ((∀ k, (h : k < s.size) → s[k] ≠ 63) → str b = s) := fun h => by
      rw [dec_bare ho (fun hm => by
        obtain ⟨k, hk, e⟩ := List.getElem_of_mem hm
        rw [size_list] at hk
        exact h k hk (by rw [getElem_list] at e; exact e)), str_of]
    have h1 : ((str b).size : Int) ≤ 120 := by omega
    clear ho hbz h120
    generalize str b = p at *
    go_wp2_with fail
    refine (HI.out _ hb1).mono ?_
    rintro e w2 ⟨rfl, hb2⟩
    go_wp2_with fail
    refine (HS.out _).mono ?_
    rintro e w3 ⟨rfl, hb3⟩
    have HB3 := Lib.hid (nx (nx hb1 hb2) hb3)
    go_wp2_with fail
    go_loop [8] (fun i => ∃ k : Nat, k ≤ s.size ∧ i = .int .i64 k ∧ ∀ j, (h : j < s.size) → j < k → s[j] ≠ 63) (fun i => s.size - (intOf i).toNat)
    case atStart => exact ⟨0, by omega, rfl, fun j _ h => by omega⟩
    case round =>
      obtain ⟨k, hk, rfl, hall⟩ := hrel
      have HA := Lib.hid hall
      clear hall
      by_cases hlt : k < s.size
      · by_cases h63 : s[k] = 63
        · have e63 := beq_t h63 (n := 63) rfl
          clear h63
          go_wp2
          go_ret
          exact ⟨rfl, HB3.out⟩
        · have e63 := beq_f h63 (n := 63) rfl
          have HK := Lib.hid h63
          clear h63
          go_wp2
          go_round
          case rel => exact ⟨k + 1, by omega, by go_num, fun j hj hjk => by
            by_cases e : j = k
            · subst e; exact HK.out
            · exact HA.out j hj (by omega)⟩
          case measure => simp [intOf]; omega
      · have HPS := Lib.hid (HBARE.out (fun j hj => HA.out j hj (by omega)))
        have e1 : (p.toList == s.toList) = true := by rw [HPS.out]; simp
        go_wp2
        go_ret
        exact ⟨rfl, HB3.out⟩
theorem read_name {s b : List UInt8} (h : readW s = some b) : decN s = some b := by
  have hc := readW_sound h
  obtain ⟨h1, h2, h3, h4⟩ := readW_len h
  have hs : splitC 32 s = [s] := splitC_one 32 s (fun x hx => by obtain ⟨rfl, _⟩ := codeW_some hc; exact (wordL_byte hx).2)
  have hd : dgo true false (splitC 32 s) = b := by rw [hs]; simp [dgo, h]
  rw [decN_in (by omega) (by rw [hd]; omega), hd]
set_option maxRecDepth 100000 in
set_option maxHeartbeats 4000000 in
theorem fnReadWord_walk (a : Option Addr) (n c : Nat) (w : World) (hmx : ∃ m, w.cell? ⟨0, 0, none⟩ = some (.int .i64 m)) (hc : Code w a n) (hnc : n ≤ c) (hm : c ≤ maxLen) :
    Calls Tryd.prog 5 #[.slice a n c] w fun e w' => e = .returned (.bool true) ∧ Below w.heap.size w w' := by
  have hm' := hm
  unfold maxLen at hm'
  by_cases hn : 1048576 < n
  · have hd : decide ((1048576 : Int) < n) = true := by simp; omega
    go_enter Tryd.func5, Tryd.ntmps5
    go_wp2
    go_ret
    exact ⟨rfl, Below.refl _ _⟩
  have hd : decide ((1048576 : Int) < n) = false := by simp; omega
  go_enter Tryd.func5, Tryd.ntmps5
  go_wp2_with fail
  refine (drawReadCodeWord_any a n c w hc hnc hm).mono ?_
  rintro e w1 ⟨s, rfl, hs, hb1⟩
  have HI : Hid (∀ u, Below w.heap.size w u → Calls Tryd.prog 10 #[.string s] u (DecRet (readW s.data.toList) u)) := fun u hu => readCodeWord_any s u (mx_belowN hmx hu) (by omega)
  have HS := Lib.hid (fun u => readCodeWordS_any s u (by omega))
  cases ho : readW s.data.toList with
  | none =>
    rw [ho] at HI HS
    have hem : (str ([] : List UInt8)).toList.isEmpty = true := by rw [emp_of]; rfl
    clear ho
    go_wp2_with fail
    refine (HI.out _ hb1).mono ?_
    rintro e w2 ⟨rfl, hb2⟩
    go_wp2_with fail
    refine (HS.out _).mono ?_
    rintro e w3 ⟨rfl, hb3⟩
    go_wp2
    go_ret
    exact ⟨rfl, nx (nx hb1 hb2) hb3⟩
  | some b =>
    have HI : Hid (∀ u, Below w.heap.size w u → Calls Tryd.prog 10 #[.string s] u fun e w' => e = .returned (.tuple #[.string (str b), .bool true]) ∧ Below u.heap.size u w') := fun u hu => by have := HI.out u hu; rw [ho] at this; exact this
    have HS : Hid (∀ u, Calls Tryd.prog 15 #[.string s] u fun e w' => e = .returned (.tuple #[.string (str b), .bool true]) ∧ Below u.heap.size u w') := fun u => by have := HS.out u; rw [ho] at this; exact this
    have hee : ((str b).toList == (str b).toList) = true := by simp
    obtain ⟨h28, h1, h13, h40⟩ := readW_len ho
    rw [size_list] at h13 h40
    have hbz := str_size b
    have hde := read_name ho
    have HW : Hid (∀ k, (h : k < s.size) → 32 < s[k].toNat ∧ s[k].toNat ≤ 126) := fun k hk => by
      have hm : s[k] ∈ s.data.toList := by simp [ByteArray.getElem_eq_getElem_data]
      obtain ⟨hw, _⟩ := codeW_some (readW_sound ho)
      rw [hw] at hm
      obtain ⟨g1, g2⟩ := wordL_byte hm
      have g3 := okB_in g1
      refine ⟨?_, g3.2⟩
      rcases Nat.lt_or_ge 32 s[k].toNat with h | h
      · exact h
      · exact absurd (UInt8.toNat_inj.1 (show s[k].toNat = (32 : UInt8).toNat by show _ = 32; omega)) g2
    have HD : Hid (∀ u, Below w.heap.size w u → Calls Tryd.prog 12 #[.string s] u fun e w' => e = .returned (.tuple #[.string (str b), .bool true]) ∧ Below u.heap.size u w') := fun u hu => by
      have := decodeName_any s u (mx_belowN hmx hu) (by omega)
      rw [hde] at this; exact this
    have hp1 : (1 : Int) ≤ ((str b).size : Int) := by omega
    clear ho hbz hde h28 h1
    generalize str b = p at *
    go_wp2_with fail
    refine (HI.out _ hb1).mono ?_
    rintro e w2 ⟨rfl, hb2⟩
    go_wp2_with fail
    refine (HS.out _).mono ?_
    rintro e w3 ⟨rfl, hb3⟩
    have HB3 := Lib.hid (nx (nx hb1 hb2) hb3)
    go_wp2_with fail
    go_loop [8] (fun i => ∃ k : Nat, k ≤ s.size ∧ i = .int .i64 k) (fun i => s.size - (intOf i).toNat)
    case atStart => exact ⟨0, by omega, rfl⟩
    case round =>
      obtain ⟨k, hk, rfl⟩ := hrel
      by_cases hlt : k < s.size
      · obtain ⟨g1, g2⟩ := HW.out k hlt
        have g1' : ¬ ((s[k].toNat : Int) ≤ 32) := by omega
        have g2' : ¬ ((126 : Int) < (s[k].toNat : Int)) := by omega
        go_wp2
        go_round
        case rel => exact ⟨k + 1, by omega, by go_num⟩
        case measure => simp [intOf]; omega
      · go_wp2_with fail
        refine (HD.out _ HB3.out).mono ?_
        rintro e w4 ⟨rfl, hb4⟩
        go_wp2
        go_ret
        exact ⟨rfl, nx HB3.out hb4⟩
theorem coded_parts {l t : List UInt8} (h : encN l = some t) (hn : needs l = true) : splitC 32 t = wordsOf l := by
  unfold encN at h
  split at h
  · injection h with h
    have h : Lib.join (wordsOf l) [32] = t := by simpa [hn] using h
    have hne : l ≠ [] := by intro e; subst e; rw [needs_nil] at hn; cases hn
    rw [← h, split_words hne]
  · cases h
theorem words_read (l : List UInt8) : ∃ ps : List (List UInt8), wordsOf l = ps.map wordL ∧ ps.flatten = l ∧ ∀ p ∈ ps, codeW p = some (wordL p) := by
  refine wordsOf_rec (P := fun l => ∃ ps : List (List UInt8), wordsOf l = ps.map wordL ∧ ps.flatten = l ∧ ∀ p ∈ ps, codeW p = some (wordL p)) ?_ ?_ l.length l (Nat.le_refl _)
  · exact ⟨[], rfl, rfl, fun p hp => by cases hp⟩
  · intro l hl ih
    obtain ⟨ps, h1, h2, h3⟩ := ih
    refine ⟨l.take (room 28 l) :: ps, by rw [wordsOf_step hl, h1]; rfl, by rw [List.flatten_cons, h2, List.take_append_drop], fun p hp => ?_⟩
    rcases List.mem_cons.1 hp with rfl | hp
    · exact word_code hl
    · exact h3 p hp
/-- The parts of a text: those that are read, the one that is begun, and the rest. -/
def partsAtN (s : ByteArray) (st i : Nat) (acc : List (List UInt8)) : Prop := splitC 32 s.data.toList = acc ++ glue ((s.data.toList.drop st).take (i - st)) (splitC 32 (s.data.toList.drop i))
theorem partsN_more {s : ByteArray} {st i : Nat} {acc : List (List UInt8)} (h : partsAtN s st i acc) (hst : st ≤ i) (hi : i < s.size) (hne : s[i] ≠ 32) : partsAtN s st (i + 1) acc := by
  unfold partsAtN at *
  rw [h, drop_at s i hi, splitC_skip _ hne]
  have ht : (s.data.toList.drop st).take (i + 1 - st) = (s.data.toList.drop st).take (i - st) ++ [s[i]] := by
    have hl : i - st < (s.data.toList.drop st).length := by rw [List.length_drop, size_list]; omega
    rw [show i + 1 - st = (i - st) + 1 by omega, List.take_add_one, List.getElem?_eq_getElem hl]
    congr 1
    rw [List.getElem_drop]
    simp only [show st + (i - st) = i by omega]; rfl
  rw [ht]
  cases hs : splitC 32 (s.data.toList.drop (i + 1)) with
  | nil => exact absurd hs (splitC_ne _ _)
  | cons p ps => simp [glue]
theorem partsN_end {s : ByteArray} {st i : Nat} {acc : List (List UInt8)} (h : partsAtN s st i acc) (_hst : st ≤ i) (hi : i < s.size) (he : s[i] = 32) : partsAtN s (i + 1) (i + 1) (acc ++ [(s.data.toList.drop st).take (i - st)]) := by
  unfold partsAtN at *
  rw [h, drop_at s i hi, he, splitC_hit, Nat.sub_self, List.take_zero]
  cases hs : splitC 32 (s.data.toList.drop (i + 1)) with
  | nil => exact absurd hs (splitC_ne _ _)
  | cons p ps => simp [glue]
theorem partsN_last {s : ByteArray} {st i : Nat} {acc : List (List UInt8)} (h : partsAtN s st i acc) (hi : s.size ≤ i) : splitC 32 s.data.toList = acc ++ [(s.data.toList.drop st).take (i - st)] := by
  unfold partsAtN at h
  rw [h, drop_out s i hi]; simp [splitC, glue]
theorem map_nextN {ps : List (List UInt8)} {k : Nat} {x : List UInt8} {R : List (List UInt8)} (h : ps.map wordL = (ps.take k).map wordL ++ (x :: R)) : ∃ hk : k < ps.length, x = wordL ps[k] ∧ R = (ps.drop (k + 1)).map wordL := by
  have h2 : (ps.take k).map wordL ++ (ps.drop k).map wordL = (ps.take k).map wordL ++ (x :: R) := by rw [← List.map_append, List.take_append_drop]; exact h
  have h3 := List.append_cancel_left h2
  have hk : k < ps.length := by
    rcases Nat.lt_or_ge k ps.length with hk | hk
    · exact hk
    · rw [List.drop_eq_nil_of_le hk] at h3; cases h3
  rw [List.drop_eq_getElem_cons hk, List.map_cons] at h3
  injection h3 with h4 h5
  exact ⟨hk, h4.symm, h5.symm⟩
theorem take_nextN {ps : List (List UInt8)} {k : Nat} (hk : k < ps.length) : ps.take (k + 1) = ps.take k ++ [ps[k]] := List.take_succ_eq_append_getElem hk
theorem partsN_word {q : ByteArray} {st i k : Nat} {ps : List (List UInt8)} (hsp : splitC 32 q.data.toList = ps.map wordL) (h : partsAtN q st i ((ps.take k).map wordL)) (hst : st ≤ i) (hi : i < q.size) (he : q[i] = 32) :
    ∃ hk : k < ps.length, (q.extract st i).data.toList = wordL ps[k] ∧ partsAtN q (i + 1) (i + 1) ((ps.take (k + 1)).map wordL) := by
  have h2 := partsN_end h hst hi he
  have h3 := h2
  unfold partsAtN at h3
  rw [hsp, List.append_assoc, List.singleton_append] at h3
  obtain ⟨hk, hx, _⟩ := map_nextN h3
  refine ⟨hk, by rw [Lib.extract_data]; exact hx, ?_⟩
  rw [take_nextN hk, List.map_append, List.map_cons, List.map_nil, ← hx]; exact h2
theorem partsN_lastw {q : ByteArray} {st i k : Nat} {ps : List (List UInt8)} (hsp : splitC 32 q.data.toList = ps.map wordL) (h : partsAtN q st i ((ps.take k).map wordL)) (hi : q.size ≤ i) :
    ∃ hk : k < ps.length, (q.extract st i).data.toList = wordL ps[k] ∧ k + 1 = ps.length := by
  have h3 := partsN_last h hi
  rw [hsp] at h3
  obtain ⟨hk, hx, hr⟩ := map_nextN h3
  refine ⟨hk, by rw [Lib.extract_data]; exact hx, ?_⟩
  have := congrArg List.length hr
  rw [List.length_nil, List.length_map, List.length_drop] at this; omega
set_option maxRecDepth 100000 in
set_option maxHeartbeats 8000000 in
theorem fnNameWords_walk (a : Option Addr) (n c : Nat) (w : World) (hmx : ∃ m, w.cell? ⟨0, 0, none⟩ = some (.int .i64 m)) (hc : Code w a n) (hnc : n ≤ c) (hm : c ≤ maxLen) :
    Calls Tryd.prog 3 #[.slice a n c] w fun e w' => e = .returned (.bool true) ∧ Below w.heap.size w w' := by
  have hm' := hm
  unfold maxLen at hm'
  by_cases hn : 1048576 < n
  · have hd : decide ((1048576 : Int) < n) = true := by simp; omega
    go_enter Tryd.func3, Tryd.ntmps3
    go_wp2
    go_ret
    exact ⟨rfl, Below.refl _ _⟩
  have hd : decide ((1048576 : Int) < n) = false := by simp; omega
  go_enter Tryd.func3, Tryd.ntmps3
  go_wp2_with fail
  refine (drawEncodeName_any a n c w hc hnc hm).mono ?_
  rintro e w1 ⟨s, rfl, hs, hb1⟩
  have HI : Hid (∀ u, Below w.heap.size w u → Calls Tryd.prog 7 #[.string s] u (DecRet (encN s.data.toList) u)) := fun u hu => encodeName_any s u (mx_belowN hmx hu) (by omega)
  have HS := Lib.hid (fun u => encodeNameS_any s u (by omega))
  have HNB : Hid (∀ u, Below w.heap.size w u → Calls Tryd.prog 9 #[.string s] u fun e w' => e = .returned (.bool (needs s.data.toList)) ∧ u = w') := fun u hu => needsCode_any s u (mx_belowN hmx hu) (by omega)
  cases ho : encN s.data.toList with
  | none =>
    rw [ho] at HI HS
    clear ho
    go_wp2_with fail
    refine (HI.out _ hb1).mono ?_
    rintro e w2 ⟨rfl, hb2⟩
    go_wp2_with fail
    refine (HS.out _).mono ?_
    rintro e w3 ⟨rfl, hb3⟩
    go_wp2
    go_ret
    exact ⟨rfl, nx (nx hb1 hb2) hb3⟩
  | some t =>
    have htz := str_size t
    have ht560 := encN_size ho
    have HI : Hid (∀ u, Below w.heap.size w u → Calls Tryd.prog 7 #[.string s] u fun e w' => e = .returned (.tuple #[.string (str t), .bool true]) ∧ Below u.heap.size u w') := fun u hu => by have := HI.out u hu; rw [ho] at this; exact this
    have HS : Hid (∀ u, Calls Tryd.prog 8 #[.string s] u fun e w' => e = .returned (.tuple #[.string (str t), .bool true]) ∧ Below u.heap.size u w') := fun u => by have := HS.out u; rw [ho] at this; exact this
    have hee : ((str t).toList == (str t).toList) = true := by simp
    have hq560 : (str t).size ≤ 560 := by omega
    cases hnd : needs s.data.toList
    · rw [hnd] at HNB
      clear ho hnd htz ht560
      generalize str t = q at *
      go_wp2_with fail
      refine (HI.out _ hb1).mono ?_
      rintro e w2 ⟨rfl, hb2⟩
      go_wp2_with fail
      refine (HS.out _).mono ?_
      rintro e w3 ⟨rfl, hb3⟩
      have HB3 := Lib.hid (nx (nx hb1 hb2) hb3)
      go_wp2_with fail
      refine (HNB.out _ HB3.out).mono ?_
      rintro e w4 ⟨rfl, rfl⟩
      go_wp2
      go_ret
      exact ⟨rfl, HB3.out⟩
    · rw [hnd] at HNB
      have hsp := coded_parts ho hnd
      obtain ⟨ps, hps, hfl, hcw⟩ := words_read s.data.toList
      rw [hps, ← str_list t] at hsp
      have HFL := Lib.hid hfl
      have HCW := Lib.hid hcw
      have hpl : ps.length ≤ 120 := by
        have h1 := (wordsOf_sum s.data.toList).2
        have h2 := (codL_len s.data.toList).2
        have h3 := (dec_enc ho).2
        rw [hps, List.length_map] at h1; omega
      clear ho hnd htz ht560 hps hfl hcw
      generalize str t = q at *
      have HSP := Lib.hid hsp
      clear hsp
      go_wp2_with fail
      refine (HI.out _ hb1).mono ?_
      rintro e w2 ⟨rfl, hb2⟩
      go_wp2_with fail
      refine (HS.out _).mono ?_
      rintro e w3 ⟨rfl, hb3⟩
      have HB3 := Lib.hid (nx (nx hb1 hb2) hb3)
      go_wp2_with fail
      refine (HNB.out _ HB3.out).mono ?_
      rintro e w4 ⟨rfl, rfl⟩
      go_wp2_with fail
      go_loopw [8, 9, 10] (fun al sv iv wr => ∃ (st i k : Nat) (all : List UInt8), k ≤ ps.length ∧ st ≤ i ∧ i ≤ q.size + 1 ∧ st ≤ q.size + 1 ∧ al = .string (str all) ∧ sv = .int .i64 st ∧ iv = .int .i64 i ∧ all.length ≤ 28 * k ∧ all = (ps.take k).flatten ∧ ((i ≤ q.size ∧ partsAtN q st i ((ps.take k).map wordL)) ∨ (i = q.size + 1 ∧ k = ps.length)) ∧ Below w.heap.size w wr) (fun _ _ iv _ => q.size + 2 - (intOf iv).toNat)
      case atStart => exact ⟨0, 0, 0, [], by omega, by omega, by omega, by omega, rfl, rfl, rfl, by simp, by simp, .inl ⟨by omega, by unfold partsAtN; simp [glue_nil]⟩, HB3.out⟩
      case round =>
        obtain ⟨st, i, k, all, hkl, hst, hi, hst2, rfl, rfl, rfl, hal, haf, hcase, hb⟩ := hrel
        have HAL := Lib.hid haf
        have HBR := Lib.hid hb
        clear haf hb
        by_cases hlast : i = q.size + 1
        · have hke : k = ps.length := by rcases hcase with ⟨h, _⟩ | ⟨_, h⟩ <;> omega
          have HE : Hid (str all = s) := by show _ = _; rw [HAL.out, hke, List.take_length, HFL.out, str_of]
          have e1 : ((str all).toList == s.toList) = true := by rw [HE.out]; simp
          clear hcase hke hkl hal
          subst hlast
          go_wp2
          go_ret
          exact ⟨rfl, HBR.out⟩
        · obtain ⟨hi', hpa⟩ := hcase.resolve_right (fun h => hlast h.1)
          have HPA := Lib.hid hpa
          clear hcase hpa hlast
          by_cases hlt : i < q.size
          · by_cases h32 : q[i] = 32
            · have e32 := bneq_f h32 (n := 32) rfl
              obtain ⟨hkp, hx, hpn⟩ := partsN_word HSP.out HPA.out hst hlt h32
              have HPN := Lib.hid hpn
              clear hpn h32
              have HRD : Hid (∀ u, Below w.heap.size w u → Calls Tryd.prog 10 #[.string (q.extract st i)] u fun e w' => e = .returned (.tuple #[.string (str ps[k]), .bool true]) ∧ Below u.heap.size u w') := fun u hu => by
                have := readCodeWord_any (q.extract st i) u (mx_belowN hmx hu) (by rw [ByteArray.size_extract]; omega)
                rw [hx, readW_code (HCW.out _ (List.getElem_mem hkp))] at this; exact this
              have hpz := str_size ps[k]
              have hp28 : ps[k].length ≤ 28 := (readW_len (readW_code (HCW.out _ (List.getElem_mem hkp)))).1
              have HAF : Hid (all ++ ps[k] = (ps.take (k + 1)).flatten) := by show _ = _; rw [take_nextN hkp, List.flatten_append, ← HAL.out]; simp
              have haz := str_size all
              have HAP : Hid (str all ++ str ps[k] = str (all ++ ps[k])) := str_app _ _
              have hap : (str all ++ str ps[k]).size = (str all).size + (str ps[k]).size := ByteArray.size_append
              generalize ps[k] = pk at *
              clear hx
              go_wp2_with fail
              refine (HRD.out _ HBR.out).mono ?_
              rintro e w5 ⟨rfl, hb5⟩
              go_wp2
              go_roundw
              case rel => exact ⟨i + 1, i + 1, k + 1, all ++ pk, by omega, by omega, by omega, by omega, by rw [HAP.out], by go_num, by go_num, by rw [List.length_append]; omega, HAF.out, .inl ⟨by omega, HPN.out⟩, nx HBR.out hb5⟩
              case measure => simp [intOf]; omega
            · have e32 := bneq_t h32 (n := 32) rfl
              have HPN := Lib.hid (partsN_more HPA.out hst hlt h32)
              clear h32
              go_wp2
              go_roundw
              case rel => exact ⟨st, i + 1, k, all, hkl, by omega, by omega, by omega, rfl, rfl, by go_num, hal, HAL.out, .inl ⟨by omega, HPN.out⟩, HBR.out⟩
              case measure => simp [intOf]; omega
          · have hiq : i = q.size := by omega
            obtain ⟨hkp, hx, hke⟩ := partsN_lastw HSP.out HPA.out (by omega)
            have HRD : Hid (∀ u, Below w.heap.size w u → Calls Tryd.prog 10 #[.string (q.extract st i)] u fun e w' => e = .returned (.tuple #[.string (str ps[k]), .bool true]) ∧ Below u.heap.size u w') := fun u hu => by
              have := readCodeWord_any (q.extract st i) u (mx_belowN hmx hu) (by rw [ByteArray.size_extract]; omega)
              rw [hx, readW_code (HCW.out _ (List.getElem_mem hkp))] at this; exact this
            have hpz := str_size ps[k]
            have hp28 : ps[k].length ≤ 28 := (readW_len (readW_code (HCW.out _ (List.getElem_mem hkp)))).1
            have HAF : Hid (all ++ ps[k] = (ps.take (k + 1)).flatten) := by show _ = _; rw [take_nextN hkp, List.flatten_append, ← HAL.out]; simp
            have haz := str_size all
            have HAP : Hid (str all ++ str ps[k] = str (all ++ ps[k])) := str_app _ _
            have hap : (str all ++ str ps[k]).size = (str all).size + (str ps[k]).size := ByteArray.size_append
            generalize ps[k] = pk at *
            clear hx
            subst hiq
            go_wp2_with fail
            refine (HRD.out _ HBR.out).mono ?_
            rintro e w5 ⟨rfl, hb5⟩
            go_wp2
            go_roundw
            case rel => exact ⟨q.size + 1, q.size + 1, k + 1, all ++ pk, by omega, by omega, by omega, by omega, by rw [HAP.out], by go_num, by go_num, by rw [List.length_append]; omega, HAF.out, .inr ⟨rfl, hke⟩, nx HBR.out hb5⟩
            case measure => simp [intOf]
end Go.Proofs.YtboopbjdehdhgabDoor
