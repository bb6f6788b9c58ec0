/-
  The laws of chapter 6 that read coded words: each law's walk. For every input of the law: it returns true, and the input reads as it did. Conditions: none but the statement's own.
-/
import Derived.Test.YtboopbjdehdhgaaDoorLaw0n
import Derived.Test.YtboopbjdehdhgaaDoorNamR
import Derived.Test.YtboopbjdehdhgaaDoorNamX
import Derived.Test.YtboopbjdehdhgaaDoorNamN
import Derived.Test.YtboopbjdehdhgaaDoorNamS
namespace Go.Proofs.YtboopbjdehdhgaaDoor
open Go.ChangeShapes Go.WideShapes Go.ChangeAt Go.RowKit
open Go.ChangeMaps (open_string shut_string)

theorem enc_plain {l t : List UInt8} (h : encN l = some t) (hn : needs l = false) : t = l := by
  unfold encN at h
  split at h
  · injection h with h
    have h : l = t := by simpa [hn] using h
    exact h.symm
  · cases h
set_option maxRecDepth 100000 in
set_option maxHeartbeats 4000000 in
theorem fnEncodeName_walk (a : Option Addr) (n c : Nat) (w : World) (hmx : ∃ m, w.cell? ⟨0, 0, none⟩ = some (.int .i64 m)) (hc : Code w a n) (hnc : n ≤ c) (hm : c ≤ maxLen) :
    Calls Tryd.prog 4 #[.slice a n c] w fun e w' => e = .returned (.bool true) ∧ Below w.heap.size w w' := by
  have hm' := hm
  unfold maxLen at hm'
  by_cases hn : 1048576 < n
  · have hd : decide ((1048576 : Int) < n) = true := by simp; omega
    go_enter Tryd.func4, Tryd.ntmps4
    go_wp2
    go_ret
    exact ⟨rfl, Below.refl _ _⟩
  have hd : decide ((1048576 : Int) < n) = false := by simp; omega
  go_enter Tryd.func4, Tryd.ntmps4
  go_wp2_with fail
  refine (drawEncodeName_any a n c w hc hnc hm).mono ?_
  rintro e w1 ⟨s, rfl, hs, hb1⟩
  have HI : Hid (∀ u, Below w.heap.size w u → Calls Tryd.prog 14 #[.string s] u (DecRet (encN s.data.toList) u)) := fun u hu => encodeName_any s u (mx_belowN hmx hu) (by omega)
  have HS := Lib.hid (fun u => encodeNameS_any s u (by omega))
  cases ho : encN s.data.toList with
  | none =>
    rw [ho] at HI HS
    clear ho
    go_wp2_with fail
    refine (HI.out _ hb1).mono ?_
    rintro e w2 ⟨rfl, hb2⟩
    go_wp2_with fail
    refine (HS.out _).mono ?_
    rintro e w3 ⟨rfl, hb3⟩
    go_wp2
    go_ret
    exact ⟨rfl, nx (nx hb1 hb2) hb3⟩
  | some t =>
    have htz := str_size t
    have ht560 := encN_size ho
    have HI : Hid (∀ u, Below w.heap.size w u → Calls Tryd.prog 14 #[.string s] u fun e w' => e = .returned (.tuple #[.string (str t), .bool true]) ∧ Below u.heap.size u w') := fun u hu => by have := HI.out u hu; rw [ho] at this; exact this
    have HS : Hid (∀ u, Calls Tryd.prog 15 #[.string s] u fun e w' => e = .returned (.tuple #[.string (str t), .bool true]) ∧ Below u.heap.size u w') := fun u => by have := HS.out u; rw [ho] at this; exact this
    obtain ⟨hde, _⟩ := dec_enc ho
    have HD : Hid (∀ u, Below w.heap.size w u → Calls Tryd.prog 16 #[.string (str t)] u fun e w' => e = .returned (.tuple #[.string s, .bool true]) ∧ Below u.heap.size u w') := fun u hu => by
      have := decodeName_any (str t) u (mx_belowN hmx hu) (by omega)
      rw [str_list, hde] at this
      exact this.mono fun e w' ⟨h1, h2⟩ => ⟨by rw [h1]; show _ = Ending.returned (.tuple #[.string s, .bool true]); rw [show (some s.data.toList).getD [] = s.data.toList from rfl, str_of]; rfl, h2⟩
    have hees : (s.toList == s.toList) = true := by simp
    cases hnd : needs s.data.toList
    · have HNB : Hid (∀ u, Below w.heap.size w u → Calls Tryd.prog 17 #[.string s] u fun e w' => e = .returned (.bool false) ∧ u = w') := fun u hu => by
        have := needsCode_any s u (mx_belowN hmx hu) (by omega)
        rw [hnd] at this; exact this
      have hts : str t = s := by rw [enc_plain ho hnd, str_of]
      rw [hts] at HI HS HD
      clear ho hnd hde htz ht560 hts
      go_wp2_with fail
      refine (HI.out _ hb1).mono ?_
      rintro e w2 ⟨rfl, hb2⟩
      go_wp2_with fail
      refine (HS.out _).mono ?_
      rintro e w3 ⟨rfl, hb3⟩
      have HB3 := Lib.hid (nx (nx hb1 hb2) hb3)
      go_wp2_with fail
      refine (HD.out _ HB3.out).mono ?_
      rintro e w4 ⟨rfl, hb4⟩
      have HB4 := Lib.hid (nx HB3.out hb4)
      go_wp2_with fail
      refine (HNB.out _ HB4.out).mono ?_
      rintro e w5 ⟨rfl, rfl⟩
      go_wp2
      go_ret
      exact ⟨rfl, HB4.out⟩
    · have HNB : Hid (∀ u, Below w.heap.size w u → Calls Tryd.prog 17 #[.string s] u fun e w' => e = .returned (.bool true) ∧ u = w') := fun u hu => by
        have := needsCode_any s u (mx_belowN hmx hu) (by omega)
        rw [hnd] at this; exact this
      have hee : ((str t).toList == (str t).toList) = true := by simp
      clear ho hnd hde htz ht560
      generalize str t = q at *
      go_wp2_with fail
      refine (HI.out _ hb1).mono ?_
      rintro e w2 ⟨rfl, hb2⟩
      go_wp2_with fail
      refine (HS.out _).mono ?_
      rintro e w3 ⟨rfl, hb3⟩
      have HB3 := Lib.hid (nx (nx hb1 hb2) hb3)
      go_wp2_with fail
      refine (HD.out _ HB3.out).mono ?_
      rintro e w4 ⟨rfl, hb4⟩
      have HB4 := Lib.hid (nx HB3.out hb4)
      go_wp2_with fail
      refine (HNB.out _ HB4.out).mono ?_
      rintro e w5 ⟨rfl, rfl⟩
      go_wp2
      go_ret
      exact ⟨rfl, HB4.out⟩
set_option maxRecDepth 100000 in
set_option maxHeartbeats 4000000 in
theorem fnDecodeName_walk (a : Option Addr) (n c : Nat) (w : World) (hmx : ∃ m, w.cell? ⟨0, 0, none⟩ = some (.int .i64 m)) (hc : Code w a n) (hnc : n ≤ c) (hm : c ≤ maxLen) :
    Calls Tryd.prog 5 #[.slice a n c] w fun e w' => e = .returned (.bool true) ∧ Below w.heap.size w w' := by
  have hm' := hm
  unfold maxLen at hm'
  by_cases hn : 1048576 < n
  · have hd : decide ((1048576 : Int) < n) = true := by simp; omega
    go_enter Tryd.func5, Tryd.ntmps5
    go_wp2
    go_ret
    exact ⟨rfl, Below.refl _ _⟩
  have hd : decide ((1048576 : Int) < n) = false := by simp; omega
  go_enter Tryd.func5, Tryd.ntmps5
  go_wp2_with fail
  refine (drawDecodeName_any a n c w hc hnc hm).mono ?_
  rintro e w1 ⟨s, rfl, hs, hb1⟩
  have HI : Hid (∀ u, Below w.heap.size w u → Calls Tryd.prog 16 #[.string s] u (DecRet (decN s.data.toList) u)) := fun u hu => decodeName_any s u (mx_belowN hmx hu) (by omega)
  have HS := Lib.hid (fun u => decodeNameS_any s u (by omega))
  cases ho : decN s.data.toList with
  | none =>
    rw [ho] at HI HS
    have hem : (str ([] : List UInt8)).toList.isEmpty = true := by rw [emp_of]; rfl
    clear ho
    go_wp2_with fail
    refine (HI.out _ hb1).mono ?_
    rintro e w2 ⟨rfl, hb2⟩
    go_wp2_with fail
    refine (HS.out _).mono ?_
    rintro e w3 ⟨rfl, hb3⟩
    go_wp2
    go_ret
    exact ⟨rfl, nx (nx hb1 hb2) hb3⟩
  | some b =>
    have HI : Hid (∀ u, Below w.heap.size w u → Calls Tryd.prog 16 #[.string s] u fun e w' => e = .returned (.tuple #[.string (str b), .bool true]) ∧ Below u.heap.size u w') := fun u hu => by have := HI.out u hu; rw [ho] at this; exact this
    have HS : Hid (∀ u, Calls Tryd.prog 19 #[.string s] u fun e w' => e = .returned (.tuple #[.string (str b), .bool true]) ∧ Below u.heap.size u w') := fun u => by have := HS.out u; rw [ho] at this; exact this
    have hee : ((str b).toList == (str b).toList) = true := by simp
    have h120 := (decN_some ho).2.1
    have hbz := str_size b
    obtain ⟨t, ht⟩ : ∃ t, encN b = some t := ⟨_, encN_in h120⟩
    have htz := str_size t
    have ht560 := encN_size ht
    have hde := (dec_enc ht).1
    have HE : Hid (∀ u, Below w.heap.size w u → Calls Tryd.prog 14 #[.string (str b)] u fun e w' => e = .returned (.tuple #[.string (str t), .bool true]) ∧ Below u.heap.size u w') := fun u hu => by
      have := encodeName_any (str b) u (mx_belowN hmx hu) (by omega)
      rw [str_list, ht] at this; exact this
    have HD : Hid (∀ u, Below w.heap.size w u → Calls Tryd.prog 16 #[.string (str t)] u fun e w' => e = .returned (.tuple #[.string (str b), .bool true]) ∧ Below u.heap.size u w') := fun u hu => by
      have := decodeName_any (str t) u (mx_belowN hmx hu) (by omega)
      rw [str_list, hde] at this; exact this
    clear ho ht hde htz ht560 hbz h120
    generalize str t = q at *
    generalize str b = p at *
    go_wp2_with fail
    refine (HI.out _ hb1).mono ?_
    rintro e w2 ⟨rfl, hb2⟩
    go_wp2_with fail
    refine (HS.out _).mono ?_
    rintro e w3 ⟨rfl, hb3⟩
    have HB3 := Lib.hid (nx (nx hb1 hb2) hb3)
    go_wp2_with fail
    refine (HE.out _ HB3.out).mono ?_
    rintro e w4 ⟨rfl, hb4⟩
    have HB4 := Lib.hid (nx HB3.out hb4)
    go_wp2_with fail
    refine (HD.out _ HB4.out).mono ?_
    rintro e w5 ⟨rfl, hb5⟩
    go_wp2
    go_ret
    exact ⟨rfl, nx HB4.out hb5⟩
set_option maxRecDepth 100000 in
set_option maxHeartbeats 4000000 in
theorem fnCodeWord_walk (a : Option Addr) (n c : Nat) (a0 : Option Addr) (n0 c0 : Nat) (w : World) (hmx : ∃ m, w.cell? ⟨0, 0, none⟩ = some (.int .i64 m)) (hc : Code w a n) (hnc : n ≤ c) (hm : c ≤ maxLen) (hc0 : Code w a0 n0) (hnc0 : n0 ≤ c0) (hm0 : c0 ≤ maxLen) :
    Calls Tryd.prog 3 #[.slice a n c, .slice a0 n0 c0] w fun e w' => e = .returned (.bool true) ∧ Below w.heap.size w w' := by
  have hm' := hm
  have hm0' := hm0
  unfold maxLen at hm' hm0'
  by_cases hn : 1048576 < n
  · have hd : decide ((1048576 : Int) < n) = true := by simp; omega
    go_enter Tryd.func3, Tryd.ntmps3
    go_wp2
    go_ret
    exact ⟨rfl, Below.refl _ _⟩
  have hd : decide ((1048576 : Int) < n) = false := by simp; omega
  by_cases hn0 : 1048576 < n0
  · have hd0 : decide ((1048576 : Int) < n0) = true := by simp; omega
    go_enter Tryd.func3, Tryd.ntmps3
    go_wp2
    go_ret
    exact ⟨rfl, Below.refl _ _⟩
  have hd0 : decide ((1048576 : Int) < n0) = false := by simp; omega
  have HC0 := Lib.hid hc0
  go_enter Tryd.func3, Tryd.ntmps3
  go_wp2_with fail
  refine (drawCodeWord_any a n c w hc hnc hm).mono ?_
  rintro e w1 ⟨s, rfl, hs, hb1⟩
  have HI := Lib.hid (fun u => codeWord_any s u (by omega))
  have HS := Lib.hid (fun u => codeWordS_any s u (by omega))
  cases ho : codeW s.data.toList with
  | none =>
    rw [ho] at HI HS
    clear ho
    go_wp2_with fail
    refine (HI.out _).mono ?_
    rintro e w2 ⟨rfl, hb2⟩
    go_wp2_with fail
    refine (HS.out _).mono ?_
    rintro e w3 ⟨rfl, hb3⟩
    have HB4 := Lib.hid (nx (nx hb1 hb2) hb3)
    go_wp2_with fail
    refine (drawReadCodeWord_any a0 n0 c0 _ (HC0.out.below HB4.out) hnc0 hm0).mono ?_
    rintro e w5 ⟨s5, rfl, hs5, hb5⟩
    have HB5 := Lib.hid (nx HB4.out hb5)
    have HI5 := Lib.hid (fun u (hu : Below w.heap.size w u) => readCodeWord_any s5 u (mx_belowN hmx hu) (by omega))
    have HS5 := Lib.hid (fun u => readCodeWordS_any s5 u (by omega))
    cases ho5 : readW s5.data.toList with
    | none =>
      have HI5 : Hid (∀ u, Below w.heap.size w u → Calls Tryd.prog 9 #[.string s5] u fun e w' => e = .returned (.tuple #[.string (str []), .bool false]) ∧ Below u.heap.size u w') := fun u hu => by have := HI5.out u hu; rw [ho5] at this; exact this
      have HS5 : Hid (∀ u, Calls Tryd.prog 12 #[.string s5] u fun e w' => e = .returned (.tuple #[.string (str []), .bool false]) ∧ Below u.heap.size u w') := fun u => by have := HS5.out u; rw [ho5] at this; exact this
      have HCE : Hid (∀ u, Calls Tryd.prog 7 #[.string (str [])] u fun e w' => e = .returned (.tuple #[.string (str []), .bool false]) ∧ Below u.heap.size u w') := fun u => by
        have := codeWord_any (str []) u (by decide)
        rw [str_list, codeW_nil] at this; exact this
      have h00 : ((str ([] : List UInt8)).toList == (str []).toList) = true := by simp
      clear ho5
      generalize str ([] : List UInt8) = z at *
      go_wp2_with fail
      refine (HI5.out _ HB5.out).mono ?_
      rintro e w6 ⟨rfl, hb6⟩
      go_wp2_with fail
      refine (HS5.out _).mono ?_
      rintro e w7 ⟨rfl, hb7⟩
      go_wp2_with fail
      refine (HCE.out _).mono ?_
      rintro e w8 ⟨rfl, hb8⟩
      go_wp2
      go_ret
      exact ⟨rfl, nx (nx (nx HB5.out hb6) hb7) hb8⟩
    | some g =>
      have HI5 : Hid (∀ u, Below w.heap.size w u → Calls Tryd.prog 9 #[.string s5] u fun e w' => e = .returned (.tuple #[.string (str g), .bool true]) ∧ Below u.heap.size u w') := fun u hu => by have := HI5.out u hu; rw [ho5] at this; exact this
      have HS5 : Hid (∀ u, Calls Tryd.prog 12 #[.string s5] u fun e w' => e = .returned (.tuple #[.string (str g), .bool true]) ∧ Below u.heap.size u w') := fun u => by have := HS5.out u; rw [ho5] at this; exact this
      have hgl := (readW_len ho5).1
      have HCE : Hid (∀ u, Calls Tryd.prog 7 #[.string (str g)] u fun e w' => e = .returned (.tuple #[.string s5, .bool true]) ∧ Below u.heap.size u w') := fun u => by
        have := codeWord_any (str g) u (by rw [str_size]; omega)
        rw [str_list, readW_sound ho5] at this
        exact this.mono fun e w' ⟨h1, h2⟩ => ⟨by rw [h1]; show Ending.returned (.tuple #[.string (str s5.data.toList), .bool true]) = _; rw [str_of], h2⟩
      have h00 : ((str g).toList == (str g).toList) = true := by simp
      have h01 : (s5.toList == s5.toList) = true := by simp
      clear ho5 hgl
      generalize str g = z at *
      go_wp2_with fail
      refine (HI5.out _ HB5.out).mono ?_
      rintro e w6 ⟨rfl, hb6⟩
      go_wp2_with fail
      refine (HS5.out _).mono ?_
      rintro e w7 ⟨rfl, hb7⟩
      go_wp2_with fail
      refine (HCE.out _).mono ?_
      rintro e w8 ⟨rfl, hb8⟩
      go_wp2
      go_ret
      exact ⟨rfl, nx (nx (nx HB5.out hb6) hb7) hb8⟩
  | some t =>
    have htz := str_size t
    obtain ⟨_, ht40, _⟩ := codeW_size ho
    have HI : Hid (∀ u, Calls Tryd.prog 7 #[.string s] u fun e w' => e = .returned (.tuple #[.string (str t), .bool true]) ∧ Below u.heap.size u w') := fun u => by have := HI.out u; rw [ho] at this; exact this
    have HS : Hid (∀ u, Calls Tryd.prog 8 #[.string s] u fun e w' => e = .returned (.tuple #[.string (str t), .bool true]) ∧ Below u.heap.size u w') := fun u => by have := HS.out u; rw [ho] at this; exact this
    have HR : Hid (∀ u, Below w.heap.size w u → Calls Tryd.prog 9 #[.string (str t)] u fun e w' => e = .returned (.tuple #[.string s, .bool true]) ∧ Below u.heap.size u w') := fun u hu => by
      have := readCodeWord_any (str t) u (mx_belowN hmx hu) (by omega)
      rw [str_list, readW_code ho] at this
      exact this.mono fun e w' ⟨h1, h2⟩ => ⟨by rw [h1]; show Ending.returned (.tuple #[.string (str s.data.toList), .bool true]) = _; rw [str_of], h2⟩
    have HTV : Hid (∀ u, Calls Tryd.prog 10 #[.string (str t)] u fun e w' => e = .returned (.bool true) ∧ u = w') := fun u => by
      have := textValid_any (str t) u (by unfold maxLen; omega)
      rw [str_list, codeW_text ho] at this; exact this
    have hee : ((str t).toList == (str t).toList) = true := by simp
    have hss : (s.toList == s.toList) = true := by simp
    have hq40 : ¬ (40 : Int) < ((str t).size : Int) := by omega
    clear ho htz ht40
    generalize str t = q at *
    go_wp2_with fail
    refine (HI.out _).mono ?_
    rintro e w2 ⟨rfl, hb2⟩
    go_wp2_with fail
    refine (HS.out _).mono ?_
    rintro e w3 ⟨rfl, hb3⟩
    have HB3 := Lib.hid (nx (nx hb1 hb2) hb3)
    go_wp2_with fail
    refine (HR.out _ HB3.out).mono ?_
    rintro e w4 ⟨rfl, hb4⟩
    go_wp2_with fail
    refine (HTV.out _).mono ?_
    rintro e wv ⟨rfl, rfl⟩
    have HB4 := Lib.hid (nx HB3.out hb4)
    go_wp2_with fail
    refine (drawReadCodeWord_any a0 n0 c0 _ (HC0.out.below HB4.out) hnc0 hm0).mono ?_
    rintro e w5 ⟨s5, rfl, hs5, hb5⟩
    have HB5 := Lib.hid (nx HB4.out hb5)
    have HI5 := Lib.hid (fun u (hu : Below w.heap.size w u) => readCodeWord_any s5 u (mx_belowN hmx hu) (by omega))
    have HS5 := Lib.hid (fun u => readCodeWordS_any s5 u (by omega))
    cases ho5 : readW s5.data.toList with
    | none =>
      have HI5 : Hid (∀ u, Below w.heap.size w u → Calls Tryd.prog 9 #[.string s5] u fun e w' => e = .returned (.tuple #[.string (str []), .bool false]) ∧ Below u.heap.size u w') := fun u hu => by have := HI5.out u hu; rw [ho5] at this; exact this
      have HS5 : Hid (∀ u, Calls Tryd.prog 12 #[.string s5] u fun e w' => e = .returned (.tuple #[.string (str []), .bool false]) ∧ Below u.heap.size u w') := fun u => by have := HS5.out u; rw [ho5] at this; exact this
      have HCE : Hid (∀ u, Calls Tryd.prog 7 #[.string (str [])] u fun e w' => e = .returned (.tuple #[.string (str []), .bool false]) ∧ Below u.heap.size u w') := fun u => by
        have := codeWord_any (str []) u (by decide)
        rw [str_list, codeW_nil] at this; exact this
      have h00 : ((str ([] : List UInt8)).toList == (str []).toList) = true := by simp
      clear ho5
      generalize str ([] : List UInt8) = z at *
      go_wp2_with fail
      refine (HI5.out _ HB5.out).mono ?_
      rintro e w6 ⟨rfl, hb6⟩
      go_wp2_with fail
      refine (HS5.out _).mono ?_
      rintro e w7 ⟨rfl, hb7⟩
      go_wp2_with fail
      refine (HCE.out _).mono ?_
      rintro e w8 ⟨rfl, hb8⟩
      go_wp2
      go_ret
      exact ⟨rfl, nx (nx (nx HB5.out hb6) hb7) hb8⟩
    | some g =>
      have HI5 : Hid (∀ u, Below w.heap.size w u → Calls Tryd.prog 9 #[.string s5] u fun e w' => e = .returned (.tuple #[.string (str g), .bool true]) ∧ Below u.heap.size u w') := fun u hu => by have := HI5.out u hu; rw [ho5] at this; exact this
      have HS5 : Hid (∀ u, Calls Tryd.prog 12 #[.string s5] u fun e w' => e = .returned (.tuple #[.string (str g), .bool true]) ∧ Below u.heap.size u w') := fun u => by have := HS5.out u; rw [ho5] at this; exact this
      have hgl := (readW_len ho5).1
      have HCE : Hid (∀ u, Calls Tryd.prog 7 #[.string (str g)] u fun e w' => e = .returned (.tuple #[.string s5, .bool true]) ∧ Below u.heap.size u w') := fun u => by
        have := codeWord_any (str g) u (by rw [str_size]; omega)
        rw [str_list, readW_sound ho5] at this
        exact this.mono fun e w' ⟨h1, h2⟩ => ⟨by rw [h1]; show Ending.returned (.tuple #[.string (str s5.data.toList), .bool true]) = _; rw [str_of], h2⟩
      have h00 : ((str g).toList == (str g).toList) = true := by simp
      have h01 : (s5.toList == s5.toList) = true := by simp
      clear ho5 hgl
      generalize str g = z at *
      go_wp2_with fail
      refine (HI5.out _ HB5.out).mono ?_
      rintro e w6 ⟨rfl, hb6⟩
      go_wp2_with fail
      refine (HS5.out _).mono ?_
      rintro e w7 ⟨rfl, hb7⟩
      go_wp2_with fail
      refine (HCE.out _).mono ?_
      rintro e w8 ⟨rfl, hb8⟩
      go_wp2
      go_ret
      exact ⟨rfl, nx (nx (nx HB5.out hb6) hb7) hb8⟩
end Go.Proofs.YtboopbjdehdhgaaDoor
