/-
  The laws of chapter 7 on fresh boundaries: each law's walk. For every input of the law: it returns true, and the input reads as it did. Conditions: none but the statement's own.
-/
import Derived.Test.YtdoclfbfhlgejabDoorLaw0d
import Derived.Test.YtdoclfbfhlgejabDoorPartF
import Derived.Test.YtdoclfbfhlgejabDoorDrawS
namespace Go.Proofs.YtdoclfbfhlgejabDoor
open Go.ChangeShapes Go.WideShapes Go.ChangeAt Go.RowKit
open Go.ChangeMaps (open_string shut_string)

theorem str_head (l : List UInt8) (h : 0 < (str l).size) : (str l)[0] = l[0]'(by rw [str_size] at h; exact h) := by
  have hs := str_list l
  have e : (str l)[0] = (str l).data.toList[0]'(by rw [size_list]; exact h) := rfl
  rw [e]
  simp only [hs]
theorem head_at0 (l : List UInt8) (h : 0 < l.length) : l.head? = some l[0] := by
  match l, h with
  | c :: r, _ => rfl
theorem fresh_drawn {xs : List (List UInt8)} (h : ∀ x ∈ xs, lineOk x = true) : ∃ k, k ≤ 3 ∧ freshB xs = some (bName k) := by
  have h3 : freeB (bName 3) xs = true := freeB_t fun k hk => by
    have := lineOk_b3 (h _ (List.getElem_mem hk))
    have e : bName 3 = [98, 51] := by unfold bName; rw [decN_one (by omega)]; rfl
    rw [e]; exact this
  cases h0 : freeB (bName 0) xs with
  | true => exact ⟨0, by omega, freshB_at (by omega) h0 (fun j hj => by omega)⟩
  | false =>
    cases h1 : freeB (bName 1) xs with
    | true =>
      refine ⟨1, by omega, freshB_at (by omega) h1 (fun j hj => ?_)⟩
      obtain rfl : j = 0 := by omega
      exact h0
    | false =>
      cases h2 : freeB (bName 2) xs with
      | true => exact ⟨2, by omega, freshB_at (by omega) h2 (fun j hj => by rcases (by omega : j = 0 ∨ j = 1) with rfl | rfl <;> assumption)⟩
      | false => exact ⟨3, by omega, freshB_at (by omega) h3 (fun j hj => by rcases (by omega : j = 0 ∨ j = 1 ∨ j = 2) with rfl | rfl | rfl <;> assumption)⟩
theorem bName_zero : bName 0 = [98, 48] := by unfold bName; rw [decN_one (by omega)]; rfl
theorem fresh_zero {xs : List (List UInt8)} {b : List UInt8} (h : freshB xs = some b) (hn : ∀ j, (hj : j < xs.length) → xs[j].head? ≠ some 45) : b = [98, 48] := by
  have h0 : freeB (bName 0) xs = true := freeB_t fun k hk => by
    refine looks_f.2 ⟨fun e => hn k hk (by rw [e]; rfl), fun e => hn k hk (by rw [e]; rfl)⟩
  rw [freshB_at (by omega) h0 (fun j hj => by omega)] at h
  injection h with h
  rw [← h, bName_zero]
set_option maxRecDepth 100000 in
set_option maxHeartbeats 1000000 in
theorem fnFreshFirst_walk (a : Option Addr) (n c : Nat) (w : World) (hc : Code w a n) (hnc : n ≤ c) (hm : c ≤ maxLen) :
    Calls Tryd.prog 5 #[.slice a n c] w fun e w' => e = .returned (.bool true) ∧ Below w.heap.size w w' := by
  have hm' := hm
  unfold maxLen at hm'
  by_cases hn : 1048576 < n
  · have hd : decide ((1048576 : Int) < n) = true := by simp; omega
    go_enter Tryd.func5, Tryd.ntmps5
    go_wp2
    go_ret
    exact ⟨rfl, Below.refl _ _⟩
  have hd : decide ((1048576 : Int) < n) = false := by simp; omega
  go_enter Tryd.func5, Tryd.ntmps5
  go_wp2_with fail
  refine (drawFreshBoundary_any a n c w hc hnc hm).mono ?_
  rintro e w1 ⟨v1, xs, rfl, ho1, hl1, hx1, hb1⟩
  obtain ⟨a1, c1, rfl, hr1, _, hac1, _⟩ := ho1.readc
  have HR1 := Lib.hid hr1
  obtain ⟨k, hk, hf⟩ := fresh_drawn hx1
  have HF := Lib.hid hf
  have hbl := bName_len (n := k) (by omega)
  rw [if_pos (by omega)] at hbl
  have HI : Hid (∀ u, RdL u a1 xs.length xs → Calls Tryd.prog 15 #[.slice a1 xs.length c1] u (FreshRet (some (bName k)) u)) := fun u h => by
    have := freshBoundary_any a1 xs.length c1 xs u h (by omega)
    rw [hf] at this; exact this
  have HS : Hid (∀ u, RdL u a1 xs.length xs → Calls Tryd.prog 16 #[.slice a1 xs.length c1] u (FreshRet (some (bName k)) u)) := fun u h => by
    have := freshBoundaryS_any a1 xs.length c1 xs u h (by omega)
    rw [hf] at this; exact this
  have HZ : Hid (bName k = [98, 48] → str (bName k) = ⟨#[98, 48]⟩) := fun h => by rw [h]; rfl
  have hz2 : (str (bName k)).size = 2 := by rw [str_size]; exact hbl
  have HX1 := Lib.hid hx1
  clear hr1 ho1 hx1 hf hbl
  obtain ⟨b, hb⟩ : ∃ b, b = bName k := ⟨_, rfl⟩
  rw [← hb] at HI HS HZ hz2 HF
  clear hb
  have HD : Hid (∀ u, FreshRet (some b) u = fun e w' => e = .returned (.tuple #[.string (str b), .bool true]) ∧ Below u.heap.size u w') := fun u => rfl
  obtain ⟨X, hX⟩ : ∃ X, X = str b := ⟨_, rfl⟩
  rw [← hX] at HZ hz2
  have HI : Hid (∀ u, RdL u a1 xs.length xs → Calls Tryd.prog 15 #[.slice a1 xs.length c1] u fun e w' => e = .returned (.tuple #[.string X, .bool true]) ∧ Below u.heap.size u w') := fun u h => by
    have := HI.out u h
    rw [HD.out, ← hX] at this; exact this
  have HS : Hid (∀ u, RdL u a1 xs.length xs → Calls Tryd.prog 16 #[.slice a1 xs.length c1] u fun e w' => e = .returned (.tuple #[.string X, .bool true]) ∧ Below u.heap.size u w') := fun u h => by
    have := HS.out u h
    rw [HD.out, ← hX] at this; exact this
  clear hX HD
  have e1 : (X.toList != X.toList) = false := by simp
  go_wp2_with fail
  refine (HI.out _ HR1.out).mono ?_
  rintro e w2 ⟨rfl, hb2⟩
  go_wp2_with fail
  refine (HS.out _ (HR1.out.below hb2)).mono ?_
  rintro e w3 ⟨rfl, hb3⟩
  have HB3 := Lib.hid (nx (nx hb1 hb2) hb3)
  have HR3 := Lib.hid ((HR1.out.below hb2).below hb3)
  clear hb1 hb2 hb3
  go_wp2_with fail
  go_loop [8] (fun i => ∃ j : Nat, j ≤ xs.length ∧ i = .int .i64 j ∧ ∀ t, t < j → (ht : t < xs.length) → xs[t].head? ≠ some 45) (fun i => xs.length - (intOf i).toNat)
  case atStart => exact ⟨0, Nat.zero_le _, rfl, fun t ht => by omega⟩
  case round =>
    obtain ⟨j, hj, rfl, hall⟩ := hrel
    have HALL := Lib.hid hall
    clear hall
    by_cases hlt : j < xs.length
    · obtain ⟨b4, o4, rfl, hbl4, hc4⟩ := HR3.out.2.resolve_left (by omega)
      have y0 := hc4 j hlt
      have hsz := str_size xs[j]
      have hlx := lineOk_len (HX1.out _ (List.getElem_mem hlt))
      have HAT : Hid (∀ h : 0 < (str xs[j]).size, xs[j].head? = some ((str xs[j])[0]'h)) := fun h => by
        rw [str_head xs[j] h]
        exact head_at0 _ _
      have HNX : Hid (xs[j].head? ≠ some 45 → ∀ t, t < j + 1 → (ht : t < xs.length) → xs[t].head? ≠ some 45) := fun h t ht htl => by
        by_cases e : t = j
        · subst e; exact h
        · exact HALL.out t (by omega) htl
      have HNIL : Hid ((str xs[j]).size = 0 → xs[j].head? ≠ some 45) := fun h => by
        rw [hsz] at h
        rw [List.length_eq_zero_iff.1 h]; simp
      have hs10 : (str xs[j]).size ≤ 10 := by omega
      clear hc4 hsz hlx
      generalize xs[j].head? = hd at *
      generalize str xs[j] = Y at *
      by_cases h0 : Y.size = 0
      · have HN := Lib.hid (HNX.out (HNIL.out h0))
        have d1 : ¬ (0 < Y.size) := by omega
        clear h0
        go_wp2
        go_round
        case rel => exact ⟨j + 1, by omega, by go_num, HN.out⟩
        case measure => simp [intOf]; omega
      · have hp : 0 < Y.size := by omega
        have HH := Lib.hid (HAT.out hp)
        by_cases h45 : Y[0] = 45
        · have e2 := beq_t h45 (n := 45) rfl
          have e3 : ((X.size : Int) == 2) = true := by rw [hz2]; rfl
          clear h45 h0
          go_wp2
          go_ret
          exact ⟨rfl, HB3.out⟩
        · have e2 := beq_f h45 (n := 45) rfl
          have HN := Lib.hid (HNX.out (by rw [HH.out]; intro e; injection e with e; exact h45 e))
          clear h45 h0
          go_wp2
          go_round
          case rel => exact ⟨j + 1, by omega, by go_num, HN.out⟩
          case measure => simp [intOf]; omega
    · have hbz := HZ.out (fresh_zero HF.out (fun t ht => HALL.out t (by omega) ht))
      have e2 : (X.toList == [98, 48]) = true := by rw [hbz]; decide +kernel
      clear hbz
      go_wp2
      go_ret
      exact ⟨rfl, HB3.out⟩
end Go.Proofs.YtdoclfbfhlgejabDoor
