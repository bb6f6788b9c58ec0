/-
  The laws of chapter 7 on fresh boundaries: each law's walk. For every input of the law: it returns true, and the input reads as it did. Conditions: none but the statement's own.
-/
import Derived.Test.YtdoclfbfhlgejaaDoorLaw0d
import Derived.Test.YtdoclfbfhlgejaaDoorPartF
import Derived.Test.YtdoclfbfhlgejaaDoorDrawS
import Derived.Test.YtdoclfbfhlgejaaDoorPartH
namespace Go.Proofs.YtdoclfbfhlgejaaDoor
open Go.ChangeShapes Go.WideShapes Go.ChangeAt Go.RowKit
open Go.ChangeMaps (open_string shut_string)

theorem str_head (l : List UInt8) (h : 0 < (str l).size) : (str l)[0] = l[0]'(by rw [str_size] at h; exact h) := by
  have hs := str_list l
  have e : (str l)[0] = (str l).data.toList[0]'(by rw [size_list]; exact h) := rfl
  rw [e]
  simp only [hs]
theorem head_at0 (l : List UInt8) (h : 0 < l.length) : l.head? = some l[0] := by
  match l, h with
  | c :: r, _ => rfl
theorem fresh_drawn {xs : List (List UInt8)} (h : ∀ x ∈ xs, lineOk x = true) : ∃ k, k ≤ 3 ∧ freshB xs = some (bName k) := by
  have h3 : freeB (bName 3) xs = true := freeB_t fun k hk => by
    have := lineOk_b3 (h _ (List.getElem_mem hk))
    have e : bName 3 = [98, 51] := by unfold bName; rw [decN_one (by omega)]; rfl
    rw [e]; exact this
  cases h0 : freeB (bName 0) xs with
  | true => exact ⟨0, by omega, freshB_at (by omega) h0 (fun j hj => by omega)⟩
  | false =>
    cases h1 : freeB (bName 1) xs with
    | true =>
      refine ⟨1, by omega, freshB_at (by omega) h1 (fun j hj => ?_)⟩
      obtain rfl : j = 0 := by omega
      exact h0
    | false =>
      cases h2 : freeB (bName 2) xs with
      | true => exact ⟨2, by omega, freshB_at (by omega) h2 (fun j hj => by rcases (by omega : j = 0 ∨ j = 1) with rfl | rfl <;> assumption)⟩
      | false => exact ⟨3, by omega, freshB_at (by omega) h3 (fun j hj => by rcases (by omega : j = 0 ∨ j = 1 ∨ j = 2) with rfl | rfl | rfl <;> assumption)⟩
theorem bName_zero : bName 0 = [98, 48] := by unfold bName; rw [decN_one (by omega)]; rfl
theorem fresh_zero {xs : List (List UInt8)} {b : List UInt8} (h : freshB xs = some b) (hn : ∀ j, (hj : j < xs.length) → xs[j].head? ≠ some 45) : b = [98, 48] := by
  have h0 : freeB (bName 0) xs = true := freeB_t fun k hk => by
    refine looks_f.2 ⟨fun e => hn k hk (by rw [e]; rfl), fun e => hn k hk (by rw [e]; rfl)⟩
  rw [freshB_at (by omega) h0 (fun j hj => by omega)] at h
  injection h with h
  rw [← h, bName_zero]
theorem rdss_two {w : World} {a : Option Addr} {n c : Nat} {xs : List (List UInt8)} {t : TypeId} (h : RdL w a n xs) (hac : a = none → c = 0) (hnc : n ≤ c) : RdSS (w.alloc (.cells #[.slice a n c, .slice a n c] t)) (some ⟨w.heap.size, 0, none⟩) 2 [xs, xs] := by
  have hb : Below w.heap.size w (w.alloc (.cells #[.slice a n c, .slice a n c] t)) := (Below.refl _ _).alloc (Nat.le_refl _) _
  have hl := h.1
  refine ⟨rfl, .inr ⟨w.heap.size, 0, rfl, by simp, fun i hi => ?_⟩⟩
  match i, hi with
  | 0, _ =>
    refine ⟨a, c, ?_, ?_, hac, ?_⟩
    · rw [World.cell?_alloc_at _ _ _ _ rfl]
      show some (Value.slice a n c) = some (.slice a xs.length c)
      rw [hl]
    · show RdL _ a xs.length xs
      rw [hl]; exact h.below hb
    · show xs.length ≤ c
      rw [hl]; exact hnc
  | 1, _ =>
    refine ⟨a, c, ?_, ?_, hac, ?_⟩
    · rw [World.cell?_alloc_at _ _ _ _ rfl]
      show some (Value.slice a n c) = some (.slice a xs.length c)
      rw [hl]
    · show RdL _ a xs.length xs
      rw [hl]; exact h.below hb
    · show xs.length ≤ c
      rw [hl]; exact hnc
set_option maxRecDepth 100000 in
set_option maxHeartbeats 1000000 in
theorem fnFreshBoundary_walk (a : Option Addr) (n c : Nat) (w : World) (hc : Code w a n) (hnc : n ≤ c) (hm : c ≤ maxLen) :
    Calls Tryd.prog 4 #[.slice a n c] w fun e w' => e = .returned (.bool true) ∧ Below w.heap.size w w' := by
  have hm' := hm
  unfold maxLen at hm'
  by_cases hn : 1048576 < n
  · have hd : decide ((1048576 : Int) < n) = true := by simp; omega
    go_enter Tryd.func4, Tryd.ntmps4
    go_wp2
    go_ret
    exact ⟨rfl, Below.refl _ _⟩
  have hd : decide ((1048576 : Int) < n) = false := by simp; omega
  go_enter Tryd.func4, Tryd.ntmps4
  go_wp2_with fail
  refine (drawFreshBoundary_any a n c w hc hnc hm).mono ?_
  rintro e w1 ⟨v1, xs, rfl, ho1, hl1, hx1, hb1⟩
  obtain ⟨a1, c1, rfl, hr1, _, hac1, hnc1⟩ := ho1.readc
  have HR1 := Lib.hid hr1
  have HAC := Lib.hid hac1
  have HNC := Lib.hid hnc1
  obtain ⟨k, hk, hf⟩ := fresh_drawn hx1
  have hbl := bName_len (n := k) (by omega)
  rw [if_pos (by omega)] at hbl
  obtain ⟨hj, hsp⟩ := fresh_join hf
  have hz2 : (str (bName k)).size = 2 := by rw [str_size]; exact hbl
  have hlen := joinsP_sum [xs, xs] (bName k)
  rw [sumP_cons, sumP_cons, sumP_nil] at hlen
  have HI : Hid (∀ u, RdL u a1 xs.length xs → Calls Tryd.prog 17 #[.slice a1 xs.length c1] u fun e w' => e = .returned (.tuple #[.string (str (bName k)), .bool true]) ∧ Below u.heap.size u w') := fun u h => by
    have := freshBoundary_any a1 xs.length c1 xs u h (by omega)
    rw [hf] at this; exact this
  have HS : Hid (∀ u, RdL u a1 xs.length xs → Calls Tryd.prog 18 #[.slice a1 xs.length c1] u fun e w' => e = .returned (.tuple #[.string (str (bName k)), .bool true]) ∧ Below u.heap.size u w') := fun u h => by
    have := freshBoundaryS_any a1 xs.length c1 xs u h (by omega)
    rw [hf] at this; exact this
  have HJI : Hid (∀ u a c, RdSS u a 2 [xs, xs] → Calls Tryd.prog 19 #[.slice a 2 c, .string (str (bName k))] u (LinesRet (some (joinsP [xs, xs] (bName k))) u)) := fun u a c h => by
    have := joinParts_any a 2 c [xs, xs] (str (bName k)) u h (by omega) (by rw [sumP_cons, sumP_cons, sumP_nil]; omega) (by omega)
    rw [str_list, hj] at this; exact this
  have HSI : Hid (∀ u a c, RdL u a (joinsP [xs, xs] (bName k)).length (joinsP [xs, xs] (bName k)) → Calls Tryd.prog 20 #[.slice a (joinsP [xs, xs] (bName k)).length c, .string (str (bName k))] u (PartsRet (some [xs, xs]) u)) := fun u a c h => by
    have := splitParts_any a _ c _ (str (bName k)) u h (by omega) (by omega)
    rw [str_list, hsp] at this; exact this
  have HMW : Hid (∀ u a1 c1 a2 c2, RdL u a1 xs.length xs → RdL u a2 xs.length xs → Calls Tryd.prog 21 #[.slice a1 xs.length c1, .slice a2 xs.length c2] u fun e w' => e = .returned (.bool true) ∧ Below u.heap.size u w') := fun u a1 c1 a2 c2 h1 h2 => by
    have := mwTexts_any a1 a2 _ c1 _ c2 xs xs u h1 h2 (by unfold maxLen; omega) (by unfold maxLen; omega)
    rw [decide_eq_true (rfl : xs = xs)] at this; exact this
  clear hr1 ho1 hx1 hf hbl hac1 hnc1 hj hsp hlen
  generalize joinsP [xs, xs] (bName k) = L at *
  generalize str (bName k) = X at *
  have e1 : (X.toList != X.toList) = false := by simp
  go_wp2_with fail
  refine (HI.out _ HR1.out).mono ?_
  rintro e w2 ⟨rfl, hb2⟩
  go_wp2_with fail
  refine (HS.out _ (HR1.out.below hb2)).mono ?_
  rintro e w3 ⟨rfl, hb3⟩
  have HB3 := Lib.hid (nx (nx hb1 hb2) hb3)
  have HR3 := Lib.hid ((HR1.out.below hb2).below hb3)
  have HA3 : Hid (Below w3.heap.size w3 (w3.alloc (.cells #[.slice a1 xs.length c1, .slice a1 xs.length c1] 34))) := (Below.refl _ _).alloc (Nat.le_refl _) _
  have HRS : Hid (RdSS (w3.alloc (.cells #[.slice a1 xs.length c1, .slice a1 xs.length c1] 34)) (some ⟨w3.heap.size, 0, none⟩) 2 [xs, xs]) := rdss_two HR3.out HAC.out HNC.out
  clear hb1 hb2 hb3
  go_wp2_with fail
  refine (HJI.out _ _ _ HRS.out).mono ?_
  intro e w4 h4
  obtain ⟨a4, c4, rfl, _, hd4, hb4⟩ := h4.some'
  clear h4
  have HB4 := Lib.hid (nx HB3.out (nx HA3.out hb4))
  have HR4 := Lib.hid ((HR3.out.below HA3.out).below hb4)
  clear hb4
  go_wp2_with fail
  refine (HSI.out _ _ _ hd4).mono ?_
  intro e w5 h5
  obtain ⟨a5, c5, us5, rfl, _, hd5, hb5⟩ := h5.some'
  clear h5 hd4
  have HB5 := Lib.hid (nx HB4.out hb5)
  have HR5 := Lib.hid (HR4.out.below hb5)
  clear hb5
  obtain ⟨b6, o6, q6, d6, rfl, x6, r6, _⟩ := hd5.cellW (Below.refl _ _) (show 0 < [xs, xs].length by simp)
  obtain ⟨b7, o7, q7, d7, e7, x7, r7, _⟩ := hd5.cellW (Below.refl _ _) (show 1 < [xs, xs].length by simp)
  injection e7 with e7
  injection e7 with e71 e72 _
  subst e71 e72
  have hbl6 := lt_of_cell x6
  have x6 : w5.cell? ⟨b6, o6, none⟩ = some (.slice q6 xs.length d6) := x6
  have x7 : w5.cell? ⟨b6, o6 + 1, none⟩ = some (.slice q7 xs.length d7) := x7
  have R6 : Hid (RdL w5 q6 xs.length xs) := r6
  have R7 : Hid (RdL w5 q7 xs.length xs) := r7
  clear r6 r7 hd5
  have hl2 : ([xs, xs] : List (List (List UInt8))).length = 2 := rfl
  rw [hl2]
  clear hl2
  go_wp2_with fail
  refine (HMW.out _ _ _ _ _ R6.out HR5.out).mono ?_
  rintro e w6 ⟨rfl, hb6⟩
  rw [← below_at hb6 hbl6] at x7
  go_wp2_with fail
  refine (HMW.out _ _ _ _ _ (R7.out.below hb6) (HR5.out.below hb6)).mono ?_
  rintro e w7 ⟨rfl, hb7⟩
  go_wp2
  go_ret
  exact ⟨rfl, nx (nx HB5.out hb6) hb7⟩
end Go.Proofs.YtdoclfbfhlgejaaDoor
