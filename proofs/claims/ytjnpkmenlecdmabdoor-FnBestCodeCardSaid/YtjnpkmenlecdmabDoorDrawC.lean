/-
  Draws of chapter 5: bytes, lines of letters, quoted lines. No statement is proved here.
-/
import Derived.Test.YtjnpkmenlecdmabDoorDraw2
import Derived.Test.YtjnpkmenlecdmabDoorCodR
import Derived.Test.YtjnpkmenlecdmabDoorCodE
import Derived.Test.YtjnpkmenlecdmabDoorCodV
namespace Go.Proofs.YtjnpkmenlecdmabDoor
open Go.RowKit

theorem numC_lit (R p n : Nat) (xs : List Int) (t : TypeId) (w : World) (hr : Rd w R p) (hp : p ≤ 1000000000) (hn : xs.length = n) (h0 : 0 < n) (h1 : n ≤ 1000000) :
    Calls Tryd.prog 67 #[.pointer (some ⟨R, 0, none⟩), .slice (some ⟨w.heap.size, 0, none⟩) n n] (w.alloc (.cells (xs.map (Value.int .i64)).toArray t)) fun e w' => ∃ x, x ∈ xs ∧ e = .returned (.int .i64 x) ∧ Rd w' R (p + 1) ∧ Touch R w w' := by
  have hb : Below w.heap.size w (w.alloc (.cells (xs.map (Value.int .i64)).toArray t)) := (Below.refl _ _).alloc (Nat.le_refl _) _
  refine (num_any R p w.heap.size 0 n n xs _ (hr.below hb) hp (by have := hr.lt; omega) (by simp) h0 h1 hn (fun i hi => ?_)).mono ?_
  · rw [World.cell?_alloc_at _ _ _ _ rfl]; simp [hi]
  · rintro e w' ⟨x, h1, h2, h3, h4⟩
    exact ⟨x, h1, h2, h3, (Touch.of_below hb).trans h4⟩
set_option maxRecDepth 100000 in
set_option maxHeartbeats 2000000 in
theorem l5Draw_any (R p : Nat) (w : World) (hr : Rd w R p) (hp : p ≤ 999999000) : Calls Tryd.prog 49 #[.pointer (some ⟨R, 0, none⟩)] w (Drawn R p 10 400 w) := by
  have hs10 : (ByteArray.mk #[48, 49, 50, 51, 52, 53, 54, 55, 56, 57]).size = 10 := rfl
  have hs0 : (ByteArray.mk #[]).size = 0 := rfl
  go_enter Tryd.func49, Tryd.ntmps49
  go_wp2_with fail
  refine (numC_lit R p 6 [3, 2, 5, 1, 0, 8] _ _ hr (by omega) rfl (by omega) (by omega)).mono ?_
  rintro e w1 ⟨m0, hm0, rfl, hr1, ht1⟩
  have hm : 0 ≤ m0 ∧ m0 ≤ 8 := by
    simp only [List.mem_cons, List.not_mem_nil, or_false] at hm0; omega
  clear hm0
  go_wp2_with fail
  go_loopw [3, 4] (fun o i wr => ∃ (m : Int) (s : ByteArray) (p' : Nat), 0 ≤ m ∧ m ≤ 8 ∧ s.size + 41 * m ≤ 328 ∧ i = .int .i64 m ∧ o = .string s ∧ p ≤ p' ∧ p' + m ≤ p + 9 ∧ Rd wr R p' ∧ Touch R w wr) (fun _ i _ => (intOf i).toNat)
  case atStart => exact ⟨m0, _, p + 1, hm.1, hm.2, by rw [hs0]; omega, rfl, rfl, by omega, by omega, hr1, ht1⟩
  case round =>
    obtain ⟨m, s, p', hm0, hm8, hsz, rfl, rfl, hp1, hp2, hrd, ht⟩ := hrel
    by_cases hmp : 0 < m
    · go_wp2_with fail
      refine (of_lit R p' 10 41 _ _ _ hrd (by omega) (by omega) (by omega) (by decide)).mono ?_
      rintro e w2 ⟨s2, p2, rfl, g2, f2, k2, hr2, ht2⟩
      have hap : (s ++ s2).size = s.size + s2.size := ByteArray.size_append
      go_wp2
      go_roundw
      case rel => exact ⟨m - 1, _, p2, by omega, by omega, by rw [hap]; omega, rfl, rfl, by omega, by omega, hr2, ht.trans ht2⟩
      case measure => simp [intOf]; omega
    · have hm0' : m = 0 := by omega
      subst hm0'
      have hs2 : s.size ≤ 328 := by omega
      clear hsz hmp
      go_wp2_with fail
      refine (pick_any R p' 40 _ hrd (by omega) (by omega)).mono ?_
      rintro e w3 ⟨q, rfl, hq, hr3, ht3⟩
      by_cases q0 : q = 0
      · have e0 : ((q : Int) == 0) = true := by rw [q0]; rfl
        clear q0 hq
        go_wp2_with fail
        go_loop [3] (fun o => ∃ s : ByteArray, s.size ≤ 400 ∧ o = .string s) (fun o => 1000 - Lib.strSize o)
        case atStart => exact ⟨s, by omega, rfl⟩
        case round =>
          obtain ⟨s', hs', rfl⟩ := hrel
          by_cases h300 : s'.size ≤ 300
          · have hap : (s' ++ ByteArray.mk #[48, 49, 50, 51, 52, 53, 54, 55, 56, 57]).size = s'.size + 10 := by rw [ByteArray.size_append, hs10]
            go_wp2
            go_round
            case rel => exact ⟨_, by rw [hap]; omega, rfl⟩
            case measure => rw [Lib.strSize_string, Lib.strSize_string, hap]; omega
          · go_wp2
            go_ret
            exact ⟨s', p' + 1, rfl, hs', by omega, by omega, hr3, ht.trans ht3⟩
      · have e0 : ((q : Int) == 0) = false := by rw [beq_eq_false_iff_ne]; omega
        clear q0 hq
        go_wp2
        go_ret
        exact ⟨s, p' + 1, rfl, by omega, by omega, by omega, hr3, ht.trans ht3⟩
set_option maxRecDepth 100000 in
set_option maxHeartbeats 1000000 in
theorem drawEncodeQuoted_any (a : Option Addr) (n c : Nat) (w : World) (hc : Code w a n) (hnc : n ≤ c) (hm : c ≤ maxLen) :
    Calls Tryd.prog 19 #[.slice a n c] w (DrawnStr 400 w) := by
  go_enter Tryd.func19, Tryd.ntmps19
  go_wp2_with fail
  refine (open_any a n c w hc hnc hm).mono ?_
  rintro e w1 ⟨R, rfl, hR, hr1, hb1⟩
  go_wp2_with fail
  refine (l5Draw_any R 0 w1 hr1 (by omega)).mono ?_
  rintro e w2 ⟨s2, p2, rfl, g2, f2, k2, hr2, ht2⟩
  go_wp2
  go_ret
  exact ⟨s2, rfl, g2, after_open hb1 hR ht2⟩
set_option maxRecDepth 100000 in
set_option maxHeartbeats 1000000 in
theorem drawBestCode_any (a : Option Addr) (n c : Nat) (w : World) (hc : Code w a n) (hnc : n ≤ c) (hm : c ≤ maxLen) :
    Calls Tryd.prog 27 #[.slice a n c] w (DrawnStr 400 w) := by
  go_enter Tryd.func27, Tryd.ntmps27
  go_wp2_with fail
  refine (open_any a n c w hc hnc hm).mono ?_
  rintro e w1 ⟨R, rfl, hR, hr1, hb1⟩
  go_wp2_with fail
  refine (l5Draw_any R 0 w1 hr1 (by omega)).mono ?_
  rintro e w2 ⟨s2, p2, rfl, g2, f2, k2, hr2, ht2⟩
  go_wp2
  go_ret
  exact ⟨s2, rfl, g2, after_open hb1 hR ht2⟩
/-- Bytes and a way are drawn. -/
def DrawnWay (w : World) (e : Ending) (w' : World) : Prop := ∃ (s : ByteArray) (k : Int), e = .returned (.tuple #[.string s, .int .i64 k]) ∧ s.size ≤ 400 ∧ 0 ≤ k ∧ k ≤ 3 ∧ Below w.heap.size w w'
set_option maxRecDepth 100000 in
set_option maxHeartbeats 1000000 in
theorem drawEncodeBytes_any (a : Option Addr) (n c : Nat) (w : World) (hc : Code w a n) (hnc : n ≤ c) (hm : c ≤ maxLen) :
    Calls Tryd.prog 34 #[.slice a n c] w (DrawnWay w) := by
  go_enter Tryd.func34, Tryd.ntmps34
  go_wp2_with fail
  refine (open_any a n c w hc hnc hm).mono ?_
  rintro e w1 ⟨R, rfl, hR, hr1, hb1⟩
  go_wp2_with fail
  refine (l5Draw_any R 0 w1 hr1 (by omega)).mono ?_
  rintro e w2 ⟨s2, p2, rfl, g2, f2, k2, hr2, ht2⟩
  go_wp2_with fail
  refine (numC_lit R p2 5 [0, 1, 2, 0, 3] _ _ hr2 (by omega) rfl (by omega) (by omega)).mono ?_
  rintro e w3 ⟨k, hk, rfl, hr3, ht3⟩
  have hk3 : 0 ≤ k ∧ k ≤ 3 := by
    simp only [List.mem_cons, List.not_mem_nil, or_false] at hk; omega
  go_wp2
  go_ret2
  exact ⟨s2, k, rfl, g2, hk3.1, hk3.2, after_open hb1 hR (ht2.trans ht3)⟩
theorem encB_small (b : List UInt8) : ((encB b).getD []).length ≤ 500 ∧ ∀ x ∈ (encB b).getD [], x.length ≤ 40 := by
  by_cases h : b.length ≤ 300
  · rw [encB_in h]
    have hl : (b64 b).length ≤ 400 := by rw [b64_len]; omega
    have := chop_count _ _ hl
    exact ⟨by show (chop _).length ≤ _; omega, this.2⟩
  · rw [encB_out (by omega)]; simp
theorem encQ_small (b : List UInt8) : ((encQ b).getD []).length ≤ 500 ∧ ∀ x ∈ (encQ b).getD [], x.length ≤ 40 := by
  by_cases h : b.length ≤ 300
  · rw [encQ_in h]
    have := (qgo_count b []).1
    exact ⟨by show (qgo [] b).length ≤ _; omega, fun x hx => (qgo_text hx).2⟩
  · rw [encQ_out (by omega)]; simp
theorem ownL_cases {B : Nat} {v : Value} {xs : List (List UInt8)} {w : World} (h : OwnL B v xs w) (h0 : xs.length ≠ 0) : ∃ g cap, v = .slice (some ⟨g, 0, none⟩) xs.length cap ∧ B ≤ g := by
  have ho := h
  unfold OwnL at ho
  rcases ho.2 with ⟨_, h0'⟩ | ⟨g, cap, cur, rfl, hBg, _⟩
  · exact absurd h0' h0
  · exact ⟨g, cap, rfl, hBg⟩
theorem ownL_touch {B R : Nat} {v : Value} {xs : List (List UInt8)} {w w' : World} (h : OwnL B v xs w) (t : Touch R w w') (hR : R < B) : OwnL B v xs w' := by
  refine ⟨h.1, ?_⟩
  rcases h.2 with hn | ⟨g, cap, cur, hv, hg1, hg2, rest⟩
  · exact .inl hn
  · have hglt : g < w.heap.size := by
      rcases Nat.lt_or_ge g w.heap.size with h' | h'
      · exact h'
      · simp [Array.getElem?_eq_none h'] at hg2
    exact .inr ⟨g, cap, cur, hv, hg1, by rw [t.block g hglt (by omega), hg2], rest⟩
/-- What a row of texts has where a text is put. -/
theorem ownL_put {B g cap k : Nat} {xs : List (List UInt8)} {w : World} (h : OwnL B (.slice (some ⟨g, 0, none⟩) xs.length cap) xs w) (hk : k < xs.length) (y : ByteArray) :
    w.cell? ⟨g, k, none⟩ = some (.string (str xs[k])) ∧ w.frozen? ⟨g, k, none⟩ = false ∧
    OwnL B (.slice (some ⟨g, 0, none⟩) xs.length cap) (xs.set k y.data.toList) (w.setCell ⟨g, k, none⟩ (.string y)) := by
  have hw := h
  unfold OwnL at hw
  refine ⟨?_, hw.frozenAt _, ?_⟩
  · have := hw.cells (g := g) rfl k _ (List.getElem?_eq_getElem (by simpa using hk))
    rw [add0] at this; rw [this, List.getElem_map]; rfl
  · have hs := (hw.stored k (.string y)).1
    unfold OwnL
    rw [List.map_set, List.length_set]
    have e : strV y.data.toList = .string y := by unfold strV; rw [str_of]
    rw [e]; exact hs
/-- Lines are drawn; nothing that was there turns. -/
def DrawnLines (w : World) (e : Ending) (w' : World) : Prop := ∃ (v : Value) (xs : List (List UInt8)), e = .returned v ∧ OwnL w.heap.size v xs w' ∧ xs.length ≤ 1000 ∧ (∀ x ∈ xs, x.length ≤ 303) ∧ Below w.heap.size w w'
set_option maxRecDepth 100000 in
set_option maxHeartbeats 1000000 in
theorem drawDecodeQuoted_any (a : Option Addr) (n c : Nat) (w : World) (hc : Code w a n) (hnc : n ≤ c) (hm : c ≤ maxLen) :
    Calls Tryd.prog 25 #[.slice a n c] w (DrawnLines w) := by
  go_enter Tryd.func25, Tryd.ntmps25
  go_wp2_with fail
  refine (open_any a n c w hc hnc hm).mono ?_
  rintro e w1 ⟨R, rfl, hR, hr1, hb1⟩
  have hRl := hr1.lt
  have hs1 := hb1.size
  go_wp2_with fail
  refine (l5Draw_any R 0 w1 hr1 (by omega)).mono ?_
  rintro e w2 ⟨s2, p2, rfl, g2, f2, k2, hr2, ht2⟩
  have hs2 := ht2.size
  go_wp2_with fail
  refine (encodeQuotedS_any s2 w2 (by omega)).mono ?_
  rintro e w3 ⟨v3, rfl, ho3, hb3⟩
  have hs3 := hb3.size
  have ht3 : Touch R w1 w3 := ht2.ext (hb3.mono hs2)
  have hr3 := hr2.below hb3
  have hB := after_open hb1 hR ht3
  obtain ⟨hxl, hxs⟩ := encQ_small s2.data.toList
  generalize (encQ s2.data.toList).getD [] = xs at *
  have HXS : Hid (∀ p ∈ xs, p.length ≤ 300) := fun p hp => Nat.le_trans (hxs p hp) (by omega)
  have HO3 := Lib.hid ho3
  clear hxs
  by_cases h0 : xs.length = 0
  · obtain ⟨a3, c3, rfl, _, _⟩ := ho3.read
    have hz : ¬ ((0 : Int) < (xs.length : Int)) := by omega
    have h0i : ((xs.length : Nat) : Int) = 0 := by omega
    have HLE : Hid (xs.length ≤ 1000) := by show _ ≤ _; omega
    clear ho3 hxl
    go_wp2
    go_ret
    exact ⟨_, xs, rfl, by first | exact HO3.out.base (by omega) | (have := HO3.out; rw [h0] at this; exact this.base (by omega)), HLE.out, (fun p hp => Nat.le_trans (HXS.out p hp) (by omega)), hB⟩
  · obtain ⟨g, cap, rfl, hBg⟩ := ownL_cases ho3 h0
    have hpos : (0 : Int) < (xs.length : Int) := by omega
    clear ho3
    go_wp2_with fail
    refine (pick_any R p2 xs.length w3 hr3 (by omega) (by omega)).mono ?_
    rintro e w6 ⟨k, rfl, hk, hr6, ht6⟩
    have hkx : k < xs.length := by omega
    have hs6 := ht6.size
    have hO6 := ownL_touch HO3.out ht6 (by omega)
    obtain ⟨c6, _, _⟩ := ownL_put hO6 hkx ⟨#[]⟩
    have hzk : (str xs[k]).size ≤ 300 := by rw [str_size]; exact HXS.out _ (List.getElem_mem hkx)
    have hki : (k : Int) < (xs.length : Int) := by omega
    have hk0 : (0 : Int) ≤ (k : Int) := by omega
    have HO6 := Lib.hid hO6
    have HKX := Lib.hid hkx
    generalize str xs[k] = s6 at *
    clear hO6
    go_wp2_with fail
    refine (bend_lit R (p2 + 1) 6 3 _ _ s6 w6 hr6 (by omega) (by omega) (by omega) (by omega) (by omega) (by decide)).mono ?_
    rintro e w7 ⟨y, p7, rfl, g7, f7, k7, hr7, ht7⟩
    have hT7 := ht6.trans ht7
    have hs7 := ht7.size
    obtain ⟨c7, z7, hst⟩ := ownL_put (ownL_touch HO6.out ht7 (by omega)) HKX.out y
    have HST := Lib.hid hst
    have HB7 : Hid (Below w.heap.size w (w7.setCell ⟨g, k, none⟩ (.string y))) :=
      (after_open hb1 hR (ht3.trans hT7)).setCell (by show w.heap.size ≤ g; omega) _
    have hly : (xs.set k y.data.toList).length ≤ 1000 := by rw [List.length_set]; omega
    have HYS : Hid (∀ p ∈ xs.set k y.data.toList, p.length ≤ 303) := fun p hp => by
      rcases List.mem_or_eq_of_mem_set hp with h | h
      · exact Nat.le_trans (HXS.out p h) (by omega)
      · rw [h, size_list]; omega
    have HL : Hid ((xs.set k y.data.toList).length = xs.length) := List.length_set
    clear hst
    generalize xs.set k y.data.toList = ys at *
    generalize str xs[k] = q7 at *
    go_wp2
    go_ret
    exact ⟨_, ys, rfl, HST.out.base (by omega), hly, HYS.out, HB7.out⟩
end Go.Proofs.YtjnpkmenlecdmabDoor
