/-
  Draws of chapter 1: lists of texts. No statement is proved here.
-/
import Derived.Test.YtjnpkmenlecdmaaDoorDraw1
import Derived.Test.YtjnpkmenlecdmaaDoorJoin
namespace Go.Proofs.YtjnpkmenlecdmaaDoor
open Go.RowKit

theorem OwnL.touch {B R : Nat} {v : Value} {xs : List (List UInt8)} {w w' : World} (h : OwnL B v xs w) (t : Touch R w w') (hR : R < B) : OwnL B v xs w' := by
  refine ⟨h.1, ?_⟩
  rcases h.2 with hn | ⟨g, cap, cur, hv, hg1, hg2, rest⟩
  · exact .inl hn
  · refine .inr ⟨g, cap, cur, hv, hg1, ?_, rest⟩
    have hglt : g < w.heap.size := by
      rcases Nat.lt_or_ge g w.heap.size with h' | h'
      · exact h'
      · simp [Array.getElem?_eq_none h'] at hg2
    rw [t.block g hglt (by omega), hg2]
/-- A list of at most four short texts, drawn. -/
def DrawnL (R p : Nat) (w : World) (e : Ending) (w' : World) : Prop := ∃ (v : Value) (xs : List (List UInt8)) (p' : Nat), e = .returned v ∧ OwnL w.heap.size v xs w' ∧ xs.length ≤ 4 ∧ (∀ x ∈ xs, x.length ≤ 10) ∧ p ≤ p' ∧ p' ≤ p + 5 ∧ Rd w' R p' ∧ Touch R w w'
set_option maxRecDepth 100000 in
set_option maxHeartbeats 2000000 in
theorem l1List_any (R p : Nat) (w : World) (hr : Rd w R p) (hp : p ≤ 999999000) : Calls Tryd.prog 42 #[.pointer (some ⟨R, 0, none⟩)] w (DrawnL R p w) := by
  obtain ⟨i0, hi, hz0, hz1, hz2⟩ := info_parts sInfo
  have hRl := hr.lt
  have hA1 : Below w.heap.size w (w.alloc (.cells #[] 9)) := (Below.refl _ _).alloc (Nat.le_refl _) _
  have hA2 : Below w.heap.size w ((w.alloc (.cells #[] 9)).alloc (.cells #[.int .i64 2, .int .i64 3, .int .i64 1, .int .i64 0, .int .i64 4] 3)) := hA1.alloc (by simp) _
  go_enter Tryd.func42, Tryd.ntmps42
  go_wp2_with fail
  refine (num_any R p (w.heap.size + 1) 0 5 5 [2, 3, 1, 0, 4] _ (hr.below hA2) (by omega) (by omega) (by simp) (by omega) (by omega) rfl (fun i hi => ?_)).mono ?_
  · rcases (by simp at hi; omega : i = 0 ∨ i = 1 ∨ i = 2 ∨ i = 3 ∨ i = 4) with rfl | rfl | rfl | rfl | rfl <;> (rw [World.cell?_alloc_at _ _ _ _ (by simp)]; rfl)
  rintro e w1 ⟨m0, hm0, rfl, hr1, ht1⟩
  have hm : 0 ≤ m0 ∧ m0 ≤ 4 := by
    simp only [List.mem_cons, List.not_mem_nil, or_false] at hm0; omega
  have hT1 : Touch R w w1 := (Touch.of_below hA2).trans ht1
  have hO1 : OwnL w.heap.size (.slice (some ⟨w.heap.size, 0, none⟩) 0 0) [] w1 := ((OwnL.empty w).keep ((Below.refl _ _).alloc (Nat.le_refl _) _)).touch ht1 hRl
  clear hm0
  go_wp2_with fail
  go_loopw [3, 4] (fun v i wr => ∃ (m : Int) (acc : List (List UInt8)) (p' : Nat), 0 ≤ m ∧ m + acc.length ≤ 4 ∧ i = .int .i64 m ∧ p ≤ p' ∧ p' + m ≤ p + 5 ∧ OwnL w.heap.size v acc wr ∧ (∀ x ∈ acc, x.length ≤ 10) ∧ Rd wr R p' ∧ Touch R w wr) (fun _ i _ => (intOf i).toNat)
  case atStart => exact ⟨m0, [], p + 1, hm.1, by simp; omega, rfl, by omega, by omega, hO1, by simp, hr1, hT1⟩
  case round =>
    obtain ⟨m, acc, p', hm0, hml, rfl, hp1, hp2, hown, hacc, hrd, ht⟩ := hrel
    have HACC := Lib.hid hacc
    clear hacc
    by_cases hmp : 0 < m
    · go_wp2_with fail
      refine (l1Draw_any R p' _ hrd (by omega)).mono ?_
      rintro e w2 ⟨s2, p2, rfl, g2, f2, k2, hr2, ht2⟩
      have hown1 := hown.touch ht2 hRl
      unfold OwnL at hown1
      have hT2 := ht.trans ht2
      have hsz := hT2.size
      go_wp2_with (at_builtin; refine wpList_append_own _ rfl _ _ 29 rfl w.heap.size 9 i0 (.string ⟨#[]⟩) 1 16 Tryd.underlying29 hi hz0 hz1 hz2 rfl (by decide) _ _ _ rfl (hown1.alloc _) ⟨w2.heap.size, 0, none⟩ 1 1 [.string s2] rfl rfl ?c1 ?c2 ?c3 ?c4 ?c5 ?_)
      case c1 =>
        intro u v hj
        match u, hj with
        | 0, hj => simp at hj; subst hj; simp [Addr.add]
      case c2 => intro u hu; simp at hu; subst hu; rfl
      case c3 => unfold maxLen; omega
      case c4 => omega
      case c5 => simp; omega
      intro v' w3 hown' hgrow _
      have hO3 : OwnL w.heap.size v' (acc ++ [s2.data.toList]) w3 := by unfold OwnL; simpa [strV, str_of] using hown'
      have hb3 : Below w.heap.size w2 w3 := ((Below.refl _ _).alloc (by omega) _).grown hgrow (by simp; omega) (fun k hk => (hown1.lt k hk).1)
      go_wp2
      go_roundw
      case rel => exact ⟨m - 1, _, p2, by omega, by simp; omega, rfl, by omega, by omega, hO3, (fun x hx => by
        rcases List.mem_append.1 hx with h | h
        · exact HACC.out x h
        · rw [List.mem_singleton.1 h, size_list]; exact g2), hr2.belowB hb3 hRl, hT2.ext hb3⟩
      case measure => simp [intOf]; omega
    · go_wp2
      go_ret
      exact ⟨_, acc, p', rfl, hown, by omega, HACC.out, hp1, by omega, hrd, ht⟩
/-- A list of at most five short texts is drawn; nothing that was there turns. -/
def DrawnList (w : World) (e : Ending) (w' : World) : Prop := ∃ (v : Value) (xs : List (List UInt8)), e = .returned v ∧ OwnL w.heap.size v xs w' ∧ xs.length ≤ 5 ∧ (∀ x ∈ xs, x.length ≤ 10) ∧ Below w.heap.size w w'
set_option maxRecDepth 100000 in
set_option maxHeartbeats 2000000 in
theorem drawJoinWords_any (a : Option Addr) (n c : Nat) (w : World) (hc : Code w a n) (hnc : n ≤ c) (hm : c ≤ maxLen) :
    Calls Tryd.prog 23 #[.slice a n c] w (DrawnList w) := by
  obtain ⟨i0, hi, hz0, hz1, hz2⟩ := info_parts sInfo
  go_enter Tryd.func23, Tryd.ntmps23
  go_wp2_with fail
  refine (open_any a n c w hc hnc hm).mono ?_
  rintro e w1 ⟨R, rfl, hR, hr1, hb1⟩
  go_wp2_with fail
  refine (l1List_any R 0 w1 hr1 (by omega)).mono ?_
  rintro e w2 ⟨v, xs, p2, rfl, ho2, hl2, hx2, f2, k2, hr2, ht2⟩
  go_wp2_with fail
  refine (pick_any R p2 16 w2 hr2 (by omega) (by omega)).mono ?_
  rintro e w3 ⟨k, rfl, hk, hr3, ht3⟩
  have hRl := hr1.lt
  have hO3 := ho2.touch ht3 hRl
  have hB3 := after_open hb1 hR (ht2.trans ht3)
  have hs1 := hb1.size
  have hs2 := ht2.size
  have hs3 := ht3.size
  by_cases hk0 : k = 0
  · have e0 : ((k : Int) == 0) = true := by rw [hk0]; rfl
    have hown1 := hO3
    unfold OwnL at hown1
    clear hk0 hk
    go_wp2_with (at_builtin; refine wpList_append_own _ rfl _ _ 29 rfl w1.heap.size 9 i0 (.string ⟨#[]⟩) 1 16 Tryd.underlying29 hi hz0 hz1 hz2 rfl (by decide) _ _ _ rfl (hown1.alloc _) ⟨w3.heap.size, 0, none⟩ 1 1 [.string ⟨#[10]⟩] rfl rfl ?c1 ?c2 ?c3 ?c4 ?c5 ?_)
    case c1 =>
      intro u v hj
      match u, hj with
      | 0, hj => simp at hj; subst hj; simp [Addr.add]
    case c2 => intro u hu; simp at hu; subst hu; rfl
    case c3 => unfold maxLen; omega
    case c4 => omega
    case c5 => simp; omega
    intro v' w4 hown' hgrow _
    have hO4 : OwnL w1.heap.size v' (xs ++ [[10]]) w4 := by unfold OwnL; simpa [strV, str] using hown'
    have hb4 : Below w.heap.size w3 w4 := ((Below.refl _ _).alloc (by omega) _).grown hgrow (by simp; omega) (fun k hk => by have := (hown1.lt k hk).1; omega)
    go_wp2
    go_ret
    exact ⟨_, _, rfl, hO4.base hs1, by simp; omega, (fun x hx => by
      rcases List.mem_append.1 hx with h | h
      · exact hx2 x h
      · rw [List.mem_singleton.1 h]; decide), hB3.trans hb4⟩
  · have e0 : ((k : Int) == 0) = false := by simpa using hk0
    clear hk0 hk
    go_wp2
    go_ret
    exact ⟨_, xs, rfl, hO3.base hs1, by omega, hx2, hB3⟩
set_option maxRecDepth 100000 in
set_option maxHeartbeats 2000000 in
theorem drawSplitWords_any (a : Option Addr) (n c : Nat) (w : World) (hc : Code w a n) (hnc : n ≤ c) (hm : c ≤ maxLen) :
    Calls Tryd.prog 28 #[.slice a n c] w (DrawnStr 300 w) := by
  go_enter Tryd.func28, Tryd.ntmps28
  go_wp2_with fail
  refine (open_any a n c w hc hnc hm).mono ?_
  rintro e w1 ⟨R, rfl, hR, hr1, hb1⟩
  go_wp2_with fail
  refine (l1List_any R 0 w1 hr1 (by omega)).mono ?_
  rintro e w2 ⟨v, xs, p2, rfl, ho2, hl2, hx2, f2, k2, hr2, ht2⟩
  obtain ⟨x, k, rfl, hrd, _⟩ := ho2.read
  go_wp2_with fail
  refine (joinWordsS_any x xs.length k xs _ hrd (by omega) (fun j hj => by have := hx2 _ (List.getElem_mem hj); omega)).mono ?_
  rintro e w3 ⟨rfl, hb3⟩
  have hjs : (str (joinW xs)).size ≤ 200 := by
    rw [str_size]; unfold joinW; split
    · rename_i h; rw [Bool.and_eq_true, decide_eq_true_eq] at h; exact h.2
    · simp
  go_wp2_with fail
  refine (bend_lit R p2 6 1 _ _ _ w3 (hr2.below hb3) (by omega) (by omega) (by omega) (by omega) (by omega) (by decide)).mono ?_
  rintro e w4 ⟨s4, p4, rfl, g4, f4, k4, hr4, ht4⟩
  go_wp2
  go_ret
  exact ⟨s4, rfl, by omega, after_open hb1 hR (ht2.trans ((Touch.of_below hb3).trans ht4))⟩
set_option maxRecDepth 100000 in
set_option maxHeartbeats 2000000 in
theorem mwTexts_any (a1 a2 : Option Addr) (n1 c1 n2 c2 : Nat) (xs ys : List (List UInt8)) (w : World) (h1 : RdL w a1 n1 xs) (h2 : RdL w a2 n2 ys) (hn1 : n1 ≤ maxLen) (hn2 : n2 ≤ maxLen) :
    Calls Tryd.prog 27 #[.slice a1 n1 c1, .slice a2 n2 c2] w fun e w' => e = .returned (.bool (decide (xs = ys))) ∧ Below w.heap.size w w' := by
  unfold maxLen at hn1 hn2
  obtain ⟨l1, r1⟩ := h1
  obtain ⟨l2, r2⟩ := h2
  have L1 := Lib.hid l1
  have L2 := Lib.hid l2
  by_cases hn : n1 = n2
  · subst hn
    have e1 : ((n1 : Int) != (n1 : Int)) = false := by simp
    by_cases h0 : n1 = 0
    · have hxy : Hid (xs = ys) := by show xs = ys; rw [List.length_eq_zero_iff.1 (l1.trans h0), List.length_eq_zero_iff.1 (l2.trans h0)]
      subst h0
      clear l1 l2 r1 r2
      go_enter Tryd.func27, Tryd.ntmps27
      go_wp2_with fail
      go_loop [5] (fun i => i = .int .i64 0) (fun _ => 0)
      case atStart => rfl
      case round =>
        subst hrel
        go_wp2
        go_ret
        exact ⟨ret_bool (decide_eq_true hxy.out).symm, Below.refl _ _⟩
    · obtain ⟨b1, o1, rfl, hb1, x1⟩ := r1.resolve_left h0
      obtain ⟨b2, o2, rfl, hb2, x2⟩ := r2.resolve_left h0
      have X1 := Lib.hid x1
      have X2 := Lib.hid x2
      clear l1 l2 r1 r2 x1 x2 h0
      go_enter Tryd.func27, Tryd.ntmps27
      go_wp2_with fail
      go_loopw [5] (fun i wr => ∃ k : Nat, k ≤ n1 ∧ i = .int .i64 k ∧ Below w.heap.size w wr ∧ xs.take k = ys.take k) (fun i _ => n1 - (intOf i).toNat)
      case atStart => exact ⟨0, Nat.zero_le _, rfl, Below.refl _ _, rfl⟩
      case round =>
        obtain ⟨k, hk, rfl, hb, htk⟩ := hrel
        have HTK := Lib.hid htk
        clear htk
        by_cases hlt : k < n1
        · have k1 : k < xs.length := by rw [L1.out]; exact hlt
          have k2 : k < ys.length := by rw [L2.out]; exact hlt
          have g1 : wr.cell? ⟨b1, o1 + k, none⟩ = some (.string (str xs[k])) := by rw [below_at hb hb1]; exact X1.out k k1
          have g2 : wr.cell? ⟨b2, o2 + k, none⟩ = some (.string (str ys[k])) := by rw [below_at hb hb2]; exact X2.out k k2
          by_cases hxy : xs[k] = ys[k]
          · have e3 : ((str xs[k]).toList == (str ys[k]).toList) = true := by rw [hxy]; simp
            have e4 : ((str xs[k]).toList != (str ys[k]).toList) = false := by rw [hxy]; simp
            have HN : Hid (xs.take (k + 1) = ys.take (k + 1)) := by show _ = _; rw [List.take_succ_eq_append_getElem k1, List.take_succ_eq_append_getElem k2, HTK.out, hxy]
            clear hxy
            go_wp2
            go_quiet (fail)
            go_wp2
            go_roundw
            case rel => exact ⟨k + 1, by omega, by go_num, below_drewN hb _, HN.out⟩
            case measure => simp [intOf]; omega
          · have hne : str xs[k] ≠ str ys[k] := fun e => hxy (by rw [← str_list xs[k], e, str_list])
            have e3 : ((str xs[k]).toList == (str ys[k]).toList) = false := by rw [beq_dec]; simpa using hne
            have e4 : ((str xs[k]).toList != (str ys[k]).toList) = true := by rw [bne, e3]; rfl
            have HN : Hid (xs ≠ ys) := by show _ ≠ _; intro e; subst e; exact hxy rfl
            clear hxy hne
            go_wp2
            go_quiet (fail)
            go_wp2
            go_ret
            exact ⟨ret_bool (decide_eq_false HN.out).symm, below_drewN hb _⟩
        · have HN : Hid (xs = ys) := by
            show xs = ys
            have h := HTK.out
            rw [List.take_of_length_le (by rw [L1.out]; omega), List.take_of_length_le (by rw [L2.out]; omega)] at h
            exact h
          go_wp2
          go_ret
          exact ⟨ret_bool (decide_eq_true HN.out).symm, hb⟩
  · have e1 : ((n1 : Int) != (n2 : Int)) = true := by rw [bne_iff_ne]; omega
    have HN : Hid (xs ≠ ys) := by show _ ≠ _; intro e; exact hn (by rw [← l1, ← l2, e])
    clear l1 l2 r1 r2
    go_enter Tryd.func27, Tryd.ntmps27
    go_wp2
    go_ret
    exact ⟨ret_bool (decide_eq_false HN.out).symm, Below.refl _ _⟩
end Go.Proofs.YtjnpkmenlecdmaaDoor
