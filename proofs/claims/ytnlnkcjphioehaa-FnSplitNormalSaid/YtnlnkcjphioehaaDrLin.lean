/-
  Draws of chapter 9: lines, texts with ends of all kinds. No statement is proved here.
-/
import Derived.Test.YtnlnkcjphioehaaDrawS
import Derived.Test.YtnlnkcjphioehaaLinS
namespace Go.Proofs.Ytnlnkcjphioehaa
open Go.RowKit

def short14 (x : List UInt8) : Bool := decide (x.length ≤ 14)
def short3 (x : List UInt8) : Bool := decide (x.length ≤ 3)
/-- At most five lines, drawn. -/
def DrawnL9 (R p : Nat) (w : World) (e : Ending) (w' : World) : Prop := ∃ (v : Value) (xs : List (List UInt8)) (p' : Nat), e = .returned v ∧ OwnL w.heap.size v xs w' ∧ xs.length ≤ 5 ∧ (∀ x ∈ xs, x.length ≤ 14) ∧ p ≤ p' ∧ p' ≤ p + 6 ∧ Rd w' R p' ∧ Touch R w w'
set_option maxRecDepth 100000 in
set_option maxHeartbeats 4000000 in
theorem l9Lines_any (R p : Nat) (w : World) (hr : Rd w R p) (hp : p ≤ 999999000) : Calls Try.prog 31 #[.pointer (some ⟨R, 0, none⟩)] w (DrawnL9 R p w) := by
  have hRl := hr.lt
  have hA1 : Below w.heap.size w (w.alloc (.cells #[] 9)) := (Below.refl _ _).alloc (Nat.le_refl _) _
  go_enter Try.func31, Try.ntmps31
  go_wp2_with fail
  refine (numS_lit R p 5 (w.heap.size + 1) [2, 3, 1, 0, 5] 3 _ (by simp) (hr.below hA1) (by omega) rfl (by omega) (by omega)).mono ?_
  rintro e w1 ⟨m0, hm0, rfl, hr1, ht1⟩
  have hm : 0 ≤ m0 ∧ m0 ≤ 5 := by
    simp only [List.mem_cons, List.not_mem_nil, or_false] at hm0; omega
  have hT1 : Touch R w w1 := (Touch.of_below hA1).trans ht1
  have hO1 : OwnL w.heap.size (.slice (some ⟨w.heap.size, 0, none⟩) 0 0) [] w1 := (OwnL.empty w).touch ht1 hRl
  clear hm0
  go_wp2_with fail
  go_loopw [3, 4] (fun v i wr => ∃ (m : Int) (acc : List (List UInt8)) (p' : Nat), 0 ≤ m ∧ m + acc.length ≤ 5 ∧ i = .int .i64 m ∧ p ≤ p' ∧ p' + m ≤ p + 6 ∧ OwnL w.heap.size v acc wr ∧ (∀ x ∈ acc, x.length ≤ 14) ∧ Rd wr R p' ∧ Touch R w wr) (fun _ i _ => (intOf i).toNat)
  case atStart => exact ⟨m0, [], p + 1, hm.1, by simp; omega, rfl, by omega, by omega, hO1, by simp, hr1, hT1⟩
  case round =>
    obtain ⟨m, acc, p', hm0, hml, rfl, hp1, hp2, hown, hacc, hrd, ht⟩ := hrel
    have HACC := Lib.hid hacc
    have HO := Lib.hid hown
    have hts := ht.size
    clear hacc hown
    obtain ⟨a3, c3, rfl, _, _, _, _⟩ := HO.out.readc
    by_cases hmp : 0 < m
    · go_wp2_with fail
      refine (of_litQ R p' 7 short14 _ _ wr hrd (by omega) (by omega) (by omega) (by decide +kernel)).mono ?_
      rintro e w2 ⟨s2, rfl, g2, hr2, ht2⟩
      have G2 : Hid (s2.data.toList.length ≤ 14) := by show _ ≤ _; unfold short14 at g2; simpa using g2
      have hT2 := ht.trans ht2
      have hsz := hT2.size
      have HO2 : Hid (OwnL w.heap.size (.slice a3 acc.length c3) acc (w2.alloc (.cells #[.string s2] 9))) := (HO.out.touch ht2 hRl).keep ((Below.refl _ _).alloc (Nat.le_refl _) _)
      clear g2
      go_wp2_with (at_builtin; refine wpList_append_1L rfl _ _ rfl w.heap.size _ acc s2 w2.heap.size rfl rfl (cell_new1 _ _ _) HO2.out ?c2 ?c3 ?_)
      case c2 => first | omega | (simp; omega)
      case c3 => first | omega | (simp; omega)
      intro v' w3 hO3 hgr _
      have hb3 : Below w.heap.size w2 w3 := ((Below.refl _ _).alloc (by omega) _).grown hgr (by simp; omega) (fun g hg => (HO2.out.lt g hg).1)
      go_wp2
      go_roundw
      case rel => exact ⟨m - 1, acc ++ [s2.data.toList], p' + 1, by omega, by simp; omega, rfl, by omega, by omega, hO3, (fun x hx => by
        rcases List.mem_append.1 hx with h | h
        · exact HACC.out x h
        · rw [List.mem_singleton.1 h]; exact G2.out), hr2.belowB hb3 hRl, hT2.ext hb3⟩
      case measure => simp [intOf]; omega
    · go_wp2
      go_ret
      exact ⟨_, acc, p', rfl, HO.out, by omega, HACC.out, hp1, by omega, hrd, ht⟩
set_option maxRecDepth 100000 in
set_option maxHeartbeats 2000000 in
theorem l9Text_any (R p : Nat) (w : World) (hr : Rd w R p) (hp : p ≤ 999999000) : Calls Try.prog 44 #[.pointer (some ⟨R, 0, none⟩)] w (Drawn R p 7 18 w) := by
  have hRl := hr.lt
  go_enter Try.func44, Try.ntmps44
  go_wp2_with fail
  refine (numS_lit R p 5 w.heap.size [4, 3, 6, 1, 0] 3 _ rfl hr (by omega) rfl (by omega) (by omega)).mono ?_
  rintro e w1 ⟨m0, hm0, rfl, hr1, ht1⟩
  have hm : 0 ≤ m0 ∧ m0 ≤ 6 := by
    simp only [List.mem_cons, List.not_mem_nil, or_false] at hm0; omega
  clear hm0
  go_wp2_with fail
  go_loopw [3, 4] (fun o i wr => ∃ (m : Int) (O : ByteArray) (p' : Nat), 0 ≤ m ∧ O.size + 3 * m ≤ 18 ∧ i = .int .i64 m ∧ o = .string O ∧ p ≤ p' ∧ p' + m ≤ p + 7 ∧ Rd wr R p' ∧ Touch R w wr) (fun _ i _ => (intOf i).toNat)
  case atStart => exact ⟨m0, ⟨#[]⟩, p + 1, hm.1, by have : (ByteArray.mk #[]).size = 0 := rfl; omega, rfl, rfl, by omega, by omega, hr1, ht1⟩
  case round =>
    obtain ⟨m, O, p', hm0, hml, rfl, rfl, hp1, hp2, hrd, ht⟩ := hrel
    by_cases hmp : 0 < m
    · go_wp2_with fail
      refine (of_litQ R p' 6 short3 _ _ wr hrd (by omega) (by omega) (by omega) (by decide +kernel)).mono ?_
      rintro e w2 ⟨s2, rfl, g2, hr2, ht2⟩
      have hz2 : s2.size ≤ 3 := by unfold short3 at g2; simpa [size_list] using g2
      have hT2 := ht.trans ht2
      have hOz : O.size ≤ 18 := by omega
      clear g2
      go_wp2
      go_roundw
      case rel => exact ⟨m - 1, O ++ s2, p' + 1, by omega, by simp [ByteArray.size_append]; omega, rfl, rfl, by omega, by omega, hr2, hT2⟩
      case measure => simp [intOf]; omega
    · go_wp2
      go_ret
      exact ⟨O, p', rfl, by omega, by omega, by omega, hrd, ht⟩
/-- At most five lines, in memory laid anew. -/
def DrawnL5 (w : World) (e : Ending) (w' : World) : Prop := ∃ (v : Value) (xs : List (List UInt8)), e = .returned v ∧ OwnL w.heap.size v xs w' ∧ xs.length ≤ 5 ∧ (∀ x ∈ xs, x.length ≤ 14) ∧ Below w.heap.size w w'
set_option maxRecDepth 100000 in
set_option maxHeartbeats 400000 in
theorem drawStuffLines_any (a : Option Addr) (n c : Nat) (w : World) (hc : Code w a n) (hnc : n ≤ c) (hm : c ≤ maxLen) :
    Calls Try.prog 15 #[.slice a n c] w (DrawnL5 w) := by
  go_enter Try.func15, Try.ntmps15
  go_wp2_with fail
  refine (open_any a n c w hc hnc hm).mono ?_
  rintro e w1 ⟨R, rfl, hR, hr1, hb1⟩
  go_wp2_with fail
  refine (l9Lines_any R 0 w1 hr1 (by omega)).mono ?_
  rintro e w2 ⟨v, xs, p', rfl, ho, hl, hx, _, _, hr2, ht2⟩
  have hb2 := after_open hb1 hR ht2
  go_wp2
  go_ret
  exact ⟨v, xs, rfl, ho.base hb1.size, hl, hx, hb2⟩
set_option maxRecDepth 100000 in
set_option maxHeartbeats 400000 in
theorem drawNormalText_any (a : Option Addr) (n c : Nat) (w : World) (hc : Code w a n) (hnc : n ≤ c) (hm : c ≤ maxLen) :
    Calls Try.prog 22 #[.slice a n c] w (DrawnStr 18 w) := by
  go_enter Try.func22, Try.ntmps22
  go_wp2_with fail
  refine (open_any a n c w hc hnc hm).mono ?_
  rintro e w1 ⟨R, rfl, hR, hr1, hb1⟩
  go_wp2_with fail
  refine (l9Text_any R 0 w1 hr1 (by omega)).mono ?_
  rintro e w2 ⟨s2, p2, rfl, g2, f2, k2, hr2, ht2⟩
  go_wp2
  go_ret
  exact ⟨s2, rfl, by omega, after_open hb1 hR ht2⟩
set_option maxRecDepth 100000 in
set_option maxHeartbeats 400000 in
theorem drawCountBare_any (a : Option Addr) (n c : Nat) (w : World) (hc : Code w a n) (hnc : n ≤ c) (hm : c ≤ maxLen) :
    Calls Try.prog 26 #[.slice a n c] w (DrawnStr 18 w) := by
  go_enter Try.func26, Try.ntmps26
  go_wp2_with fail
  refine (open_any a n c w hc hnc hm).mono ?_
  rintro e w1 ⟨R, rfl, hR, hr1, hb1⟩
  go_wp2_with fail
  refine (l9Text_any R 0 w1 hr1 (by omega)).mono ?_
  rintro e w2 ⟨s2, p2, rfl, g2, f2, k2, hr2, ht2⟩
  go_wp2
  go_ret
  exact ⟨s2, rfl, by omega, after_open hb1 hR ht2⟩
set_option maxRecDepth 100000 in
set_option maxHeartbeats 400000 in
theorem drawSplitWire_any (a : Option Addr) (n c : Nat) (w : World) (hc : Code w a n) (hnc : n ≤ c) (hm : c ≤ maxLen) :
    Calls Try.prog 28 #[.slice a n c] w (DrawnStr 18 w) := by
  go_enter Try.func28, Try.ntmps28
  go_wp2_with fail
  refine (open_any a n c w hc hnc hm).mono ?_
  rintro e w1 ⟨R, rfl, hR, hr1, hb1⟩
  go_wp2_with fail
  refine (l9Text_any R 0 w1 hr1 (by omega)).mono ?_
  rintro e w2 ⟨s2, p2, rfl, g2, f2, k2, hr2, ht2⟩
  go_wp2
  go_ret
  exact ⟨s2, rfl, by omega, after_open hb1 hR ht2⟩
set_option maxRecDepth 100000 in
set_option maxHeartbeats 1000000 in
theorem drawUnstuffText_any (a : Option Addr) (n c : Nat) (w : World) (hc : Code w a n) (hnc : n ≤ c) (hm : c ≤ maxLen) :
    Calls Try.prog 20 #[.slice a n c] w (DrawnStr 2100 w) := by
  go_enter Try.func20, Try.ntmps20
  go_wp2_with fail
  refine (open_any a n c w hc hnc hm).mono ?_
  rintro e w1 ⟨R, rfl, hR, hr1, hb1⟩
  go_wp2_with fail
  refine (l9Lines_any R 0 w1 hr1 (by omega)).mono ?_
  rintro e w2 ⟨v, xs, p', rfl, ho, hl, hx, _, hp, hr2, ht2⟩
  obtain ⟨a2, c2, rfl, hrd, _⟩ := ho.read
  have HS := Lib.hid (stuffLinesS_any a2 xs.length c2 xs w2 hrd (by omega) (fun x h => by have := hx x h; omega))
  have hz : (str ((stuW xs).getD [])).size ≤ 2000 := by
    rw [str_size]
    cases h : stuW xs with
    | none => simp
    | some s => exact (stuW_some h).2.2
  clear hrd ho hx
  generalize str ((stuW xs).getD []) = S at *
  generalize (stuW xs).isSome = ok at *
  go_wp2_with fail
  refine HS.out.mono ?_
  rintro e w3 ⟨rfl, rfl⟩
  clear HS
  go_wp2_with fail
  refine (of_lit R p' 4 6 _ _ w2 hr2 (by omega) (by omega) (by omega) (by decide)).mono ?_
  rintro e w3 ⟨s3, p3, rfl, g3, f3, k3, hr3, ht3⟩
  go_wp2_with fail
  refine (bend_lit R p3 5 2 _ _ _ w3 hr3 (by omega) (by omega) (by omega) (by simp [ByteArray.size_append]; omega) (by omega) (by decide)).mono ?_
  rintro e w4 ⟨s4, p4, rfl, g4, f4, k4, hr4, ht4⟩
  go_wp2
  go_ret
  exact ⟨s4, rfl, by simp [ByteArray.size_append] at g4; omega, after_open hb1 hR (ht2.trans (ht3.trans ht4))⟩
end Go.Proofs.Ytnlnkcjphioehaa
