/-
  Draws of chapter 7: lines with boundaries, parts. No statement is proved here.
-/
import Derived.Test.YtdoclfbfhlgejaaDoorDraw2
import Derived.Test.YtdoclfbfhlgejaaDoorPartN
import Derived.Test.YtdoclfbfhlgejaaDoorRowS
namespace Go.Proofs.YtdoclfbfhlgejaaDoor
open Go.RowKit

/-- A short line that is no mark of the boundary 'b3'. -/
def lineOk (x : List UInt8) : Bool := decide (x.length ≤ 10) && !looksB [98, 51] x
def shortB (x : List UInt8) : Bool := decide (x.length ≤ 10)
theorem lineOk_len {x : List UInt8} (h : lineOk x = true) : x.length ≤ 10 := by unfold lineOk at h; simp at h; exact h.1
theorem lineOk_b3 {x : List UInt8} (h : lineOk x = true) : looksB [98, 51] x = false := by unfold lineOk at h; simp at h; exact h.2
def litQ (C : Array Value) (n : Nat) (Q : List UInt8 → Bool) : Bool := (List.range n).all fun i => match C[i]? with | some (.string s) => Q s.data.toList | _ => false
def DrawnQ (R p : Nat) (Q : List UInt8 → Bool) (w : World) (e : Ending) (w' : World) : Prop := ∃ s : ByteArray, e = .returned (.string s) ∧ Q s.data.toList = true ∧ Rd w' R (p + 1) ∧ Touch R w w'
set_option maxRecDepth 100000 in
set_option maxHeartbeats 400000 in
theorem of_litQ (R p n : Nat) (Q : List UInt8 → Bool) (C : Array Value) (t : TypeId) (w : World) (hr : Rd w R p) (hp : p ≤ 1000000000) (hn : 0 < n) (hn2 : n ≤ 1000000) (h : litQ C n Q = true) :
    Calls Tryd.prog 45 #[.pointer (some ⟨R, 0, none⟩), .slice (some ⟨w.heap.size, 0, none⟩) n n] (w.alloc (.cells C t)) (DrawnQ R p Q w) := by
  have hb : Below w.heap.size w (w.alloc (.cells C t)) := (Below.refl _ _).alloc (Nat.le_refl _) _
  have hRl := hr.lt
  have hall : ∀ k, k < n → ∃ s : ByteArray, (w.alloc (.cells C t)).cell? ⟨w.heap.size, k, none⟩ = some (.string s) ∧ Q s.data.toList = true := by
    intro k hk
    have h2 := List.all_eq_true.1 h k (List.mem_range.2 hk)
    rw [World.cell?_alloc_at C t _ _ rfl]
    split at h2
    · rename_i s hs; exact ⟨s, hs, h2⟩
    · cases h2
  have HALL := Lib.hid hall
  clear h hall
  go_enter Tryd.func45, Tryd.ntmps45
  go_wp2_with fail
  refine (pick_any R p n _ (hr.below hb) hp (by omega)).mono ?_
  rintro e w1 ⟨k, rfl, hk, hr1, ht1⟩
  have hk' : k < n := by omega
  obtain ⟨s, h1, h2⟩ := HALL.out k hk'
  rw [← ht1.cell (by simp) (by omega)] at h1
  have hT := (Touch.of_below (R := R) hb).trans ht1
  clear hk
  go_wp2
  go_ret
  exact ⟨s, rfl, h2, hr1, hT⟩
theorem numS_lit (R p n g : Nat) (xs : List Int) (t : TypeId) (w : World) (hg : w.heap.size = g) (hr : Rd w R p) (hp : p ≤ 1000000000) (hn : xs.length = n) (h0 : 0 < n) (h1 : n ≤ 1000000) :
    Calls Tryd.prog 83 #[.pointer (some ⟨R, 0, none⟩), .slice (some ⟨g, 0, none⟩) n n] (w.alloc (.cells (xs.map (Value.int .i64)).toArray t)) fun e w' => ∃ x, x ∈ xs ∧ e = .returned (.int .i64 x) ∧ Rd w' R (p + 1) ∧ Touch R w w' := by
  subst hg
  have hb : Below w.heap.size w (w.alloc (.cells (xs.map (Value.int .i64)).toArray t)) := (Below.refl _ _).alloc (Nat.le_refl _) _
  refine (num_any R p w.heap.size 0 n n xs _ (hr.below hb) hp (by have := hr.lt; omega) (by simp) h0 h1 hn (fun i hi => ?_)).mono ?_
  · rw [World.cell?_alloc_at _ _ _ _ rfl]; simp [hi]
  · rintro e w' ⟨x, h1, h2, h3, h4⟩
    exact ⟨x, h1, h2, h3, (Touch.of_below hb).trans h4⟩
theorem cell_new1 (w : World) (x : Value) (t : TypeId) : (w.alloc (.cells #[x] t)).cell? ⟨w.heap.size, 0, none⟩ = some x := by rw [World.cell?_alloc_at _ _ _ _ rfl]; rfl
theorem own_lits (w : World) (xs : List (List UInt8)) (C : Array Value) (hC : C.toList = xs.map strV) (hl : xs.length ≤ 1000) : OwnL w.heap.size (.slice (some ⟨w.heap.size, 0, none⟩) xs.length xs.length) xs (w.alloc (.cells C 9)) := by
  have hs : C.size = xs.length * 1 := by rw [← Array.length_toList, hC]; simp
  have := World.ownsRow_lit (base := w.heap.size) (e := 9) (size := 1) w C xs.length (Nat.le_refl _) (by unfold maxLen; omega) hs
  rw [hC] at this
  exact this
/-- At most M lines, drawn. -/
def DrawnLn (R p M : Nat) (w : World) (e : Ending) (w' : World) : Prop := ∃ (v : Value) (xs : List (List UInt8)) (p' : Nat), e = .returned v ∧ OwnL w.heap.size v xs w' ∧ xs.length ≤ M ∧ (∀ x ∈ xs, lineOk x = true) ∧ p ≤ p' ∧ p' ≤ p + 10 ∧ Rd w' R p' ∧ Touch R w w'
set_option maxRecDepth 100000 in
set_option maxHeartbeats 4000000 in
theorem l7Lines_any (R p : Nat) (w : World) (hr : Rd w R p) (hp : p ≤ 999999000) : Calls Tryd.prog 53 #[.pointer (some ⟨R, 0, none⟩)] w (DrawnLn R p 10 w) := by
  have hRl := hr.lt
  have hA1 : Below w.heap.size w (w.alloc (.cells #[] 9)) := (Below.refl _ _).alloc (Nat.le_refl _) _
  go_enter Tryd.func53, Tryd.ntmps53
  go_wp2_with fail
  refine (numS_lit R p 5 (w.heap.size + 1) [4, 3, 6, 2, 0] 3 _ (by simp) (hr.below hA1) (by omega) rfl (by omega) (by omega)).mono ?_
  rintro e w1 ⟨m0, hm0, rfl, hr1, ht1⟩
  have hm : 0 ≤ m0 ∧ m0 ≤ 6 := by
    simp only [List.mem_cons, List.not_mem_nil, or_false] at hm0; omega
  have hT1 : Touch R w w1 := (Touch.of_below hA1).trans ht1
  have hO1 : OwnL w.heap.size (.slice (some ⟨w.heap.size, 0, none⟩) 0 0) [] w1 := (OwnL.empty w).touch ht1 hRl
  clear hm0
  go_wp2_with fail
  go_loopw [3, 4] (fun v i wr => ∃ (m : Int) (acc : List (List UInt8)) (p' : Nat), 0 ≤ m ∧ m + acc.length ≤ 6 ∧ i = .int .i64 m ∧ p ≤ p' ∧ p' + m ≤ p + 7 ∧ OwnL w.heap.size v acc wr ∧ (∀ x ∈ acc, lineOk x = true) ∧ Rd wr R p' ∧ Touch R w wr) (fun _ i _ => (intOf i).toNat)
  case atStart => exact ⟨m0, [], p + 1, hm.1, by simp; omega, rfl, by omega, by omega, hO1, by simp, hr1, hT1⟩
  case round =>
    obtain ⟨m, acc, p', hm0, hml, rfl, hp1, hp2, hown, hacc, hrd, ht⟩ := hrel
    have HACC := Lib.hid hacc
    have HO := Lib.hid hown
    have hts := ht.size
    clear hacc hown
    obtain ⟨a3, c3, rfl, _, _, _, _⟩ := HO.out.readc
    by_cases hmp : 0 < m
    · go_wp2_with fail
      refine (of_litQ R p' 8 lineOk _ _ wr hrd (by omega) (by omega) (by omega) (by decide +kernel)).mono ?_
      rintro e w2 ⟨s2, rfl, g2, hr2, ht2⟩
      have hT2 := ht.trans ht2
      have hsz := hT2.size
      have HO2 : Hid (OwnL w.heap.size (.slice a3 acc.length c3) acc (w2.alloc (.cells #[.string s2] 9))) := (HO.out.touch ht2 hRl).keep ((Below.refl _ _).alloc (Nat.le_refl _) _)
      go_wp2_with (at_builtin; refine wpList_append_1L rfl _ _ rfl w.heap.size _ acc s2 w2.heap.size rfl rfl (cell_new1 _ _ _) HO2.out ?c2 ?c3 ?_)
      case c2 => first | omega | (simp; omega)
      case c3 => first | omega | (simp; omega)
      intro v' w3 hO3 hgr _
      have hb3 : Below w.heap.size w2 w3 := ((Below.refl _ _).alloc (by omega) _).grown hgr (by simp; omega) (fun g hg => (HO2.out.lt g hg).1)
      go_wp2
      go_roundw
      case rel => exact ⟨m - 1, acc ++ [s2.data.toList], p' + 1, by omega, by simp; omega, rfl, by omega, by omega, hO3, (fun x hx => by
        rcases List.mem_append.1 hx with h | h
        · exact HACC.out x h
        · rw [List.mem_singleton.1 h]; exact g2), hr2.belowB hb3 hRl, hT2.ext hb3⟩
      case measure => simp [intOf]; omega
    · go_wp2_with fail
      refine (pick_any R p' 2 wr hrd (by omega) (by omega)).mono ?_
      rintro e w2 ⟨k, rfl, hk, hr2, ht2⟩
      have hT2 := ht.trans ht2
      have hsz := hT2.size
      have HO2 : Hid (OwnL w.heap.size (.slice a3 acc.length c3) acc w2) := HO.out.touch ht2 hRl
      by_cases k0 : k = 0
      · have e0 : ((k : Int) == 0) = true := by rw [k0]; rfl
        clear k0 hk
        have HL1 : Hid (OwnL w2.heap.size (.slice (some ⟨w2.heap.size, 0, none⟩) 2 2) [[98, 101, 102, 111, 114, 101], [45, 45, 98, 48]] (w2.alloc (.cells #[.string ⟨#[98, 101, 102, 111, 114, 101]⟩, .string ⟨#[45, 45, 98, 48]⟩] 9))) := own_lits w2 [[98, 101, 102, 111, 114, 101], [45, 45, 98, 48]] _ rfl (by decide)
        have HR1 : Hid (RdL (w2.alloc (.cells #[.string ⟨#[98, 101, 102, 111, 114, 101]⟩, .string ⟨#[45, 45, 98, 48]⟩] 9)) a3 acc.length acc ∧ (a3 = none → c3 = 0)) := by
          obtain ⟨a', c', e, h1, _, h3, _⟩ := (HO2.out.keep ((Below.refl _ _).alloc (Nat.le_refl _) (.cells #[.string ⟨#[98, 101, 102, 111, 114, 101]⟩, .string ⟨#[45, 45, 98, 48]⟩] 9))).readc
          injection e with e1 e2 e3
          subst e1 e3
          exact ⟨h1, h3⟩
        go_wp2_with (at_builtin; refine wpList_append_RL rfl _ _ rfl w2.heap.size _ [[98, 101, 102, 111, 114, 101], [45, 45, 98, 48]] acc a3 acc.length c3 rfl rfl HL1.out HR1.out.1 HR1.out.2 ?c2 ?c3 ?_)
        case c2 => simp
        case c3 => simp; omega
        intro v3 w3 hO3 hgr3 _
        have hb3 : Below w2.heap.size w2 w3 := ((Below.refl _ _).alloc (by omega) _).grown hgr3 (by simp) (fun g hg => (HL1.out.lt g hg).1)
        have HO3 := Lib.hid hO3
        have HL2 : Hid (RdL (w3.alloc (.cells #[.string ⟨#[45, 45, 98, 48, 45, 45]⟩, .string ⟨#[97, 102, 116, 101, 114]⟩] 9)) (some ⟨w3.heap.size, 0, none⟩) 2 [[45, 45, 98, 48, 45, 45], [97, 102, 116, 101, 114]]) := by
          obtain ⟨a', c', e, h1, _⟩ := (own_lits w3 [[45, 45, 98, 48, 45, 45], [97, 102, 116, 101, 114]] #[.string ⟨#[45, 45, 98, 48, 45, 45]⟩, .string ⟨#[97, 102, 116, 101, 114]⟩] rfl (by decide)).read
          injection e with e1 e2 e3
          subst e1
          exact h1
        have hs3 := hb3.size
        have HO4 : Hid (OwnL w2.heap.size v3 ([[98, 101, 102, 111, 114, 101], [45, 45, 98, 48]] ++ acc) (w3.alloc (.cells #[.string ⟨#[45, 45, 98, 48, 45, 45]⟩, .string ⟨#[97, 102, 116, 101, 114]⟩] 9))) := HO3.out.keep ((Below.refl _ _).alloc (Nat.le_refl _) _)
        clear hO3 hgr3
        go_wp2_with (at_builtin; refine wpList_append_RL rfl _ _ rfl w2.heap.size _ _ [[45, 45, 98, 48, 45, 45], [97, 102, 116, 101, 114]] (some ⟨w3.heap.size, 0, none⟩) 2 2 rfl rfl HO4.out HL2.out (fun h => by cases h) ?d2 ?d3 ?_)
        case d2 => simp; omega
        case d3 => simp; omega
        intro v4 w4 hO4 hgr4 _
        have hb4 : Below w2.heap.size w2 w4 := (hb3.alloc hs3 _).grown hgr4 (by simp; omega) (fun g hg => (HO4.out.lt g hg).1)
        have HO5 := Lib.hid hO4
        clear hO4 hgr4
        go_wp2
        go_ret
        exact ⟨_, _, p' + 1, rfl, HO5.out.base hsz, by simp; omega, (fun x hx => by
          have hx' : x ∈ ([[98, 101, 102, 111, 114, 101], [45, 45, 98, 48]] ++ acc) ++ [[45, 45, 98, 48, 45, 45], [97, 102, 116, 101, 114]] := hx
          rcases List.mem_append.1 hx' with h | h
          · rcases List.mem_append.1 h with h | h
            · simp only [List.mem_cons, List.not_mem_nil, or_false] at h
              rcases h with rfl | rfl <;> decide
            · exact HACC.out x h
          · simp only [List.mem_cons, List.not_mem_nil, or_false] at h
            rcases h with rfl | rfl <;> decide), by omega, by omega, hr2.below hb4, hT2.trans (Touch.of_below hb4)⟩
      · have e0 : ((k : Int) == 0) = false := by rw [beq_eq_false_iff_ne]; omega
        clear k0 hk
        go_wp2
        go_ret
        exact ⟨_, acc, p' + 1, rfl, HO2.out, by omega, HACC.out, by omega, by omega, hr2, hT2⟩
def DrawnFB (w : World) (e : Ending) (w' : World) : Prop := ∃ (v : Value) (xs : List (List UInt8)), e = .returned v ∧ OwnL w.heap.size v xs w' ∧ xs.length ≤ 11 ∧ (∀ x ∈ xs, lineOk x = true) ∧ Below w.heap.size w w'
set_option maxRecDepth 100000 in
set_option maxHeartbeats 1000000 in
theorem drawFreshBoundary_any (a : Option Addr) (n c : Nat) (w : World) (hc : Code w a n) (hnc : n ≤ c) (hm : c ≤ maxLen) :
    Calls Tryd.prog 16 #[.slice a n c] w (DrawnFB w) := by
  go_enter Tryd.func16, Tryd.ntmps16
  go_wp2_with fail
  refine (open_any a n c w hc hnc hm).mono ?_
  rintro e w1 ⟨R, rfl, hR, hr1, hb1⟩
  have hRl := hr1.lt
  have hs1 := hb1.size
  go_wp2_with fail
  refine (l7Lines_any R 0 w1 hr1 (by omega)).mono ?_
  rintro e w2 ⟨v2, xs, p2, rfl, ho2, hl2, hx2, f2, k2, hr2, ht2⟩
  have HX2 := Lib.hid hx2
  clear hx2
  go_wp2_with fail
  refine (of_litQ R p2 3 lineOk _ _ w2 hr2 (by omega) (by omega) (by omega) (by decide +kernel)).mono ?_
  rintro e w3 ⟨s3, rfl, g3, hr3, ht3⟩
  have hB3 := after_open hb1 hR (ht2.trans ht3)
  have HO3 := Lib.hid ((ho2.touch ht3 hRl).keep ((Below.refl _ _).alloc (Nat.le_refl _) (.cells #[.string s3] 9)))
  have hs3 := ht3.size
  have hs2 := ht2.size
  obtain ⟨a4, c4, rfl, _, _, _, _⟩ := ho2.readc
  clear ho2
  go_wp2_with (at_builtin; refine wpList_append_1L rfl _ _ rfl w1.heap.size _ xs s3 w3.heap.size rfl rfl (cell_new1 _ _ _) HO3.out ?c2 ?c3 ?_)
  case c2 => first | omega | (simp; omega)
  case c3 => first | omega | (simp; omega)
  intro v' w4 hO4 hgr _
  have hb4 : Below w.heap.size w w4 := (hB3.alloc hB3.size _).grown hgr (by simp; omega) (fun g hg => by have := (HO3.out.lt g hg).1; omega)
  go_wp2
  go_ret
  exact ⟨_, _, rfl, hO4.base hs1, by simp; omega, (fun x hx => by
    rcases List.mem_append.1 hx with h | h
    · exact HX2.out x h
    · rw [List.mem_singleton.1 h]; exact g3), hb4⟩
end Go.Proofs.YtdoclfbfhlgejaaDoor
