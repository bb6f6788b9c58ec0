/-
  Draws of chapter 7: lines with boundaries, parts. No statement is proved here.
-/
import Derived.Test.YtdoclfbfhlgejabDraw2
import Derived.Test.YtdoclfbfhlgejabPartN
import Derived.Test.YtdoclfbfhlgejabRowS
namespace Go.Proofs.Ytdoclfbfhlgejab
open Go.RowKit

/-- A short line that is no mark of the boundary 'b3'. -/
def lineOk (x : List UInt8) : Bool := decide (x.length ≤ 10) && !looksB [98, 51] x
def shortB (x : List UInt8) : Bool := decide (x.length ≤ 10)
theorem lineOk_len {x : List UInt8} (h : lineOk x = true) : x.length ≤ 10 := by unfold lineOk at h; simp at h; exact h.1
theorem lineOk_b3 {x : List UInt8} (h : lineOk x = true) : looksB [98, 51] x = false := by unfold lineOk at h; simp at h; exact h.2
def litQ (C : Array Value) (n : Nat) (Q : List UInt8 → Bool) : Bool := (List.range n).all fun i => match C[i]? with | some (.string s) => Q s.data.toList | _ => false
def DrawnQ (R p : Nat) (Q : List UInt8 → Bool) (w : World) (e : Ending) (w' : World) : Prop := ∃ s : ByteArray, e = .returned (.string s) ∧ Q s.data.toList = true ∧ Rd w' R (p + 1) ∧ Touch R w w'
set_option maxRecDepth 100000 in
set_option maxHeartbeats 400000 in
theorem of_litQ (R p n : Nat) (Q : List UInt8 → Bool) (C : Array Value) (t : TypeId) (w : World) (hr : Rd w R p) (hp : p ≤ 1000000000) (hn : 0 < n) (hn2 : n ≤ 1000000) (h : litQ C n Q = true) :
    Calls Try.prog 15 #[.pointer (some ⟨R, 0, none⟩), .slice (some ⟨w.heap.size, 0, none⟩) n n] (w.alloc (.cells C t)) (DrawnQ R p Q w) := by
  have hb : Below w.heap.size w (w.alloc (.cells C t)) := (Below.refl _ _).alloc (Nat.le_refl _) _
  have hRl := hr.lt
  have hall : ∀ k, k < n → ∃ s : ByteArray, (w.alloc (.cells C t)).cell? ⟨w.heap.size, k, none⟩ = some (.string s) ∧ Q s.data.toList = true := by
    intro k hk
    have h2 := List.all_eq_true.1 h k (List.mem_range.2 hk)
    rw [World.cell?_alloc_at C t _ _ rfl]
    split at h2
    · rename_i s hs; exact ⟨s, hs, h2⟩
    · cases h2
  have HALL := Lib.hid hall
  clear h hall
  go_enter Try.func15, Try.ntmps15
  go_wp2_with fail
  refine (pick_any R p n _ (hr.below hb) hp (by omega)).mono ?_
  rintro e w1 ⟨k, rfl, hk, hr1, ht1⟩
  have hk' : k < n := by omega
  obtain ⟨s, h1, h2⟩ := HALL.out k hk'
  rw [← ht1.cell (by simp) (by omega)] at h1
  have hT := (Touch.of_below (R := R) hb).trans ht1
  clear hk
  go_wp2
  go_ret
  exact ⟨s, rfl, h2, hr1, hT⟩
theorem numS_lit (R p n g : Nat) (xs : List Int) (t : TypeId) (w : World) (hg : w.heap.size = g) (hr : Rd w R p) (hp : p ≤ 1000000000) (hn : xs.length = n) (h0 : 0 < n) (h1 : n ≤ 1000000) :
    Calls Try.prog 24 #[.pointer (some ⟨R, 0, none⟩), .slice (some ⟨g, 0, none⟩) n n] (w.alloc (.cells (xs.map (Value.int .i64)).toArray t)) fun e w' => ∃ x, x ∈ xs ∧ e = .returned (.int .i64 x) ∧ Rd w' R (p + 1) ∧ Touch R w w' := by
  subst hg
  have hb : Below w.heap.size w (w.alloc (.cells (xs.map (Value.int .i64)).toArray t)) := (Below.refl _ _).alloc (Nat.le_refl _) _
  refine (num_any R p w.heap.size 0 n n xs _ (hr.below hb) hp (by have := hr.lt; omega) (by simp) h0 h1 hn (fun i hi => ?_)).mono ?_
  · rw [World.cell?_alloc_at _ _ _ _ rfl]; simp [hi]
  · rintro e w' ⟨x, h1, h2, h3, h4⟩
    exact ⟨x, h1, h2, h3, (Touch.of_below hb).trans h4⟩
theorem cell_new1 (w : World) (x : Value) (t : TypeId) : (w.alloc (.cells #[x] t)).cell? ⟨w.heap.size, 0, none⟩ = some x := by rw [World.cell?_alloc_at _ _ _ _ rfl]; rfl
theorem own_lits (w : World) (xs : List (List UInt8)) (C : Array Value) (hC : C.toList = xs.map strV) (hl : xs.length ≤ 1000) : OwnL w.heap.size (.slice (some ⟨w.heap.size, 0, none⟩) xs.length xs.length) xs (w.alloc (.cells C 9)) := by
  have hs : C.size = xs.length * 1 := by rw [← Array.length_toList, hC]; simp
  have := World.ownsRow_lit (base := w.heap.size) (e := 9) (size := 1) w C xs.length (Nat.le_refl _) (by unfold maxLen; omega) hs
  rw [hC] at this
  exact this
/-- At most M lines, drawn. -/
def DrawnLn (R p M : Nat) (w : World) (e : Ending) (w' : World) : Prop := ∃ (v : Value) (xs : List (List UInt8)) (p' : Nat), e = .returned v ∧ OwnL w.heap.size v xs w' ∧ xs.length ≤ M ∧ (∀ x ∈ xs, lineOk x = true) ∧ p ≤ p' ∧ p' ≤ p + 10 ∧ Rd w' R p' ∧ Touch R w w'
set_option maxRecDepth 100000 in
set_option maxHeartbeats 4000000 in
theorem l7Lines_any (R p : Nat) (w : World) (hr : Rd w R p) (hp : p ≤ 999999000) : Calls Try.prog 14 #[.pointer (some ⟨R, 0, none⟩)] w (DrawnLn R p 10 w) := by
  have hRl := hr.lt
  have hA1 : Below w.heap.size w (w.alloc (.cells #[] 9)) := (Below.refl _ _).alloc (Nat.le_refl _) _
  go_enter Try.func14, Try.ntmps14
  go_wp2_with fail
  refine (numS_lit R p 5 (w.heap.size + 1) [4, 3, 6, 2, 0] 3 _ (by simp) (hr.below hA1) (by omega) rfl (by omega) (by omega)).mono ?_
  rintro e w1 ⟨m0, hm0, rfl, hr1, ht1⟩
  have hm : 0 ≤ m0 ∧ m0 ≤ 6 := by
    simp only [List.mem_cons, List.not_mem_nil, or_false] at hm0; omega
  have hT1 : Touch R w w1 := (Touch.of_below hA1).trans ht1
  have hO1 : OwnL w.heap.size (.slice (some ⟨w.heap.size, 0, none⟩) 0 0) [] w1 := (OwnL.empty w).touch ht1 hRl
  clear hm0
  go_wp2_with fail
  go_loopw [3, 4] (fun v i wr => ∃ (m : Int) (acc : List (List UInt8)) (p' : Nat), 0 ≤ m ∧ m + acc.length ≤ 6 ∧ i = .int .i64 m ∧ p ≤ p' ∧ p' + m ≤ p + 7 ∧ OwnL w.heap.size v acc wr ∧ (∀ x ∈ acc, lineOk x = true) ∧ Rd wr R p' ∧ Touch R w wr) (fun _ i _ => (intOf i).toNat)
  case atStart => exact ⟨m0, [], p + 1, hm.1, by simp; omega, rfl, by omega, by omega, hO1, by simp, hr1, hT1⟩
  case round =>
    obtain ⟨m, acc, p', hm0, hml, rfl, hp1, hp2, hown, hacc, hrd, ht⟩ := hrel
    have HACC := Lib.hid hacc
    have HO := Lib.hid hown
    have hts := ht.size
    clear hacc hown
    obtain ⟨a3, c3, rfl, _, _, _, _⟩ := HO.out.readc
    by_cases hmp : 0 < m
    · go_wp2_with fail
      refine (of_litQ R p' 8 lineOk _ _ wr hrd (by omega) (by omega) (by omega) (by decide +kernel)).mono ?_
      rintro e w2 ⟨s2, rfl, g2, hr2, ht2⟩
      have hT2 := ht.trans ht2
      have hsz := hT2.size
      have HO2 : Hid (OwnL w.heap.size (.slice a3 acc.length c3) acc (w2.alloc (.cells #[.string s2] 9))) := (HO.out.touch ht2 hRl).keep ((Below.refl _ _).alloc (Nat.le_refl _) _)
      go_wp2_with (at_builtin; refine wpList_append_1L rfl _ _ rfl w.heap.size _ acc s2 w2.heap.size rfl rfl (cell_new1 _ _ _) HO2.out ?c2 ?c3 ?_)
      case c2 => first | omega | (simp; omega)
      case c3 => first | omega | (simp; omega)
      intro v' w3 hO3 hgr _
      have hb3 : Below w.heap.size w2 w3 := ((Below.refl _ _).alloc (by omega) _).grown hgr (by simp; omega) (fun g hg => (HO2.out.lt g hg).1)
      go_wp2
      go_roundw
      case rel => exact ⟨m - 1, acc ++ [s2.data.toList], p' + 1, by omega, by simp; omega, rfl, by omega, by omega, hO3, (fun x hx => by
        rcases List.mem_append.1 hx with h | h
        · exact HACC.out x h
        · rw [List.mem_singleton.1 h]; exact g2), hr2.belowB hb3 hRl, hT2.ext hb3⟩
      case measure => simp [intOf]; omega
    · go_wp2_with fail
      refine (pick_any R p' 2 wr hrd (by omega) (by omega)).mono ?_
      rintro e w2 ⟨k, rfl, hk, hr2, ht2⟩
      have hT2 := ht.trans ht2
      have hsz := hT2.size
      have HO2 : Hid (OwnL w.heap.size (.slice a3 acc.length c3) acc w2) := HO.out.touch ht2 hRl
      by_cases k0 : k = 0
      · have e0 : ((k : Int) == 0) = true := by rw [k0]; rfl
        clear k0 hk
        have HL1 : Hid (OwnL w2.heap.size (.slice (some ⟨w2.heap.size, 0, none⟩) 2 2) [[98, 101, 102, 111, 114, 101], [45, 45, 98, 48]] (w2.alloc (.cells #[.string ⟨#[98, 101, 102, 111, 114, 101]⟩, .string ⟨#[45, 45, 98, 48]⟩] 9))) := own_lits w2 [[98, 101, 102, 111, 114, 101], [45, 45, 98, 48]] _ rfl (by decide)
        have HR1 : Hid (RdL (w2.alloc (.cells #[.string ⟨#[98, 101, 102, 111, 114, 101]⟩, .string ⟨#[45, 45, 98, 48]⟩] 9)) a3 acc.length acc ∧ (a3 = none → c3 = 0)) := by
          obtain ⟨a', c', e, h1, _, h3, _⟩ := (HO2.out.keep ((Below.refl _ _).alloc (Nat.le_refl _) (.cells #[.string ⟨#[98, 101, 102, 111, 114, 101]⟩, .string ⟨#[45, 45, 98, 48]⟩] 9))).readc
          injection e with e1 e2 e3
          subst e1 e3
          exact ⟨h1, h3⟩
        go_wp2_with (at_builtin; refine wpList_append_RL rfl _ _ rfl w2.heap.size _ [[98, 101, 102, 111, 114, 101], [45, 45, 98, 48]] acc a3 acc.length c3 rfl rfl HL1.out HR1.out.1 HR1.out.2 ?c2 ?c3 ?_)
        case c2 => simp
        case c3 => simp; omega
        intro v3 w3 hO3 hgr3 _
        have hb3 : Below w2.heap.size w2 w3 := ((Below.refl _ _).alloc (by omega) _).grown hgr3 (by simp) (fun g hg => (HL1.out.lt g hg).1)
        have HO3 := Lib.hid hO3
        have HL2 : Hid (RdL (w3.alloc (.cells #[.string ⟨#[45, 45, 98, 48, 45, 45]⟩, .string ⟨#[97, 102, 116, 101, 114]⟩] 9)) (some ⟨w3.heap.size, 0, none⟩) 2 [[45, 45, 98, 48, 45, 45], [97, 102, 116, 101, 114]]) := by
          obtain ⟨a', c', e, h1, _⟩ := (own_lits w3 [[45, 45, 98, 48, 45, 45], [97, 102, 116, 101, 114]] #[.string ⟨#[45, 45, 98, 48, 45, 45]⟩, .string ⟨#[97, 102, 116, 101, 114]⟩] rfl (by decide)).read
          injection e with e1 e2 e3
          subst e1
          exact h1
        have hs3 := hb3.size
        have HO4 : Hid (OwnL w2.heap.size v3 ([[98, 101, 102, 111, 114, 101], [45, 45, 98, 48]] ++ acc) (w3.alloc (.cells #[.string ⟨#[45, 45, 98, 48, 45, 45]⟩, .string ⟨#[97, 102, 116, 101, 114]⟩] 9))) := HO3.out.keep ((Below.refl _ _).alloc (Nat.le_refl _) _)
        clear hO3 hgr3
        go_wp2_with (at_builtin; refine wpList_append_RL rfl _ _ rfl w2.heap.size _ _ [[45, 45, 98, 48, 45, 45], [97, 102, 116, 101, 114]] (some ⟨w3.heap.size, 0, none⟩) 2 2 rfl rfl HO4.out HL2.out (fun h => by cases h) ?d2 ?d3 ?_)
        case d2 => simp; omega
        case d3 => simp; omega
        intro v4 w4 hO4 hgr4 _
        have hb4 : Below w2.heap.size w2 w4 := (hb3.alloc hs3 _).grown hgr4 (by simp; omega) (fun g hg => (HO4.out.lt g hg).1)
        have HO5 := Lib.hid hO4
        clear hO4 hgr4
        go_wp2
        go_ret
        exact ⟨_, _, p' + 1, rfl, HO5.out.base hsz, by simp; omega, (fun x hx => by
          have hx' : x ∈ ([[98, 101, 102, 111, 114, 101], [45, 45, 98, 48]] ++ acc) ++ [[45, 45, 98, 48, 45, 45], [97, 102, 116, 101, 114]] := hx
          rcases List.mem_append.1 hx' with h | h
          · rcases List.mem_append.1 h with h | h
            · simp only [List.mem_cons, List.not_mem_nil, or_false] at h
              rcases h with rfl | rfl <;> decide
            · exact HACC.out x h
          · simp only [List.mem_cons, List.not_mem_nil, or_false] at h
            rcases h with rfl | rfl <;> decide), by omega, by omega, hr2.below hb4, hT2.trans (Touch.of_below hb4)⟩
      · have e0 : ((k : Int) == 0) = false := by rw [beq_eq_false_iff_ne]; omega
        clear k0 hk
        go_wp2
        go_ret
        exact ⟨_, acc, p' + 1, rfl, HO2.out, by omega, HACC.out, by omega, by omega, hr2, hT2⟩
/-- At most three parts of at most two lines each, drawn. -/
def DrawnPt (R p : Nat) (w : World) (e : Ending) (w' : World) : Prop := ∃ (v : Value) (us : List Value) (ps : List (List (List UInt8))) (p' : Nat), e = .returned v ∧ OwnSS w.heap.size v us ps w' ∧ ps.length ≤ 3 ∧ sumP ps ≤ 9 ∧ p ≤ p' ∧ p' ≤ p + 20 ∧ Rd w' R p' ∧ Touch R w w'
set_option maxRecDepth 100000 in
set_option maxHeartbeats 4000000 in
theorem l7Parts_any (R p : Nat) (w : World) (hr : Rd w R p) (hp : p ≤ 999999000) : Calls Try.prog 20 #[.pointer (some ⟨R, 0, none⟩)] w (DrawnPt R p w) := by
  have hRl := hr.lt
  have hA1 : Below w.heap.size w (w.alloc (.cells #[] 23)) := (Below.refl _ _).alloc (Nat.le_refl _) _
  go_enter Try.func20, Try.ntmps20
  go_wp2_with fail
  refine (numS_lit R p 4 (w.heap.size + 1) [2, 1, 3, 0] 3 _ (by simp) (hr.below hA1) (by omega) rfl (by omega) (by omega)).mono ?_
  rintro e w1 ⟨m0, hm0, rfl, hr1, ht1⟩
  have hm : 0 ≤ m0 ∧ m0 ≤ 3 := by
    simp only [List.mem_cons, List.not_mem_nil, or_false] at hm0; omega
  have hT1 : Touch R w w1 := (Touch.of_below hA1).trans ht1
  have hO1 : OwnSS w.heap.size (.slice (some ⟨w.heap.size, 0, none⟩) 0 0) [] [] w1 := (OwnSS.empty w).touch ht1 hRl
  clear hm0
  go_wp2_with fail
  go_loopw [3, 4] (fun v i wr => ∃ (m : Int) (us : List Value) (qs : List (List (List UInt8))) (p' : Nat), 0 ≤ m ∧ m + qs.length ≤ 3 ∧ sumP qs ≤ 3 * qs.length ∧ i = .int .i64 m ∧ p ≤ p' ∧ p' + 3 * m ≤ p + 10 ∧ OwnSS w.heap.size v us qs wr ∧ Rd wr R p' ∧ Touch R w wr) (fun _ i _ => (intOf i).toNat)
  case atStart => exact ⟨m0, [], [], p + 1, hm.1, by simp; omega, Nat.le_refl _, rfl, by omega, by omega, hO1, hr1, hT1⟩
  case round =>
    obtain ⟨m, us, qs, p', hm0, hml, hsq, rfl, hp1, hp2, hown, hrd, ht⟩ := hrel
    have HO := Lib.hid hown
    have hts := ht.size
    clear hown
    obtain ⟨a3, c3, rfl, _, _, _, _⟩ := HO.out.read
    by_cases hmp : 0 < m
    · have HF := Lib.hid (SplitSt.fresh HO.out hts)
      have hbF : Below wr.heap.size wr (wr.alloc (.cells #[] 9)) := (Below.refl _ _).alloc (Nat.le_refl _) _
      go_wp2_with fail
      refine (pick_any R p' 3 _ (hrd.below hbF) (by omega) (by omega)).mono ?_
      rintro e w2 ⟨q, rfl, hq, hr2, ht2⟩
      have hT2 := ht.trans ((Touch.of_below hbF).trans ht2)
      have HF2 := Lib.hid (HF.out.touch ht2 hRl)
      have hq2 : q ≤ 2 := by omega
      have hmI : (m : Int) ≤ 3 := by omega
      clear hq
      go_wp2_with fail
      obtain ⟨wo, rfl⟩ : ∃ wo : World, wo = wr := ⟨_, rfl⟩
      go_loopw [5, 6] (fun u i wr2 => ∃ (j : Int) (cur : List (List UInt8)) (p2 : Nat), 0 ≤ j ∧ j + cur.length ≤ 2 ∧ i = .int .i64 j ∧ p' + 1 ≤ p2 ∧ p2 + j ≤ p' + 3 ∧ SplitSt w.heap.size (.slice a3 qs.length c3) u us qs cur wr2 ∧ Rd wr2 R p2 ∧ Touch R w wr2) (fun _ i _ => (intOf i).toNat)
      case atStart => exact ⟨q, [], p' + 1, by omega, by simp; omega, rfl, by omega, by omega, HF2.out, hr2, hT2⟩
      case round =>
        obtain ⟨j, cur, p2, hj0, hjl, rfl, hj1, hj2, hst, hrd2, htt⟩ := hrel
        have HS := Lib.hid hst
        have hts2 := htt.size
        clear hst
        obtain ⟨a4, c4, rfl, _, _, _, _⟩ := HS.out.part.readc
        by_cases hjp : 0 < j
        · go_wp2_with fail
          refine (of_litQ R p2 6 shortB _ _ _ hrd2 (by omega) (by omega) (by omega) (by decide +kernel)).mono ?_
          rintro e w3 ⟨s3, rfl, g3, hr3, ht3⟩
          have hT3 := htt.trans ht3
          have hsz := hT3.size
          have HA : Hid (SplitSt w.heap.size (.slice a3 qs.length c3) (.slice a4 cur.length c4) us qs cur (w3.alloc (.cells #[.string s3] 9))) := (HS.out.touch ht3 hRl).keep ((Below.refl _ _).alloc (Nat.le_refl _) _)
          go_wp2_with (at_builtin; refine wpList_append_1L rfl _ _ rfl w.heap.size _ cur s3 w3.heap.size rfl rfl (cell_new1 _ _ _) HA.out.part ?c2 ?c3 ?_)
          case c2 => first | omega | (simp; omega)
          case c3 => first | omega | (simp; omega)
          intro v' w4 hO4 hgr hat
          have hb4 : Below w.heap.size w3 w4 := ((Below.refl _ _).alloc (by omega) _).grown hgr (by simp; omega) (fun g hg => (HA.out.part.lt g hg).1)
          have HM : Hid (SplitSt w.heap.size (.slice a3 qs.length c3) v' us qs (cur ++ [s3.data.toList]) w4) := HA.out.more hgr hO4 hat (by simp)
          clear hgr hat hO4
          go_wp2
          go_roundw
          case rel => exact ⟨j - 1, cur ++ [s3.data.toList], p2 + 1, by omega, by simp; omega, rfl, by omega, by omega, HM.out, hr3.belowB hb4 hRl, hT3.ext hb4⟩
          case measure => simp [intOf]; omega
        · have hj0' : j = 0 := by omega
          subst hj0'
          have HA : Hid (SplitSt w.heap.size (.slice a3 qs.length c3) (.slice a4 cur.length c4) us qs cur (wr.alloc (.cells #[.slice a4 cur.length c4] 23))) := HS.out.keep ((Below.refl _ _).alloc (Nat.le_refl _) _)
          go_wp2_with (at_builtin; refine wpList_append_SS rfl _ _ rfl w.heap.size _ (.slice a4 cur.length c4) us qs cur wr.heap.size rfl rfl (cell_new1 _ _ _) rfl HA.out.out HA.out.part HA.out.off HA.out.apart ?c2 ?c3 ?_)
          case c2 => first | omega | (simp; omega)
          case c3 => first | omega | (simp; omega)
          intro v' w4 hO4 hgr _
          have hb4 : Below w.heap.size wr w4 := ((Below.refl _ _).alloc (by omega) _).grown hgr (by simp; omega) (fun g hg => (HA.out.out.lt.1 g hg).1)
          go_wp2
          go_roundw
          case rel => exact ⟨m - 1, us ++ [.slice a4 cur.length c4], qs ++ [cur], p2, by omega, by simp; omega, by rw [sumP_app, sumP_cons, sumP_nil]; simp; omega, rfl, by omega, by omega, hO4, hrd2.belowB hb4 hRl, htt.ext hb4⟩
          case measure => simp [intOf]; omega
    · go_wp2
      go_ret
      exact ⟨_, us, qs, p', rfl, HO.out, by omega, by omega, hp1, by omega, hrd, ht⟩
/-- Lines and a boundary are drawn; nothing that was there turns. -/
def DrawnLS (w : World) (e : Ending) (w' : World) : Prop := ∃ (v : Value) (xs : List (List UInt8)) (s : ByteArray), e = .returned (.tuple #[v, .string s]) ∧ OwnL w.heap.size v xs w' ∧ xs.length ≤ 10 ∧ (∀ x ∈ xs, lineOk x = true) ∧ s.size ≤ 10 ∧ Below w.heap.size w w'
set_option maxRecDepth 100000 in
set_option maxHeartbeats 1000000 in
theorem drawSplitParts_any (a : Option Addr) (n c : Nat) (w : World) (hc : Code w a n) (hnc : n ≤ c) (hm : c ≤ maxLen) :
    Calls Try.prog 6 #[.slice a n c] w (DrawnLS w) := by
  go_enter Try.func6, Try.ntmps6
  go_wp2_with fail
  refine (open_any a n c w hc hnc hm).mono ?_
  rintro e w1 ⟨R, rfl, hR, hr1, hb1⟩
  have hRl := hr1.lt
  have hs1 := hb1.size
  go_wp2_with fail
  refine (l7Lines_any R 0 w1 hr1 (by omega)).mono ?_
  rintro e w2 ⟨v2, xs, p2, rfl, ho2, hl2, hx2, f2, k2, hr2, ht2⟩
  have HX2 := Lib.hid hx2
  clear hx2
  go_wp2_with fail
  refine (of_litQ R p2 5 shortB _ _ w2 hr2 (by omega) (by omega) (by omega) (by decide +kernel)).mono ?_
  rintro e w3 ⟨s3, rfl, g3, hr3, ht3⟩
  have hB3 := after_open hb1 hR (ht2.trans ht3)
  have HO3 := Lib.hid (ho2.touch ht3 hRl)
  have hz : s3.size ≤ 10 := by rw [← size_list]; unfold shortB at g3; simpa using g3
  obtain ⟨a4, c4, rfl, _, _, _, _⟩ := ho2.readc
  clear ho2 g3
  go_wp2
  go_ret2
  exact ⟨_, xs, s3, rfl, HO3.out.base hs1, hl2, HX2.out, hz, hB3⟩
/-- Parts and a boundary are drawn; nothing that was there turns. -/
def DrawnPS (w : World) (e : Ending) (w' : World) : Prop := ∃ (v : Value) (us : List Value) (ps : List (List (List UInt8))) (s : ByteArray), e = .returned (.tuple #[v, .string s]) ∧ OwnSS w.heap.size v us ps w' ∧ ps.length ≤ 3 ∧ sumP ps ≤ 9 ∧ s.size ≤ 10 ∧ Below w.heap.size w w'
set_option maxRecDepth 100000 in
set_option maxHeartbeats 1000000 in
theorem drawJoinParts_any (a : Option Addr) (n c : Nat) (w : World) (hc : Code w a n) (hnc : n ≤ c) (hm : c ≤ maxLen) :
    Calls Try.prog 10 #[.slice a n c] w (DrawnPS w) := by
  go_enter Try.func10, Try.ntmps10
  go_wp2_with fail
  refine (open_any a n c w hc hnc hm).mono ?_
  rintro e w1 ⟨R, rfl, hR, hr1, hb1⟩
  have hRl := hr1.lt
  have hs1 := hb1.size
  go_wp2_with fail
  refine (l7Parts_any R 0 w1 hr1 (by omega)).mono ?_
  rintro e w2 ⟨v2, us, ps, p2, rfl, ho2, hl2, hx2, f2, k2, hr2, ht2⟩
  go_wp2_with fail
  refine (of_litQ R p2 5 shortB _ _ w2 hr2 (by omega) (by omega) (by omega) (by decide +kernel)).mono ?_
  rintro e w3 ⟨s3, rfl, g3, hr3, ht3⟩
  have hB3 := after_open hb1 hR (ht2.trans ht3)
  have HO3 := Lib.hid (ho2.touch ht3 hRl)
  have hz : s3.size ≤ 10 := by rw [← size_list]; unfold shortB at g3; simpa using g3
  obtain ⟨a4, c4, rfl, _, _, _, _⟩ := ho2.read
  clear ho2 g3
  go_wp2
  go_ret2
  exact ⟨_, us, ps, s3, rfl, HO3.out.base hs1, hl2, hx2, hz, hB3⟩
end Go.Proofs.Ytdoclfbfhlgejab
