/-
  Mailboxes in the exact laws: how rows of boxes that came in read, sizes, copies, comparisons. No statement is proved here.
-/
import Derived.Test.YtfiaankfmdpmkaaBox
import Derived.Test.YtfiaankfmdpmkaaSsnO
namespace Go.Proofs.Ytfiaankfmdpmkaa
open Go.ChangeShapes Go.WideShapes Go.ChangeAt Go.RowKit
open Go.ChangeMaps (open_string shut_string)
open Go.Deep

theorem cells2m {H : Type} {enc : TypeId × Value → H} {P : Program} {W : World} {base : Nat} {spare : Nat → Bool} {held : Bool} {T : TypeId} {f0 f1 : Field} {f : Nat} {cs : List Value} {x : DataW H × List MemPlace} (hs : P.underlying T = some (.struct #[f0, f1])) (hone : oneCellFields P #[f0, f1] = true)
    (h : DataW.trod enc P W base spare held f T cs = some x) (hl : cs.length = 2) :
    ∃ c0 c1 y0 y1 n, cs = [c0, c1] ∧ DataW.trod enc P W base spare held n f0.type [c0] = some y0 ∧ DataW.trod enc P W base spare held n f1.type [c1] = some y1 := by
  obtain ⟨ys, n', hn', hy, hlen, hyl, hf⟩ := DataW.trod_struct hs h
  match cs, hl with
  | [c0, c1], _ =>
    have g0 := hf 0 f0 rfl
    have g1 := hf 1 f1 rfl
    obtain ⟨o0, k0⟩ := hone_of hone 0 f0 rfl
    obtain ⟨o1, k1⟩ := hone_of hone 1 f1 rfl
    rw [o0, k0] at g0
    rw [o1, k1] at g1
    match ys, hyl with
    | [y0, y1], _ => exact ⟨c0, c1, y0, y1, n', rfl, g0, g1⟩
set_option maxRecDepth 100000 in
theorem box_cells {H : Type} {enc : TypeId × Value → H} {W : World} {m : Nat} {cs : List Value} {x : DataW H × List MemPlace} (hl : cs.length = 2) (h : DataW.trod enc Try.prog W 0 (fun _ => true) true m 31 cs = some x) :
    ∃ y : BxA, cs = bxC y ∧ RdBx maxLen W y := by
  obtain ⟨c0, c1, y0, y1, n, rfl, g0, g1⟩ := cells2m Try.underlying31 (by kernel_rfl) h hl
  obtain ⟨s0, e0, _, z0⟩ := DataW.trod_string Try.underlying9 g0
  injection e0 with e0 _
  subst e0
  obtain ⟨a, nn, k, xs, rfl, hl', hm, hk, hak, hr⟩ := mails_slice g1
  subst hl'
  exact ⟨⟨s0.data.toList, xs, a, k⟩, by unfold bxC; dsimp only; rw [str_of], hr, z0, hm, hk, hak⟩
set_option maxRecDepth 100000 in
theorem boxes_slice {H : Type} {enc : TypeId × Value → H} {W : World} {m : Nat} {c : Value} {y : DataW H × List MemPlace} (h : DataW.trod enc Try.prog W 0 (fun _ => true) true m 22 [c] = some y) :
    ∃ (a : Option Addr) (n k : Nat) (xs : List BxA), c = .slice a n k ∧ xs.length = n ∧ n ≤ maxLen ∧ n ≤ k ∧ (a = none → k = 0) ∧ RdBs maxLen W a xs := by
  have hC : Try.prog.cellsOf 31 = 2 := by kernel_rfl
  rcases DataW.trod_slice Try.underlying22 h with ⟨e, _⟩ | ⟨g, len, cap, elems, rest, n, hn, e, _, _, hlc, hcm, hel, hi, _⟩
  · injection e with e _
    subst e
    exact ⟨none, 0, 0, [], rfl, rfl, Nat.zero_le _, Nat.le_refl _, fun _ => rfl, ⟨rfl, .inl rfl⟩, fun x hx => by cases hx⟩
  · injection e with e _
    subst e
    have hq : ∀ i, i < len → ∃ (x : BxA), W.cell? (g.add (i * 2)) = some (.string (str x.path)) ∧ W.cell? (g.add (i * 2 + 1)) = some (.slice x.a x.xs.length x.c) ∧ RdBx maxLen W x := by
      intro i hil
      have := hi i hil
      rw [List.getElem?_eq_getElem (by omega)] at this
      obtain ⟨cs, hc, ht⟩ := Option.bind_eq_some_iff.1 this
      rw [hC] at hc
      obtain ⟨_, hcl, hat⟩ := World.cells?_some hc
      obtain ⟨x, rfl, hp⟩ := box_cells hcl ht
      have a0 := hat 0 (by omega)
      have a1 := hat 1 (by omega)
      rw [Go.Deep.add_add] at a0 a1
      exact ⟨x, a0, a1, hp⟩
    obtain ⟨b, off, spot⟩ := g
    refine ⟨_, len, cap, (List.range len).map (fun i => if h : i < len then Classical.choose (hq i h) else ⟨[], [], none, 0⟩), rfl, by simp, by omega, hlc, (fun e => by cases e), ⟨by simp, ?_⟩, fun x hx => ?_⟩
    · by_cases h0 : len = 0
      · exact .inl (by simp [h0])
      · obtain ⟨_, c0, _⟩ := hq 0 (by omega)
        have hspot : spot = none := by simpa [Addr.add] using World.cell?_spot c0
        subst hspot
        rw [addr_noneM] at c0
        refine .inr ⟨b, off, rfl, lt_of_cell c0, fun i hi' d v hd => ?_⟩
        have hil : i < len := by simpa using hi'
        obtain ⟨a0, a1, _⟩ := Classical.choose_spec (hq i hil)
        have E : ∀ j, W.cell? ⟨b, off + j, none⟩ = W.cell? ((⟨b, off, none⟩ : Addr).add j) := fun j => by rw [addr_noneM]
        rw [List.getElem_map, List.getElem_range, dif_pos hil] at hd
        match d, hd with
        | 0, hd => injection hd with hd; subst hd; exact (E _).trans a0
        | 1, hd => injection hd with hd; subst hd; rw [Nat.add_assoc]; exact (E _).trans a1
        | d + 2, hd => cases hd
    · obtain ⟨i, hi, rfl⟩ := List.mem_map.1 hx
      have hil : i < len := List.mem_range.1 hi
      rw [dif_pos hil]
      exact (Classical.choose_spec (hq i hil)).2.2
set_option maxRecDepth 100000 in
theorem open_bxs {H : Type} {enc : TypeId × Value → H} {W : World} {r : Reach} {b0 : Nat} {v : Value} {d : DataW H} {p : List MemPlace} (hv : Value.okWide Try.prog W r b0 22 v)
    (h : DataW.Trod enc Try.prog W 0 (fun _ => true) true 22 v d p) : ∃ (a : Option Addr) (n c : Nat) (xs : List BxA), v = .slice a n c ∧ (xs.length = n ∧ n ≤ maxLen ∧ n ≤ c ∧ (a = none → c = 0) ∧ RdBs maxLen W a xs) := by
  obtain ⟨a, n, c, rfl⟩ := okWide_slice Try.underlying22 hv
  obtain ⟨m, hm⟩ := h
  obtain ⟨a', n', c', xs, e, h1⟩ := boxes_slice (c := .slice a n c) hm
  injection e with e1 e2 e3
  subst e1 e2 e3
  exact ⟨a, n, c, xs, rfl, h1⟩
def SizedB (t : Int) (b : Bx) (w : World) (e : Ending) (w' : World) : Prop := ∃ r : Int, e = .returned (.int .i64 r) ∧ -1 ≤ r ∧ r ≤ t ∧ (0 ≤ r → SmallBx 1048576 b) ∧ Below w.heap.size w w'
theorem sizedB_no {t : Int} {b : Bx} {w w' : World} (ht : 0 ≤ t) (hb : Below w.heap.size w w') : SizedB t b w (.returned (.int .i64 (-1))) w' := ⟨-1, rfl, by omega, by omega, fun h => by omega, hb⟩
set_option maxRecDepth 100000 in
set_option maxHeartbeats 2000000 in
theorem szBox_any (x : BxA) (t : Int) (w : World) (h1 : RdBx maxLen w x) (ht0 : 0 ≤ t) (ht : t ≤ 1048576) :
    Calls Try.prog 9 #[.agg #[.string (str x.path), .slice x.a x.xs.length x.c], .int .i64 t] w (SizedB t x.b w) := by
  have HF := Lib.hid (str_size x.path)
  have z0 : (str x.path).size ≤ 9223372036854775807 := by rw [str_size]; have := h1.2.1; unfold maxLen at this; omega
  have HB : Hid (x.b.path = x.path ∧ x.b.mails = x.xs.map (·.m) ∧ x.b.mails.length = x.xs.length) := ⟨rfl, rfl, by unfold BxA.b; simp⟩
  have H1 : Hid (∀ (q : Int) u, 0 ≤ q → q ≤ 1048576 → Below w.heap.size w u → Calls Try.prog 15 #[.slice x.a x.xs.length x.c, .int .i64 q] u (SizedNs q x.b.mails u)) := fun q u h0 hq hb => szMailS_any x.a x.xs.length x.c x.xs q u rfl (h1.1.below hb) h1.2.2.1 h0 (by omega)
  clear h1
  generalize x.b = bb at *
  generalize str x.path = s1 at *
  generalize x.xs.length = n1 at *
  generalize x.a = a1 at *
  generalize x.c = c1 at *
  have hA : Below w.heap.size w (w.alloc (.cells #[.string s1, .slice a1 n1 c1] 31)) := (Below.refl _ _).alloc (Nat.le_refl _) _
  by_cases k0 : t - s1.size < 0
  · go_enter Try.func9, Try.ntmps9
    go_wp2
    go_ret
    exact sizedB_no ht0 hA
  · go_enter Try.func9, Try.ntmps9
    go_wp2_with fail
    refine (H1.out _ _ (by omega) (by omega) hA).mono ?_
    rintro e w1 ⟨r1, rfl, hr1, hr2, hsz1, hb1⟩
    have HS1 := Lib.hid hsz1
    have hb01 := nx hA hb1
    clear hsz1
    by_cases k1 : r1 < 0
    · go_wp2
      go_ret
      exact sizedB_no ht0 hb01
    · go_wp2
      go_ret
      exact ⟨r1, rfl, by omega, by omega, fun h => ⟨by rw [HB.out.1]; have := HF.out; omega, (HS1.out (by omega)).1, (HS1.out (by omega)).2⟩, hb01⟩
def SizedBs (t : Int) (bs : List Bx) (w : World) (e : Ending) (w' : World) : Prop := ∃ r : Int, e = .returned (.int .i64 r) ∧ -1 ≤ r ∧ r ≤ t ∧ (0 ≤ r → bs.length ≤ 1048576 ∧ ∀ b ∈ bs, SmallBx 1048576 b) ∧ Below w.heap.size w w'
theorem sizedBs_no {t : Int} {bs : List Bx} {w w' : World} (ht : 0 ≤ t) (hb : Below w.heap.size w w') : SizedBs t bs w (.returned (.int .i64 (-1))) w' := ⟨-1, rfl, by omega, by omega, fun h => by omega, hb⟩
set_option maxRecDepth 100000 in
set_option maxHeartbeats 4000000 in
theorem szBoxS_any (a : Option Addr) (n c : Nat) (xs : List BxA) (t : Int) (w : World) (hx : xs.length = n) (h1 : RdBs maxLen w a xs) (hn : n ≤ maxLen) (ht0 : 0 ≤ t) (ht : t ≤ 1048576) :
    Calls Try.prog 4 #[.slice a n c, .int .i64 t] w (SizedBs t (xs.map BxA.b) w) := by
  unfold maxLen at hn
  have X1 := Lib.hid h1
  have L1 := Lib.hid hx
  clear h1 hx
  by_cases hbig : t - n < 0
  · go_enter Try.func4, Try.ntmps4
    go_wp2
    go_ret
    exact sizedBs_no ht0 (Below.refl _ _)
  · go_enter Try.func4, Try.ntmps4
    go_wp2_with fail
    go_loopw [1, 5] (fun l i wr => ∃ (k : Nat) (r : Int), k ≤ n ∧ i = .int .i64 k ∧ l = .int .i64 r ∧ 0 ≤ r ∧ r ≤ t ∧ Below w.heap.size w wr ∧ ∀ j, j < k → (hj : j < xs.length) → SmallBx 1048576 xs[j].b) (fun _ i _ => n - (intOf i).toNat)
    case atStart => exact ⟨0, t - n, Nat.zero_le _, rfl, rfl, by omega, by omega, Below.refl _ _, fun j h => by omega⟩
    case round =>
      obtain ⟨k, r, hk, rfl, rfl, hr0, hrt, hb, hall⟩ := hrel
      have HALL := Lib.hid hall
      clear hall
      by_cases hlt : k < n
      · have j1 : k < xs.length := by rw [L1.out]; exact hlt
        obtain ⟨b1, o1, rfl, hb1, p0, p1, p3⟩ := (X1.out.below hb).at j1
        have hkn : (k : Int) < (n : Int) := by omega
        have hk0 : (0 : Int) ≤ (k : Int) := by omega
        have HC : Hid (Calls Try.prog 9 #[.agg #[.string (str xs[k].path), .slice xs[k].a xs[k].xs.length xs[k].c], .int .i64 r] wr (SizedB r xs[k].b wr)) := szBox_any xs[k] r wr p3 hr0 (by omega)
        clear p3
        obtain ⟨q, hq⟩ : ∃ q, q = xs[k].b := ⟨_, rfl⟩
        have HQ := Lib.hid hq
        rw [← hq] at HC
        clear hq
        generalize str xs[k].path = ss1 at *
        generalize xs[k].a = aa1 at *
        generalize xs[k].xs.length = nn1 at *
        generalize xs[k].c = cc1 at *
        go_wp2_with fail
        refine HC.out.mono ?_
        rintro e w5 ⟨r2, rfl, hr1, hr2, hsm, hb5⟩
        have HSM := Lib.hid hsm
        have hbx := nx hb hb5
        clear hsm p0 p1
        by_cases hneg : r2 < 0
        · go_wp2
          go_ret
          exact sizedBs_no ht0 hbx
        · go_wp2
          go_roundw
          case rel => exact ⟨k + 1, r2, by omega, by go_num, rfl, by omega, by omega, hbx, fun j hj hjx => by
            by_cases e : j = k
            · subst e; rw [← HQ.out]; exact HSM.out (by omega)
            · exact HALL.out j (by omega) hjx⟩
          case measure => simp [intOf]; omega
      · go_wp2
        go_ret
        exact ⟨r, rfl, by omega, hrt, fun _ => ⟨by rw [List.length_map, L1.out]; omega, fun m hm => by
          obtain ⟨x, hx, rfl⟩ := List.mem_map.1 hm
          obtain ⟨j, hj, rfl⟩ := List.getElem_of_mem hx
          exact HALL.out j (by have := L1.out; omega) hj⟩, hb⟩
set_option maxRecDepth 100000 in
set_option maxHeartbeats 4000000 in
theorem eqBoxS_any (M : Nat) (a1 a2 : Option Addr) (n1 c1 n2 c2 : Nat) (xs ys : List BxA) (w : World) (hx : xs.length = n1) (hy : ys.length = n2) (h1 : RdBs M w a1 xs) (h2 : RdBs M w a2 ys) (hM : M ≤ maxLen) (hn1 : n1 ≤ maxLen) (hn2 : n2 ≤ maxLen) :
    Calls Try.prog 8 #[.slice a1 n1 c1, .slice a2 n2 c2] w fun e w' => e = .returned (.bool (decide (xs.map BxA.b = ys.map BxA.b))) ∧ Below w.heap.size w w' := by
  unfold maxLen at hn1 hn2
  have X1 := Lib.hid h1
  have X2 := Lib.hid h2
  have L1 := Lib.hid hx
  have L2 := Lib.hid hy
  clear h1 h2 hx hy
  by_cases hn : n1 = n2
  · subst hn
    have e1 : ((n1 : Int) != (n1 : Int)) = false := by simp
    go_enter Try.func8, Try.ntmps8
    go_wp2_with fail
    go_loopw [5] (fun i wr => ∃ k : Nat, k ≤ n1 ∧ i = .int .i64 k ∧ Below w.heap.size w wr ∧ (xs.take k).map BxA.b = (ys.take k).map BxA.b) (fun i _ => n1 - (intOf i).toNat)
    case atStart => exact ⟨0, Nat.zero_le _, rfl, Below.refl _ _, rfl⟩
    case round =>
      obtain ⟨k, hk, rfl, hb, htk⟩ := hrel
      have HTK := Lib.hid htk
      clear htk
      by_cases hlt : k < n1
      · have k1 : k < xs.length := by rw [L1.out]; exact hlt
        have k2 : k < ys.length := by rw [L2.out]; exact hlt
        obtain ⟨b1, o1, rfl, hb1, p0, p1, p3⟩ := (X1.out.below hb).at k1
        obtain ⟨b2, o2, rfl, hb2, q0, q1, q3⟩ := (X2.out.below hb).at k2
        have hkn : (k : Int) < (n1 : Int) := by omega
        have hk0 : (0 : Int) ≤ (k : Int) := by omega
        have HC : Hid (∀ y : BelowT wr, Calls Try.prog 14 #[.agg #[.string (str xs[k].path), .slice xs[k].a xs[k].xs.length xs[k].c], .agg #[.string (str ys[k].path), .slice ys[k].a ys[k].xs.length ys[k].c]] y.val fun e w' => e = .returned (.bool (decide (xs[k].b = ys[k].b))) ∧ Below y.val.heap.size y.val w') := fun y => eqBox_any M xs[k] ys[k] y.val (p3.below y.below) (q3.below y.below) hM
        have z0 : ∀ y : BelowT wr, y.val.cell? ⟨b1, o1 + k * 2, none⟩ = _ := fun y => by rw [below_at y.below hb1, p0]
        have z1 : ∀ y : BelowT wr, y.val.cell? ⟨b1, o1 + k * 2 + 1, none⟩ = _ := fun y => by rw [below_at y.below hb1, p1]
        have z3 : ∀ y : BelowT wr, y.val.cell? ⟨b2, o2 + k * 2, none⟩ = _ := fun y => by rw [below_at y.below hb2, q0]
        have z4 : ∀ y : BelowT wr, y.val.cell? ⟨b2, o2 + k * 2 + 1, none⟩ = _ := fun y => by rw [below_at y.below hb2, q1]
        have HBB := Lib.hid hb
        have HT1 := Lib.hid (take_bxs k1)
        have HT2 := Lib.hid (take_bxs k2)
        have HNE := Lib.hid (bxs_ne k1 k2)
        clear p0 p1 p3 q0 q1 q3 hb
        by_cases hq : xs[k].b = ys[k].b
        · have HN : Hid ((xs.take (k + 1)).map BxA.b = (ys.take (k + 1)).map BxA.b) := by show _ = _; rw [HT1.out, HT2.out, HTK.out, hq]
          rw [decide_eq_true hq] at HC
          clear hq HT1 HT2 HNE
          generalize xs[k] = x at *
          generalize ys[k] = y at *
          go_wp2_with fail
          refine wp_region_quietB (W := wr) (by kernel_rfl) (by kernel_rfl) (Below.refl _ _) ?_
          repeat (go_big_quiet_step (first
            | (go_at_call 14; exact calls_belowT (HC.out _))))
          refine wpQuiet_nil ?_
          intro wz hwz
          obtain ⟨x9, rfl⟩ := hwz
          have hbx := nx HBB.out x9.below
          clear z0 z1 z3 z4
          generalize x9.val = w9 at *
          go_wp2
          go_roundw
          case rel => exact ⟨k + 1, by omega, by go_num, hbx, HN.out⟩
          case measure => simp [intOf]; omega
        · have HN : Hid (xs.map BxA.b ≠ ys.map BxA.b) := HNE.out hq
          rw [decide_eq_false hq] at HC
          clear hq HT1 HT2 HNE
          generalize xs[k] = x at *
          generalize ys[k] = y at *
          go_wp2_with fail
          refine wp_region_quietB (W := wr) (by kernel_rfl) (by kernel_rfl) (Below.refl _ _) ?_
          repeat (go_big_quiet_step (first
            | (go_at_call 14; exact calls_belowT (HC.out _))))
          refine wpQuiet_nil ?_
          intro wz hwz
          obtain ⟨x9, rfl⟩ := hwz
          have hbx := nx HBB.out x9.below
          clear z0 z1 z3 z4
          generalize x9.val = w9 at *
          go_wp2
          go_ret
          exact ⟨ret_bool (decide_eq_false HN.out).symm, hbx⟩
      · have HN : Hid (xs.map BxA.b = ys.map BxA.b) := bxs_all L1.out L2.out (by omega) HTK.out
        go_wp2
        go_ret
        exact ⟨ret_bool (decide_eq_true HN.out).symm, hb⟩
  · have e1 : ((n1 : Int) != (n2 : Int)) = true := by rw [bne_iff_ne]; omega
    have HN : Hid (xs.map BxA.b ≠ ys.map BxA.b) := by show _ ≠ _; intro e; have := congrArg List.length e; rw [List.length_map, List.length_map, L1.out, L2.out] at this; exact hn this
    go_enter Try.func8, Try.ntmps8
    go_wp2
    go_ret
    exact ⟨ret_bool (decide_eq_false HN.out).symm, Below.refl _ _⟩
/-- A box of the call's own. -/
def OwnBx (B : Nat) (w : World) (x : BxA) : Prop := HiMs B w x.a x.xs ∧ x.xs.length ≤ x.c ∧ (x.a = none → x.c = 0)
theorem OwnBx.keep {B : Nat} {w w' : World} {x : BxA} (h : OwnBx B w x) (k : Below w.heap.size w w') : OwnBx B w' x := ⟨h.1.keep k, h.2⟩
theorem OwnBx.low {B g i : Nat} {w : World} {x : BxA} (h : OwnBx B w x) (hg : g < B) (z : Value) : OwnBx B (w.setCell ⟨g, i, none⟩ z) x := ⟨h.1.low hg z, h.2⟩
theorem OwnBx.base {B C : Nat} {w : World} {x : BxA} (h : OwnBx B w x) (k : C ≤ B) : OwnBx C w x := ⟨h.1.base k, h.2⟩
theorem OwnBx.rd {B M : Nat} {w : World} {x : BxA} (h : OwnBx B w x) (hs : SmallBx M x.b) : RdBx M w x :=
  ⟨h.1.rd (fun y hy => hs.2.2 y.m (List.mem_map_of_mem hy)), hs.1, by have := hs.2.1; unfold BxA.b at this; rw [List.length_map] at this; exact this, h.2⟩
def BxRet (b : Bx) (w : World) (e : Ending) (w' : World) : Prop := ∃ x : BxA, x.b = b ∧ e = .returned (.agg #[.string (str x.path), .slice x.a x.xs.length x.c]) ∧ OwnBx w.heap.size w' x ∧ Below w.heap.size w w'
def MF2 (w : World) (g : Nat) (v0 v1 : Value) : Prop := MK2 w g v0 v1 ∧ ∀ i, w.frozen? ⟨g, i, none⟩ = false
theorem MF2.new (w : World) (v0 v1 : Value) (t : TypeId) : MF2 (w.alloc (.cells #[v0, v1] t)) w.heap.size v0 v1 :=
  ⟨MK2.new w v0 v1 t, fun i => by rw [World.frozen?_alloc_at _ _ _ _ rfl]⟩
theorem MF2.below {w w' : World} {g : Nat} {v0 v1 : Value} (h : MF2 w g v0 v1) (hb : Below w.heap.size w w') : MF2 w' g v0 v1 := by
  have hl := lt_of_cell h.1.1
  exact ⟨h.1.below hb, fun i => (below_fz hb hl).trans (h.2 i)⟩
set_option maxRecDepth 100000 in
set_option maxHeartbeats 4000000 in
theorem toBox_any (x : BxA) (w : World) (h : RdBx 1048576 w x) :
    Calls Try.prog 11 #[.agg #[.string (str x.path), .slice x.a x.xs.length x.c]] w (BxRet x.b w) := by
  have hn : x.xs.length ≤ 1048576 := h.2.2.1
  have HD : Hid (∀ (a' : Option Addr) (ys : List MlA) (w' : World), ys.map (·.m) = x.xs.map (·.m) → ys.length = x.xs.length → HiMs w.heap.size w' a' ys → (a' = none → x.xs.length = 0) → Below w.heap.size w w' → BxRet x.b w (.returned (.agg #[.string (str x.path), .slice a' x.xs.length x.xs.length])) w') :=
    fun a' ys w' h1 h2 h3 h4 h5 => ⟨⟨x.path, ys, a', x.xs.length⟩, by unfold BxA.b; dsimp only; rw [h1], by dsimp only; rw [h2], ⟨h3, by rw [h2]; exact Nat.le_refl _, h4⟩, h5⟩
  have HM : Hid (∀ u, Below w.heap.size w u → Calls Try.prog 17 #[.slice x.a x.xs.length x.c] u (MsRet (x.xs.map (·.m)) x.xs.length u)) := fun u hb => toMailS_any x.a x.xs.length x.c x.xs u rfl (h.1.below hb) hn
  clear h
  generalize x.b = bb at *
  generalize x.xs.map (·.m) = ms at *
  generalize x.xs.length = n1 at *
  generalize str x.path = s1 at *
  generalize x.a = a1 at *
  generalize x.c = c1 at *
  have hbP : Below w.heap.size w (w.alloc (.cells #[.string s1, .slice a1 n1 c1] 31)) := (Below.refl _ _).alloc (Nat.le_refl _) _
  have hz1 : (w.alloc (.cells #[.string s1, .slice a1 n1 c1] 31)).heap.size = w.heap.size + 1 := by simp
  have hbZ : Below (w.alloc (.cells #[.string s1, .slice a1 n1 c1] 31)).heap.size (w.alloc (.cells #[.string s1, .slice a1 n1 c1] 31)) ((w.alloc (.cells #[.string s1, .slice a1 n1 c1] 31)).alloc (.cells #[.string ⟨#[]⟩, .slice none 0 0] 34)) := (Below.refl _ _).alloc (Nat.le_refl _) _
  have hz2 : ((w.alloc (.cells #[.string s1, .slice a1 n1 c1] 31)).alloc (.cells #[.string ⟨#[]⟩, .slice none 0 0] 34)).heap.size = w.heap.size + 1 + 1 := by simp
  have hbO : Below ((w.alloc (.cells #[.string s1, .slice a1 n1 c1] 31)).alloc (.cells #[.string ⟨#[]⟩, .slice none 0 0] 34)).heap.size ((w.alloc (.cells #[.string s1, .slice a1 n1 c1] 31)).alloc (.cells #[.string ⟨#[]⟩, .slice none 0 0] 34)) (((w.alloc (.cells #[.string s1, .slice a1 n1 c1] 31)).alloc (.cells #[.string ⟨#[]⟩, .slice none 0 0] 34)).alloc (.cells #[.string s1, .slice none 0 0] 34)) := (Below.refl _ _).alloc (Nat.le_refl _) _
  have HZ : Hid (MF2 (((w.alloc (.cells #[.string s1, .slice a1 n1 c1] 31)).alloc (.cells #[.string ⟨#[]⟩, .slice none 0 0] 34)).alloc (.cells #[.string s1, .slice none 0 0] 34)) (w.heap.size + 1) (.string ⟨#[]⟩) (.slice none 0 0)) := by
    have := (MF2.new (w.alloc (.cells #[.string s1, .slice a1 n1 c1] 31)) (.string ⟨#[]⟩) (.slice none 0 0) 34).below hbO
    rw [hz1] at this; exact this
  have HO : Hid (MF2 (((w.alloc (.cells #[.string s1, .slice a1 n1 c1] 31)).alloc (.cells #[.string ⟨#[]⟩, .slice none 0 0] 34)).alloc (.cells #[.string s1, .slice none 0 0] 34)) (w.heap.size + 1 + 1) (.string s1) (.slice none 0 0)) := by
    have := MF2.new ((w.alloc (.cells #[.string s1, .slice a1 n1 c1] 31)).alloc (.cells #[.string ⟨#[]⟩, .slice none 0 0] 34)) (.string s1) (.slice none 0 0) 34
    rw [hz2] at this; exact this
  have hb0 := nx hbP (nx hbZ hbO)
  have hsz : w.heap.size + 1 + 1 < (((w.alloc (.cells #[.string s1, .slice a1 n1 c1] 31)).alloc (.cells #[.string ⟨#[]⟩, .slice none 0 0] 34)).alloc (.cells #[.string s1, .slice none 0 0] 34)).heap.size := by simp
  clear hbP hbZ hbO hz1 hz2
  go_enter Try.func11, Try.ntmps11
  go_wp2_with fail
  generalize (((w.alloc (.cells #[.string s1, .slice a1 n1 c1] 31)).alloc (.cells #[.string ⟨#[]⟩, .slice none 0 0] 34)).alloc (.cells #[.string s1, .slice none 0 0] 34)) = W0 at *
  refine (HM.out W0 hb0).mono ?_
  rintro e w1 ⟨a2, ys, rfl, hy1, hy2, hy3, hy4, hb1⟩
  have HY1 := Lib.hid hy1
  have HY2 := Lib.hid hy2
  have HY3 := Lib.hid hy3
  have HY4 := Lib.hid hy4
  have HZ1 := Lib.hid (HZ.out.below hb1)
  have HO1 := Lib.hid (HO.out.below hb1)
  have hb01 := nx hb0 hb1
  clear hy1 hy2 hy3 hy4 hb1
  obtain ⟨⟨o0, o1⟩, of⟩ := HO1.out
  obtain ⟨⟨q0, q1⟩, qf⟩ := HZ1.out
  go_wp2
  refine bodyPost_ret (v := .agg #[.string s1, .slice a2 n1 n1]) (by simp [results, Try.results11, go_sem, q0, q1]) rfl ?_
  exact HD.out a2 ys _ HY1.out HY2.out ((((HY3.out.low (g := w.heap.size + 1 + 1) (i := 1) (by omega) _).low (g := w.heap.size + 1) (i := 0) (by omega) _).low (g := w.heap.size + 1) (i := 1) (by omega) _).base (by omega)) HY4.out (((hb01.setCell (by show w.heap.size ≤ w.heap.size + 1 + 1; omega) _).setCell (by show w.heap.size ≤ w.heap.size + 1; omega) _).setCell (by show w.heap.size ≤ w.heap.size + 1; omega) _)
theorem bxInfo : (Try.prog.info? 34).map (fun i => (i.zero, i.size, i.bytes)) = some (some (.agg #[.string ⟨#[]⟩, .slice none 0 0]), 2, 40) := by kernel_rfl
theorem set2_getM {L : List Value} {k : Nat} (h : k * 2 + 1 < L.length) (s0 s1 : Value) : ((L.set (k * 2) s0).set (k * 2 + 1) s1)[k * 2]? = some s0 ∧ ((L.set (k * 2) s0).set (k * 2 + 1) s1)[k * 2 + 1]? = some s1 ∧
    ∀ i, i < k * 2 → ((L.set (k * 2) s0).set (k * 2 + 1) s1)[i]? = L[i]? := by
  refine ⟨?_, ?_, fun i hi => ?_⟩
  · rw [List.getElem?_set_ne (by omega), List.getElem?_set_self (by omega)]
  · rw [List.getElem?_set_self (by simp; omega)]
  · rw [List.getElem?_set_ne (by omega), List.getElem?_set_ne (by omega)]
def brow (B : Nat) (w : World) (L : List Value) (b : Bx) (j : Nat) : Prop := ∃ x : BxA, x.b = b ∧ L[j * 2]? = some (.string (str x.path)) ∧ L[j * 2 + 1]? = some (.slice x.a x.xs.length x.c) ∧ OwnBx B w x
/-- A row of boxes, all in blocks from B on. -/
def HiBs (B : Nat) (w : World) (a : Option Addr) (ys : List BxA) : Prop := (ys.length = 0 ∨ ∃ b, a = some ⟨b, 0, none⟩ ∧ B ≤ b ∧ b < w.heap.size ∧ ∀ i, (h : i < ys.length) → ∀ d v, (bxC ys[i])[d]? = some v → w.cell? ⟨b, 0 + i * 2 + d, none⟩ = some v) ∧ ∀ y ∈ ys, OwnBx B w y
theorem HiBs.rd {B M : Nat} {w : World} {a : Option Addr} {ys : List BxA} (h : HiBs B w a ys) (hs : ∀ y ∈ ys, SmallBx M y.b) : RdBs M w a ys := by
  refine ⟨⟨rfl, ?_⟩, fun y hy => (h.2 y hy).rd (hs y hy)⟩
  rcases h.1 with e | ⟨b, e, hB, hl, hc⟩
  · exact .inl e
  · exact .inr ⟨b, 0, e, hl, hc⟩
def BsRet (bs : List Bx) (n : Nat) (w : World) (e : Ending) (w' : World) : Prop := ∃ (a : Option Addr) (ys : List BxA), e = .returned (.slice a n n) ∧ ys.map BxA.b = bs ∧ ys.length = n ∧ HiBs w.heap.size w' a ys ∧ (a = none → n = 0) ∧ Below w.heap.size w w'
set_option maxRecDepth 100000 in
set_option maxHeartbeats 4000000 in
theorem toBoxS_any (a : Option Addr) (n c : Nat) (xs : List BxA) (w : World) (hx : xs.length = n) (h1 : RdBs 1048576 w a xs) (hn : n ≤ 1048576) :
    Calls Try.prog 6 #[.slice a n c] w (BsRet (xs.map BxA.b) n w) := by
  obtain ⟨i0, hi, hz0, hz1, hz2⟩ := info_parts bxInfo
  have HLEN := Lib.hid hx
  have HR := Lib.hid h1
  clear hx h1
  go_enter Try.func6, Try.ntmps6
  go_wp2_with (at_make; refine wpList_make_full _ rfl _ _ 25 rfl w.heap.size 34 i0 (.agg #[.string ⟨#[]⟩, .slice none 0 0]) 2 Try.underlying25 hi hz0 hz1 _ _ (n : Int) (n : Int) n rfl rfl rfl rfl ?c1 ?c2 ?c3 ?_)
  case c1 => rw [hz2]; omega
  case c2 => unfold maxLen; omega
  case c3 => exact Nat.le_refl _
  intro w1 hown hgrow
  have hb1 : Below w.heap.size w w1 := (Below.refl _ _).grown hgrow (Nat.le_refl _) (fun k hk => by cases hk)
  have hsz1 := (hown.lt w.heap.size rfl).2
  go_wp2_with fail
  go_loopw [4] (fun i wr => ∃ (k : Nat) (L : List Value), k ≤ n ∧ i = .int .i64 k ∧ Below w.heap.size w wr ∧ wr.ownsRow w.heap.size 34 2 (.slice (some ⟨w.heap.size, 0, none⟩) n n) n L ∧ w.heap.size < wr.heap.size ∧ ∀ j, j < k → (hj : j < xs.length) → brow (w.heap.size + 1) wr L xs[j].b j) (fun i _ => n - (intOf i).toNat)
  case atStart => exact ⟨0, _, Nat.zero_le _, rfl, hb1, hown, hsz1, fun j h => by omega⟩
  case round =>
    obtain ⟨k, L, hk, rfl, hb, hO, hzr, hL⟩ := hrel
    have HL := Lib.hid hL
    clear hL
    by_cases hlt : k < n
    · have dk : decide ((k : Int) < n) = true := decide_eq_true (by omega)
      have hkx : k < xs.length := by rw [HLEN.out]; exact hlt
      obtain ⟨b, off, rfl, hbl, q0, q1, q3⟩ := (HR.out.below hb).at hkx
      have HC : Hid (Calls Try.prog 11 #[.agg #[.string (str xs[k].path), .slice xs[k].a xs[k].xs.length xs[k].c]] wr (BxRet xs[k].b wr)) := toBox_any xs[k] wr q3
      have hlL : L.length = n * 2 := hO.1
      have h3 : k * 2 + 1 < L.length := by rw [hlL]; omega
      have HS3 := Lib.hid (set2_getM h3)
      clear q3
      obtain ⟨q, hq⟩ : ∃ q, q = xs[k].b := ⟨_, rfl⟩
      have HQ := Lib.hid hq
      rw [← hq] at HC
      clear hq
      generalize str xs[k].path = ss1 at *
      generalize xs[k].a = aa1 at *
      generalize xs[k].xs.length = nn1 at *
      generalize xs[k].c = cc1 at *
      go_wp2_with fail
      refine HC.out.mono ?_
      rintro e w2 ⟨x, hxq, rfl, hox, hb2⟩
      have HOX := Lib.hid hox
      have HXQ := Lib.hid hxq
      have hO2 := row_keepM hO hb2
      have hb02 := nx hb hb2
      have hz2' : w.heap.size < w2.heap.size := Nat.lt_of_lt_of_le hzr hb2.size
      obtain ⟨v0, hv0⟩ := row_cellM hO2 (k * 2) (by omega)
      obtain ⟨v1, hv1⟩ := row_cellM hO2 (k * 2 + 1) (by omega)
      have f0 : w2.frozen? ⟨w.heap.size, k * 2, none⟩ = false := hO2.frozenAt _
      have f1 : w2.frozen? ⟨w.heap.size, k * 2 + 1, none⟩ = false := hO2.frozenAt _
      have HST := Lib.hid ((hO2.stored (k * 2) (.string (str x.path))).1.stored (k * 2 + 1) (.slice x.a x.xs.length x.c)).1
      have HNX : Hid (∀ j, j < k + 1 → (hj : j < xs.length) → brow (w.heap.size + 1) ((w2.setCell ⟨w.heap.size, k * 2, none⟩ (.string (str x.path))).setCell ⟨w.heap.size, k * 2 + 1, none⟩ (.slice x.a x.xs.length x.c)) ((L.set (k * 2) (.string (str x.path))).set (k * 2 + 1) (.slice x.a x.xs.length x.c)) xs[j].b j) := fun j hj hjx => by
        obtain ⟨e0, e1, e3⟩ := HS3.out (.string (str x.path)) (.slice x.a x.xs.length x.c)
        by_cases e : j = k
        · subst e
          exact ⟨x, by rw [HXQ.out, HQ.out], e0, e1, ((OwnBx.base HOX.out (by omega)).low (Nat.lt_succ_self _) _).low (Nat.lt_succ_self _) _⟩
        · obtain ⟨x0, k0, k1, k2, k4⟩ := HL.out j (by omega) hjx
          exact ⟨x0, k0, by rw [e3 _ (by omega), k1], by rw [e3 _ (by omega), k2], ((k4.keep hb2).low (Nat.lt_succ_self _) _).low (Nat.lt_succ_self _) _⟩
      clear hlL h3 hO hO2 hox hxq
      generalize str x.path = xs0 at *
      generalize x.xs.length = xn at *
      generalize x.a = xa at *
      generalize x.c = xc at *
      go_wp2
      go_roundw
      case rel => exact ⟨k + 1, _, by omega, by go_num, ((hb02.setCell (by simp) _).setCell (by simp) _), HST.out, by simpa using hz2', HNX.out⟩
      case measure => simp [intOf]; omega
    · have dk : decide ((k : Int) < n) = false := decide_eq_false (by omega)
      have hex : ∀ i, (h : i < xs.length) → ∃ x : BxA, x.b = xs[i].b ∧ L[i * 2]? = some (.string (str x.path)) ∧ L[i * 2 + 1]? = some (.slice x.a x.xs.length x.c) ∧ OwnBx (w.heap.size + 1) wr x := fun i h => HL.out i (by have := HLEN.out; omega) h
      have HYS : Hid (∃ ys : List BxA, ys.map BxA.b = xs.map BxA.b ∧ ys.length = n ∧ HiBs w.heap.size wr (some ⟨w.heap.size, 0, none⟩) ys) := by
        refine ⟨(List.range xs.length).map (fun i => if h : i < xs.length then Classical.choose (hex i h) else ⟨[], [], none, 0⟩), ?_, by simp [HLEN.out], ?_⟩
        · apply List.ext_getElem (by simp)
          intro i h1 h2
          have hix : i < xs.length := by simpa using h2
          simp only [List.getElem_map, List.getElem_range]
          rw [dif_pos hix]
          exact (Classical.choose_spec (hex i hix)).1
        · have C : ∀ j z, L[j]? = some z → wr.cell? ⟨w.heap.size, 0 + j, none⟩ = some z := fun j z hz => by
            have := hO.cells (g := w.heap.size) rfl j z hz
            rw [add0] at this
            rw [Nat.zero_add]; exact this
          refine ⟨.inr ⟨w.heap.size, rfl, Nat.le_refl _, hzr, fun i hi d v hd => ?_⟩, fun x hx => ?_⟩
          · have hix : i < xs.length := by simpa using hi
            rw [List.getElem_map, List.getElem_range, dif_pos hix] at hd
            obtain ⟨_, k1, k2, _⟩ := Classical.choose_spec (hex i hix)
            match d, hd with
            | 0, hd => injection hd with hd; subst hd; exact C _ _ k1
            | 1, hd => injection hd with hd; subst hd; rw [Nat.add_assoc]; exact C _ _ k2
            | d + 2, hd => cases hd
          · obtain ⟨i, hi, rfl⟩ := List.mem_map.1 hx
            have hix : i < xs.length := List.mem_range.1 hi
            rw [dif_pos hix]
            obtain ⟨k0, _, _, k4⟩ := Classical.choose_spec (hex i hix)
            exact k4.base (Nat.le_succ _)
      clear hO hex
      go_wp2
      go_ret
      obtain ⟨ys, y1, y2, y3⟩ := HYS.out
      exact ⟨_, ys, rfl, y1, y2, y3, (fun h => by cases h), hb⟩
end Go.Proofs.Ytfiaankfmdpmkaa
