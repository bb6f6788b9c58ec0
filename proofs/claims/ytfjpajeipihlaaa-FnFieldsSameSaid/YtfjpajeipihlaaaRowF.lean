/-
  Rows of fields: one behind the other, a field put into a row. No statement is proved here.
-/
import Derived.Test.YtfjpajeipihlaaaDrawF2
namespace Go.Proofs.Ytfjpajeipihlaaa
open Go.RowKit

theorem OwnR.keepB {α : Type} {T : TypeId} {k : Nat} {f : α → List Value} {B C : Nat} {v : Value} {xs : List α} {w w' : World} (h : OwnR T k f B v xs w) (b : Below C w w') (hl : ∀ g, v.ownBlock = some g → g < C) : OwnR T k f B v xs w' := by
  refine ⟨h.1, ?_⟩
  rcases h.2 with hn | ⟨g, cap, cur, hv, hg1, hg2, rest⟩
  · exact .inl hn
  · exact .inr ⟨g, cap, cur, hv, hg1, by rw [b.block g (hl g (by rw [hv]; rfl)), hg2], rest⟩
theorem wpList_append_F {ops : Array Oper} {rest : List Oper} {o : Oper} {Q : Exit → Act → World → Prop} {a : Act} {w : World} (hg : o.guard = none) (s x : Operand)
    (ho : o.op = .call { callee := .builtin .append, args := #[s, x], argTypes := #[35, 35] })
    (B B2 : Nat) (v u : Value) (xs ys : List Fld) (hs : a.eval s = v) (hx : a.eval x = u) (hown : OwnF B v xs w) (hy : OwnF B2 u ys w) (hB : B ≤ w.heap.size) (hl : xs.length + ys.length ≤ 1000000)
    (h : ∀ v' w', OwnF B v' (xs ++ ys) w' → Below B w w' → wpList Try.prog ops Q rest (a.put o.dst v') w') : wpList Try.prog ops Q (o :: rest) a w := by
  obtain ⟨i0, hi, hz0, hz1, hz2⟩ := info_parts fInfo
  have hys := hy
  unfold OwnF OwnR at hys hown
  rcases hys.2 with ⟨hv, h0⟩ | ⟨g, cap, cur, hv, _⟩
  · subst hv
    have hn : ys = [] := List.length_eq_zero_iff.1 h0
    refine wpList_append_own_none hg s x 35 ho B 54 i0 2 Try.underlying35 hi v xs.length (xs.flatMap fldC) hs hown hx ?_
    refine h v w ?_ (Below.refl _ _)
    subst hn
    rw [List.append_nil]; exact hown
  · subst hv
    refine wpList_append_own w hg s x 35 ho B 54 i0 (.agg #[.string ⟨#[]⟩, .string ⟨#[]⟩]) 2 32 Try.underlying35 hi hz0 hz1 hz2 rfl (by decide) v xs.length (xs.flatMap fldC) hs hown ⟨g, 0, none⟩ ys.length cap (ys.flatMap fldC) hx (flat_len fldC 2 fldC_len ys) ?_ ?_ ?_ ?_ hB ?_
    · intro j z hj
      exact hys.cells (g := g) rfl j z hj
    · intro z hz
      obtain ⟨q, _, hq⟩ := List.mem_flatMap.1 hz
      unfold fldC at hq
      simp at hq
      rcases hq with rfl | rfl <;> rfl
    · unfold maxLen; omega
    · omega
    · intro v' w' ho' hgr _
      refine h v' w' ?_ ?_
      · unfold OwnF OwnR; rw [List.length_append, List.flatMap_append]; exact ho'
      · exact (Below.refl _ _).grown hgr hB (fun k hk => (World.ownsRow.lt hown k hk).1)
theorem own_cases {B : Nat} {v : Value} {xs : List Fld} {w : World} (h : OwnF B v xs w) (h0 : xs.length ≠ 0) : ∃ g cap, v = .slice (some ⟨g, 0, none⟩) xs.length cap ∧ B ≤ g := by
  have ho := h
  unfold OwnF OwnR at ho
  rcases ho.2 with ⟨_, h0'⟩ | ⟨g, cap, cur, rfl, hBg, _⟩
  · exact absurd h0' h0
  · exact ⟨g, cap, rfl, hBg⟩
/-- What a row of fields has where a field is put. -/
theorem own_put {B g cap k : Nat} {xs : List Fld} {w : World} (h : OwnF B (.slice (some ⟨g, 0, none⟩) xs.length cap) xs w) (hk : k < xs.length) (y : Fld) :
    (∃ v, w.cell? ⟨g, k * 2, none⟩ = some v) ∧ (∃ v, w.cell? ⟨g, k * 2 + 1, none⟩ = some v) ∧ w.frozen? ⟨g, k * 2, none⟩ = false ∧ w.frozen? ⟨g, k * 2 + 1, none⟩ = false ∧
    OwnF B (.slice (some ⟨g, 0, none⟩) xs.length cap) (xs.set k y) ((w.setCell ⟨g, k * 2, none⟩ (.string (str y.name))).setCell ⟨g, k * 2 + 1, none⟩ (.string (str y.val))) := by
  have hw := h
  unfold OwnF OwnR at hw
  have hlf : (xs.flatMap fldC).length = xs.length * 2 := flat_len fldC 2 fldC_len xs
  refine ⟨?_, ?_, hw.frozenAt _, hw.frozenAt _, ?_⟩
  · have := hw.cells (g := g) rfl (k * 2) _ (List.getElem?_eq_getElem (by omega))
    rw [add0] at this; exact ⟨_, this⟩
  · have := hw.cells (g := g) rfl (k * 2 + 1) _ (List.getElem?_eq_getElem (by omega))
    rw [add0] at this; exact ⟨_, this⟩
  · have hs := ((hw.stored (k * 2) (.string (str y.name))).1.stored (k * 2 + 1) (.string (str y.val))).1
    unfold OwnF OwnR
    rw [← set2_flat y hk, List.length_set]; exact hs
/-- Two lists of at most four fields are drawn. -/
def DrawnFF (w : World) (e : Ending) (w' : World) : Prop := ∃ (v u : Value) (xs ys : List Fld), e = .returned (.tuple #[v, u]) ∧ OwnF w.heap.size v xs w' ∧ OwnF w.heap.size u ys w' ∧ xs.length ≤ 4 ∧ ys.length ≤ 4 ∧ Below w.heap.size w w'
set_option maxRecDepth 100000 in
set_option maxHeartbeats 1000000 in
theorem drawFieldsSame_any (a : Option Addr) (n c : Nat) (w : World) (hc : Code w a n) (hnc : n ≤ c) (hm : c ≤ maxLen) :
    Calls Try.prog 29 #[.slice a n c] w (DrawnFF w) := by
  go_enter Try.func29, Try.ntmps29
  go_wp2_with fail
  refine (open_any a n c w hc hnc hm).mono ?_
  rintro e w1 ⟨R, rfl, hR, hr1, hb1⟩
  have hRl := hr1.lt
  have hs1 := hb1.size
  go_wp2_with fail
  refine (l3List_any R 0 w1 hr1 (by omega)).mono ?_
  rintro e w2 ⟨v2, xs, p2, rfl, ho2, hl2, hx2, f2, k2, hr2, ht2⟩
  have hs2 := ht2.size
  have hA : Below w2.heap.size w2 (w2.alloc (.cells #[] 54)) := (Below.refl _ _).alloc (Nat.le_refl _) _
  have hblk : ∀ g, v2.ownBlock = some g → g < w2.heap.size := fun g hg => (OwnR.lt ho2 g hg).2
  go_wp2_with (at_builtin; refine wpList_append_F rfl _ _ rfl w2.heap.size w1.heap.size _ _ [] xs rfl rfl (OwnR.empty _ _ _ w2) (ho2.keep hA) (by simp) (by simp; omega) ?_)
  intro v4 w4 ho4 hb4
  have hB4 : Below w2.heap.size w2 w4 := hA.trans hb4
  have hs4 := hB4.size
  have hO4 : OwnF w1.heap.size v2 xs w4 := OwnR.keep ho2 hB4
  have hr4 := hr2.below hB4
  have ht4 : Touch R w1 w4 := ht2.ext (hB4.mono hs2)
  have hB := after_open hb1 hR ht4
  clear hb4 hA hB4 hx2
  obtain ⟨a4, c4, rfl, hd4, _, _⟩ := ho4.read fldC_len
  by_cases h0 : xs.length = 0
  · have hz : ¬ ((0 : Int) < (xs.length : Int)) := by omega
    have HO4 := Lib.hid ho4
    have HH4 := Lib.hid hO4
    have h0i : ((xs.length : Nat) : Int) = 0 := by omega
    clear ho4 hO4 hd4
    go_wp2
    go_ret2
    exact ⟨_, _, xs, xs, rfl, HH4.out.base hs1, by first | exact HO4.out.base (by omega) | (have := HO4.out; rw [h0] at this; exact this.base (by omega)), hl2, hl2, hB⟩
  · obtain ⟨g, cap, hv, hBg⟩ := own_cases ho4 h0
    injection hv with h1 _ h3
    subst h1 h3
    have hpos : (0 : Int) < (xs.length : Int) := by omega
    have HO4 := Lib.hid ho4
    have HH4 := Lib.hid hO4
    clear ho4 hO4 hd4
    go_wp2_with fail
    refine (pick_any R p2 2 w4 hr4 (by omega) (by omega)).mono ?_
    rintro e w5 ⟨q, rfl, hq, hr5, ht5⟩
    have hs5 := ht5.size
    by_cases q0 : q = 0
    · have e0 : ((q : Int) == 0) = true := by rw [q0]; rfl
      clear q0 hq
      go_wp2_with fail
      refine (pick_any R (p2 + 1) xs.length w5 hr5 (by omega) (by omega)).mono ?_
      rintro e w6 ⟨k, rfl, hk, hr6, ht6⟩
      have hkx : k < xs.length := by omega
      have hs6 := ht6.size
      go_wp2_with fail
      refine (l3Draw_any R (p2 + 1 + 1) w6 hr6 (by omega)).mono ?_
      rintro e w7 ⟨y, p7, rfl, g7, f7, k7, hr7, ht7⟩
      have hT7 := ht5.trans (ht6.trans ht7)
      have hs7 := hT7.size
      obtain ⟨⟨u0, hu0⟩, ⟨u1, hu1⟩, z0, z1, hst⟩ := own_put (HO4.out.touch hT7 (by omega)) hkx y
      have HST := Lib.hid hst
      have HKA := Lib.hid ((HH4.out.touch hT7 hRl).keepB (((Below.refl w2.heap.size w7).setCell (p := ⟨g, k * 2, none⟩) hBg (.string (str y.name))).setCell (p := ⟨g, k * 2 + 1, none⟩) hBg (.string (str y.val))) hblk)
      have HB7 : Hid (Below w.heap.size w ((w7.setCell ⟨g, k * 2, none⟩ (.string (str y.name))).setCell ⟨g, k * 2 + 1, none⟩ (.string (str y.val)))) :=
        ((after_open hb1 hR (ht4.trans hT7)).setCell (by show w.heap.size ≤ g; omega) _).setCell (by show w.heap.size ≤ g; omega) _
      have hly : (xs.set k y).length ≤ 4 := by rw [List.length_set]; exact hl2
      have hki : (k : Int) < (xs.length : Int) := by omega
      have hk0 : (0 : Int) ≤ (k : Int) := by omega
      have hXV : fldV y = .agg #[.string (str y.name), .string (str y.val)] := rfl
      rw [hXV]
      clear hst hXV hk
      generalize xs.set k y = ys at *
      generalize str y.name = s0 at *
      generalize str y.val = s1 at *
      go_wp2
      go_ret2
      exact ⟨_, _, xs, ys, rfl, HKA.out.base hs1, HST.out.base (by omega), hl2, hly, HB7.out⟩
    · have e0 : ((q : Int) == 0) = false := by rw [beq_eq_false_iff_ne]; omega
      clear q0 hq
      go_wp2
      go_ret2
      exact ⟨_, _, xs, xs, rfl, (HH4.out.touch ht5 hRl).base hs1, (HO4.out.touch ht5 (by omega)).base (by omega), hl2, hl2, after_open hb1 hR (ht4.trans ht5)⟩
end Go.Proofs.Ytfjpajeipihlaaa
