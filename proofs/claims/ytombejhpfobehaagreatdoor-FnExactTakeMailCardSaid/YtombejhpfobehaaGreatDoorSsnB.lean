/-
  Sessions in memory, compared. No statement is proved here.
-/
import Derived.Test.YtombejhpfobehaaGreatDoorSsn
namespace Go.Proofs.YtombejhpfobehaaGreatDoor
open Go.RowKit

/-- A session's value, by its parts. -/
structure SsV where
  st : Int
  h : ByteArray
  s : ByteArray
  a : Option Addr
  n : Nat
  c : Nat
  b : Option Addr
  k : Nat
  d : Nat
  e : Option Addr
  r : Nat
  q : Nat
def ssVal (z : SsV) : Value := .agg #[.int .i64 z.st, .string z.h, .string z.s, .slice z.a z.n z.c, .slice z.b z.k z.d, .slice z.e z.r z.q]
/-- It reads as a session. -/
def RdZ (M : Nat) (w : World) (z : SsV) (S : Ssn) : Prop := z.st = S.state ∧ z.h = str S.host ∧ RdV M w z.s z.a z.n z.c z.b z.k z.d S.draft ∧ S.host.length ≤ M ∧ z.r ≤ M ∧ z.r ≤ z.q ∧ (z.e = none → z.q = 0) ∧
  ∃ xs : List MlA, xs.map (·.m) = S.done ∧ xs.length = z.r ∧ RdMs M w z.e xs
theorem RdZ.below {M : Nat} {w w' : World} {z : SsV} {S : Ssn} (h : RdZ M w z S) (hb : Below w.heap.size w w') : RdZ M w' z S := by
  obtain ⟨h1, h2, h3, h4, h5, h6, h7, xs, g1, g2, g3⟩ := h
  exact ⟨h1, h2, h3.below hb, h4, h5, h6, h7, xs, g1, g2, g3.below hb⟩
def SmallS (M : Nat) (S : Ssn) : Prop := S.host.length ≤ M ∧ SmallM M S.draft ∧ S.done.length ≤ M ∧ ∀ m ∈ S.done, SmallM M m
theorem RdZ.up {M N : Nat} {w : World} {z : SsV} {S : Ssn} (h : RdZ M w z S) (hs : SmallS N S) : RdZ N w z S := by
  obtain ⟨h1, h2, h3, h4, h5, h6, h7, xs, g1, g2, g3⟩ := h
  refine ⟨h1, h2, h3.up hs.2.1, hs.1, ?_, h6, h7, xs, g1, g2, g3.1, fun x hx => ⟨(g3.2 x hx).1, (g3.2 x hx).2.1, hs.2.2.2 x.m (by rw [← g1]; exact List.mem_map.2 ⟨x, hx, rfl⟩)⟩⟩
  have := hs.2.2.1
  rw [← g1, List.length_map] at this
  omega
/-- Six cells of a block. -/
def SK6 (w : World) (g : Nat) (v0 v1 v2 v3 v4 v5 : Value) : Prop := w.cell? ⟨g, 0, none⟩ = some v0 ∧ w.cell? ⟨g, 1, none⟩ = some v1 ∧ w.cell? ⟨g, 2, none⟩ = some v2 ∧ w.cell? ⟨g, 3, none⟩ = some v3 ∧ w.cell? ⟨g, 4, none⟩ = some v4 ∧ w.cell? ⟨g, 5, none⟩ = some v5
theorem SK6.below {w w' : World} {g : Nat} {v0 v1 v2 v3 v4 v5 : Value} (h : SK6 w g v0 v1 v2 v3 v4 v5) (hb : Below w.heap.size w w') : SK6 w' g v0 v1 v2 v3 v4 v5 := by
  have hl := lt_of_cell h.1
  exact ⟨(below_at hb hl).trans h.1, (below_at hb hl).trans h.2.1, (below_at hb hl).trans h.2.2.1, (below_at hb hl).trans h.2.2.2.1, (below_at hb hl).trans h.2.2.2.2.1, (below_at hb hl).trans h.2.2.2.2.2⟩
theorem SK6.new (w : World) (v0 v1 v2 v3 v4 v5 : Value) (t : TypeId) : SK6 (w.alloc (.cells #[v0, v1, v2, v3, v4, v5] t)) w.heap.size v0 v1 v2 v3 v4 v5 :=
  ⟨by rw [World.cell?_alloc_at _ _ _ _ rfl]; rfl, by rw [World.cell?_alloc_at _ _ _ _ rfl]; rfl, by rw [World.cell?_alloc_at _ _ _ _ rfl]; rfl, by rw [World.cell?_alloc_at _ _ _ _ rfl]; rfl, by rw [World.cell?_alloc_at _ _ _ _ rfl]; rfl, by rw [World.cell?_alloc_at _ _ _ _ rfl]; rfl⟩
set_option maxRecDepth 100000 in
set_option maxHeartbeats 4000000 in
theorem eqSession_any (M : Nat) (z y : SsV) (S T : Ssn) (w : World) (h1 : RdZ M w z S) (h2 : RdZ M w y T) (hM : M ≤ maxLen) :
    Calls Tryz.prog 35 #[ssVal z, ssVal y] w fun e w' => e = .returned (.bool (decide (S = T))) ∧ Below w.heap.size w w' := by
  obtain ⟨st1, h1', s1, a1, n1, c1, b1, k1, d1, e1, r1, q1⟩ := z
  obtain ⟨st2, h2', s2, a2, n2, c2, b2, k2, d2, e2, r2, q2⟩ := y
  obtain ⟨f1, f2, f3, f4, f5, f6, f7, xs, f8, f9, f10⟩ := h1
  obtain ⟨g1, g2, g3, g4, g5, g6, g7, ys, g8, g9, g10⟩ := h2
  dsimp only at f1 f2 f3 f4 f5 f6 f7 f9 f10 g1 g2 g3 g4 g5 g6 g7 g9 g10
  unfold ssVal
  dsimp only
  rw [ssn_beq, ← f1, ← f2, ← g1, ← g2, ← f8, ← g8]
  have HM : Hid (∀ u, Below w.heap.size w u → Calls Tryz.prog 18 #[.agg #[.string s1, .slice a1 n1 c1, .slice b1 k1 d1], .agg #[.string s2, .slice a2 n2 c2, .slice b2 k2 d2]] u fun e w' => e = .returned (.bool (decide (S.draft = T.draft))) ∧ Below u.heap.size u w') := fun u hu => (f3.below hu).calls2 (g3.below hu) (fun x y hx hy p1 p2 => by
    have := eqMail_any M x y u p1 p2 hM
    rw [hx, hy] at this; exact this)
  have HD : Hid (∀ u, Below w.heap.size w u → Calls Tryz.prog 84 #[.slice e1 r1 q1, .slice e2 r2 q2] u fun e w' => e = .returned (.bool (decide (xs.map (·.m) = ys.map (·.m)))) ∧ Below u.heap.size u w') := fun u hu => eqMailS_any M e1 e2 r1 q1 r2 q2 xs ys u f9 g9 (f10.below hu) (g10.below hu) hM (by omega) (by omega)
  clear f3 f4 f5 f6 f7 f10 g3 g4 g5 g6 g7 g10 f1 f2 g1 g2 f8 g8 f9 g9 hM
  generalize decide (xs.map (·.m) = ys.map (·.m)) = z3 at *
  generalize decide (S.draft = T.draft) = z2 at *
  have t1 := beq_dec h1' h2'
  have t1' : (h1'.toList != h2'.toList) = !decide (h1' = h2') := by rw [bne, beq_dec]
  have t0 : ((st1 : Int) == st2) = decide (st1 = st2) := rfl
  have t0' : ((st1 : Int) != st2) = !decide (st1 = st2) := rfl
  generalize decide (h1' = h2') = z1 at *
  generalize decide (st1 = st2) = z0 at *
  have hA1 : Below w.heap.size w (w.alloc (.cells #[.int .i64 st1, .string h1', .string s1, .slice a1 n1 c1, .slice b1 k1 d1, .slice e1 r1 q1] 60)) := (Below.refl _ _).alloc (Nat.le_refl _) _
  have hA2 : Below (w.alloc (.cells #[.int .i64 st1, .string h1', .string s1, .slice a1 n1 c1, .slice b1 k1 d1, .slice e1 r1 q1] 60)).heap.size (w.alloc (.cells #[.int .i64 st1, .string h1', .string s1, .slice a1 n1 c1, .slice b1 k1 d1, .slice e1 r1 q1] 60)) ((w.alloc (.cells #[.int .i64 st1, .string h1', .string s1, .slice a1 n1 c1, .slice b1 k1 d1, .slice e1 r1 q1] 60)).alloc (.cells #[.int .i64 st2, .string h2', .string s2, .slice a2 n2 c2, .slice b2 k2 d2, .slice e2 r2 q2] 60)) := (Below.refl _ _).alloc (Nat.le_refl _) _
  have HX : Hid (SK6 ((w.alloc (.cells #[.int .i64 st1, .string h1', .string s1, .slice a1 n1 c1, .slice b1 k1 d1, .slice e1 r1 q1] 60)).alloc (.cells #[.int .i64 st2, .string h2', .string s2, .slice a2 n2 c2, .slice b2 k2 d2, .slice e2 r2 q2] 60)) w.heap.size (.int .i64 st1) (.string h1') (.string s1) (.slice a1 n1 c1) (.slice b1 k1 d1) (.slice e1 r1 q1)) := (SK6.new w _ _ _ _ _ _ _).below hA2
  have HY : Hid (SK6 ((w.alloc (.cells #[.int .i64 st1, .string h1', .string s1, .slice a1 n1 c1, .slice b1 k1 d1, .slice e1 r1 q1] 60)).alloc (.cells #[.int .i64 st2, .string h2', .string s2, .slice a2 n2 c2, .slice b2 k2 d2, .slice e2 r2 q2] 60)) (w.heap.size + 1) (.int .i64 st2) (.string h2') (.string s2) (.slice a2 n2 c2) (.slice b2 k2 d2) (.slice e2 r2 q2)) := by
    have := SK6.new (w.alloc (.cells #[.int .i64 st1, .string h1', .string s1, .slice a1 n1 c1, .slice b1 k1 d1, .slice e1 r1 q1] 60)) (.int .i64 st2) (.string h2') (.string s2) (.slice a2 n2 c2) (.slice b2 k2 d2) (.slice e2 r2 q2) 60
    have e : (w.alloc (.cells #[.int .i64 st1, .string h1', .string s1, .slice a1 n1 c1, .slice b1 k1 d1, .slice e1 r1 q1] 60)).heap.size = w.heap.size + 1 := by simp
    rw [e] at this; exact this
  have hA := nx hA1 hA2
  cases z0
  · go_enter Tryz.func35, Tryz.ntmps35
    go_wp2
    go_ret
    exact ⟨rfl, hA⟩
  · cases z1
    · go_enter Tryz.func35, Tryz.ntmps35
      go_wp2
      go_ret
      exact ⟨rfl, hA⟩
    · go_enter Tryz.func35, Tryz.ntmps35
      go_wp2_with fail
      refine (HM.out _ hA).mono ?_
      rintro e w1 ⟨rfl, hb1⟩
      have hb01 := nx hA hb1
      obtain ⟨y0, y1, y2, y3, y4, y5⟩ := HX.out.below hb1
      obtain ⟨x0, x1, x2, x3, x4, x5⟩ := HY.out.below hb1
      cases z2
      · go_wp2
        go_ret
        exact ⟨rfl, hb01⟩
      · go_wp2_with fail
        refine (HD.out _ hb01).mono ?_
        rintro e w2 ⟨rfl, hb2⟩
        cases z3
        · go_wp2
          go_ret
          exact ⟨rfl, nx hb01 hb2⟩
        · go_wp2
          go_ret
          exact ⟨rfl, nx hb01 hb2⟩
end Go.Proofs.YtombejhpfobehaaGreatDoor
