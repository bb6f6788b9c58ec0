/-
  Lists of addresses, drawn, one behind the other: what the program's drawing functions return, for every code. No statement is proved here.
-/
import Derived.Test.YthcmdmjijdafoaaDrawA2
import Derived.Laws.AppendOwn
import Derived.Laws.OwnMore
import Derived.Laws.AppendOwnNone
namespace Go.Proofs.Ythcmdmjijdafoaa
open Go.RowKit

theorem wpList_append_A {ops : Array Oper} {rest : List Oper} {o : Oper} {Q : Exit → Act → World → Prop} {a : Act} {w : World} (hg : o.guard = none) (s x : Operand)
    (ho : o.op = .call { callee := .builtin .append, args := #[s, x], argTypes := #[23, 23] })
    (B B2 : Nat) (v u : Value) (xs ys : List Adr) (hs : a.eval s = v) (hx : a.eval x = u) (hown : OwnA B v xs w) (hy : OwnA B2 u ys w) (hB : B ≤ w.heap.size) (hl : xs.length + ys.length ≤ 1000000)
    (h : ∀ v' w', OwnA B v' (xs ++ ys) w' → Below B w w' → wpList Try.prog ops Q rest (a.put o.dst v') w') : wpList Try.prog ops Q (o :: rest) a w := by
  obtain ⟨i0, hi, hz0, hz1, hz2⟩ := info_parts aInfo
  have hys := hy
  unfold OwnA OwnR at hys hown
  rcases hys.2 with ⟨hv, h0⟩ | ⟨g, cap, cur, hv, _⟩
  · subst hv
    have hn : ys = [] := List.length_eq_zero_iff.1 h0
    refine wpList_append_own_none hg s x 23 ho B 29 i0 3 Try.underlying23 hi v xs.length (xs.flatMap adrC) hs hown hx ?_
    refine h v w ?_ (Below.refl _ _)
    subst hn
    rw [List.append_nil]; exact hown
  · subst hv
    refine wpList_append_own w hg s x 23 ho B 29 i0 (.agg #[.string ⟨#[]⟩, .string ⟨#[]⟩, .string ⟨#[]⟩]) 3 48 Try.underlying23 hi hz0 hz1 hz2 rfl (by decide) v xs.length (xs.flatMap adrC) hs hown ⟨g, 0, none⟩ ys.length cap (ys.flatMap adrC) hx (flat_len adrC 3 adrC_len ys) ?_ ?_ ?_ ?_ hB ?_
    · intro j z hj
      exact hys.cells (g := g) rfl j z hj
    · intro z hz
      obtain ⟨q, _, hq⟩ := List.mem_flatMap.1 hz
      unfold adrC at hq
      simp at hq
      rcases hq with rfl | rfl | rfl <;> rfl
    · unfold maxLen; omega
    · omega
    · intro v' w' ho' hgr _
      refine h v' w' ?_ ?_
      · unfold OwnA OwnR; rw [List.length_append, List.flatMap_append]; exact ho'
      · exact (Below.refl _ _).grown hgr hB (fun k hk => (World.ownsRow.lt hown k hk).1)
set_option maxRecDepth 100000 in
set_option maxHeartbeats 1000000 in
theorem drawDropRepeated_any (a : Option Addr) (n c : Nat) (w : World) (hc : Code w a n) (hnc : n ≤ c) (hm : c ≤ maxLen) :
    Calls Try.prog 8 #[.slice a n c] w fun e w' => ∃ (v : Value) (xs : List Adr), e = .returned v ∧ OwnA w.heap.size v xs w' ∧ xs.length ≤ 8 ∧ (∀ x ∈ xs, SmallA 41 x) ∧ Below w.heap.size w w' := by
  go_enter Try.func8, Try.ntmps8
  go_wp2_with fail
  refine (open_any a n c w hc hnc hm).mono ?_
  rintro e w1 ⟨R, rfl, hR, hr1, hb1⟩
  have hRl := hr1.lt
  go_wp2_with fail
  refine (l2Some_any R 0 w1 hr1 (by omega)).mono ?_
  rintro e w2 ⟨v2, xs, p2, rfl, ho2, hl2, hx2, f2, k2, hr2, ht2⟩
  have hs1 := hb1.size
  have hs2 := ht2.size
  go_wp2_with fail
  refine (l2List_any R p2 w2 hr2 (by omega)).mono ?_
  rintro e w3 ⟨v3, ys, p3, rfl, ho3, hl3, hx3, f3, k3, hr3, ht3⟩
  have hO2 := ho2.touch ht3 hRl
  have hB3 := after_open hb1 hR (ht2.trans ht3)
  have hs3 := ht3.size
  have HALL : Hid (∀ x ∈ xs ++ ys, SmallA 41 x) := fun x hx => by
    rcases List.mem_append.1 hx with h | h
    · exact hx2 x h
    · exact (hx3 x h).up (by omega)
  have HO2 := Lib.hid hO2
  have HO3 := Lib.hid ho3
  clear hx2 hx3 ho2 ho3 hO2
  go_wp2_with (at_builtin; refine wpList_append_A rfl _ _ rfl w1.heap.size w2.heap.size _ _ xs ys rfl rfl HO2.out HO3.out (by omega) (by omega) ?_)
  intro v' w4 ho4 hb4
  have hl : (xs ++ ys).length ≤ 8 := by rw [List.length_append]; omega
  generalize xs ++ ys = zs at *
  go_wp2
  go_ret
  exact ⟨_, zs, rfl, OwnR.base ho4 hs1, hl, HALL.out, hB3.trans (hb4.mono hs1)⟩
end Go.Proofs.Ythcmdmjijdafoaa
