/-
  Sessions in the exact laws: how a session that came in reads. No statement is proved here.
-/
import Derived.Test.YtfiaankfmdpmkaaSsnE
namespace Go.Proofs.Ytfiaankfmdpmkaa
open Go.ChangeShapes Go.WideShapes Go.ChangeAt Go.RowKit
open Go.ChangeMaps (open_string shut_string)
open Go.Deep

theorem cells3m {H : Type} {enc : TypeId × Value → H} {P : Program} {W : World} {base : Nat} {spare : Nat → Bool} {held : Bool} {T : TypeId} {f0 f1 f2 : Field} {f : Nat} {cs : List Value} {x : DataW H × List MemPlace} (hs : P.underlying T = some (.struct #[f0, f1, f2])) (hone : oneCellFields P #[f0, f1, f2] = true)
    (h : DataW.trod enc P W base spare held f T cs = some x) (hl : cs.length = 3) :
    ∃ c0 c1 c2 y0 y1 y2 n, cs = [c0, c1, c2] ∧ DataW.trod enc P W base spare held n f0.type [c0] = some y0 ∧ DataW.trod enc P W base spare held n f1.type [c1] = some y1 ∧ DataW.trod enc P W base spare held n f2.type [c2] = some y2 := by
  obtain ⟨ys, n', hn', hy, hlen, hyl, hf⟩ := DataW.trod_struct hs h
  match cs, hl with
  | [c0, c1, c2], _ =>
    have g0 := hf 0 f0 rfl
    have g1 := hf 1 f1 rfl
    have g2 := hf 2 f2 rfl
    obtain ⟨o0, k0⟩ := hone_of hone 0 f0 rfl
    obtain ⟨o1, k1⟩ := hone_of hone 1 f1 rfl
    obtain ⟨o2, k2⟩ := hone_of hone 2 f2 rfl
    rw [o0, k0] at g0
    rw [o1, k1] at g1
    rw [o2, k2] at g2
    match ys, hyl with
    | [y0, y1, y2], _ => exact ⟨c0, c1, c2, y0, y1, y2, n', rfl, g0, g1, g2⟩
set_option maxRecDepth 100000 in
theorem mail_cells {H : Type} {enc : TypeId × Value → H} {W : World} {m : Nat} {cs : List Value} {x : DataW H × List MemPlace} (hl : cs.length = 3) (h : DataW.trod enc Try.prog W 0 (fun _ => true) true m 48 cs = some x) :
    ∃ y : MlA, cs = mlC y ∧ RdM maxLen W y := by
  obtain ⟨c0, c1, c2, y0, y1, y2, n, rfl, g0, g1, g2⟩ := cells3m Try.underlying48 (by kernel_rfl) h hl
  obtain ⟨s0, e0, _, z0⟩ := DataW.trod_string Try.underlying9 g0
  injection e0 with e0 _
  subst e0
  obtain ⟨a1, k1, xs, rfl, r1, n1, l1⟩ := strs_sliceN g1
  obtain ⟨a2, k2, ys, rfl, r2, n2, l2⟩ := strs_sliceN g2
  exact ⟨⟨⟨s0.data.toList, xs, ys⟩, a1, k1, a2, k2⟩, by unfold mlC; dsimp only; rw [str_of], r1, r2, z0, n1, l1, n2, l2⟩
theorem addr_noneM (b o j : Nat) : (⟨b, o, none⟩ : Addr).add j = ⟨b, o + j, none⟩ := by unfold Addr.add; split <;> simp_all
set_option maxRecDepth 100000 in
theorem mails_slice {H : Type} {enc : TypeId × Value → H} {W : World} {m : Nat} {c : Value} {y : DataW H × List MemPlace} (h : DataW.trod enc Try.prog W 0 (fun _ => true) true m 29 [c] = some y) :
    ∃ (a : Option Addr) (n k : Nat) (xs : List MlA), c = .slice a n k ∧ xs.length = n ∧ n ≤ maxLen ∧ n ≤ k ∧ (a = none → k = 0) ∧ RdMs maxLen W a xs := by
  have hC : Try.prog.cellsOf 48 = 3 := by kernel_rfl
  rcases DataW.trod_slice Try.underlying29 h with ⟨e, _⟩ | ⟨g, len, cap, elems, rest, n, hn, e, _, _, hlc, hcm, hel, hi, _⟩
  · injection e with e _
    subst e
    exact ⟨none, 0, 0, [], rfl, rfl, Nat.zero_le _, Nat.le_refl _, fun _ => rfl, ⟨rfl, .inl rfl⟩, fun x hx => by cases hx⟩
  · injection e with e _
    subst e
    have hq : ∀ i, i < len → ∃ (x : MlA), W.cell? (g.add (i * 3)) = some (.string (str x.m.frm)) ∧ W.cell? (g.add (i * 3 + 1)) = some (.slice x.a1 x.m.to.length x.c1) ∧ W.cell? (g.add (i * 3 + 2)) = some (.slice x.a2 x.m.lines.length x.c2) ∧ RdM maxLen W x := by
      intro i hil
      have := hi i hil
      rw [List.getElem?_eq_getElem (by omega)] at this
      obtain ⟨cs, hc, ht⟩ := Option.bind_eq_some_iff.1 this
      rw [hC] at hc
      obtain ⟨_, hcl, hat⟩ := World.cells?_some hc
      obtain ⟨x, rfl, hp⟩ := mail_cells hcl ht
      have a0 := hat 0 (by omega)
      have a1 := hat 1 (by omega)
      have a2 := hat 2 (by omega)
      rw [Go.Deep.add_add] at a0 a1 a2
      exact ⟨x, a0, a1, a2, hp⟩
    obtain ⟨b, off, spot⟩ := g
    refine ⟨_, len, cap, (List.range len).map (fun i => if h : i < len then Classical.choose (hq i h) else ⟨ml0, none, 0, none, 0⟩), rfl, by simp, by omega, hlc, (fun e => by cases e), ⟨by simp, ?_⟩, fun x hx => ?_⟩
    · by_cases h0 : len = 0
      · exact .inl (by simp [h0])
      · obtain ⟨_, c0, _⟩ := hq 0 (by omega)
        have hspot : spot = none := by simpa [Addr.add] using World.cell?_spot c0
        subst hspot
        rw [addr_noneM] at c0
        refine .inr ⟨b, off, rfl, lt_of_cell c0, fun i hi' d v hd => ?_⟩
        have hil : i < len := by simpa using hi'
        obtain ⟨a0, a1, a2, _⟩ := Classical.choose_spec (hq i hil)
        have E : ∀ j, W.cell? ⟨b, off + j, none⟩ = W.cell? ((⟨b, off, none⟩ : Addr).add j) := fun j => by rw [addr_noneM]
        rw [List.getElem_map, List.getElem_range, dif_pos hil] at hd
        match d, hd with
        | 0, hd => injection hd with hd; subst hd; exact (E _).trans a0
        | 1, hd => injection hd with hd; subst hd; rw [Nat.add_assoc]; exact (E _).trans a1
        | 2, hd => injection hd with hd; subst hd; rw [Nat.add_assoc]; exact (E _).trans a2
        | d + 3, hd => cases hd
    · obtain ⟨i, hi, rfl⟩ := List.mem_map.1 hx
      have hil : i < len := List.mem_range.1 hi
      rw [dif_pos hil]
      exact (Classical.choose_spec (hq i hil)).2.2.2
end Go.Proofs.Ytfiaankfmdpmkaa
