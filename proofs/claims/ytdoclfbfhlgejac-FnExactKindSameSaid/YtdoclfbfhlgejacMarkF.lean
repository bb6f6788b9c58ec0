/-
  Lists of fields in the exact laws: a list that came in; marks. No statement is proved here.
-/
import Derived.Test.YtdoclfbfhlgejacListsF
namespace Go.Proofs.Ytdoclfbfhlgejac
open Go.ChangeShapes Go.WideShapes Go.RowKit Go.Deep

theorem cells2 {H : Type} {enc : TypeId × Value → H} {P : Program} {W : World} {base : Nat} {spare : Nat → Bool} {held : Bool} {T : TypeId} {f0 f1 : Field} {f : Nat} {cs : List Value} {x : DataW H × List MemPlace} (hs : P.underlying T = some (.struct #[f0, f1])) (hone : oneCellFields P #[f0, f1] = true)
    (h : DataW.trod enc P W base spare held f T cs = some x) (hl : cs.length = 2) :
    ∃ c0 c1 y0 y1 n, cs = [c0, c1] ∧ DataW.trod enc P W base spare held n f0.type [c0] = some y0 ∧ DataW.trod enc P W base spare held n f1.type [c1] = some y1 := by
  obtain ⟨ys, n', hn', hy, hlen, hyl, hf⟩ := DataW.trod_struct hs h
  match cs, hl with
  | [c0, c1], _ =>
    have g0 := hf 0 f0 rfl
    have g1 := hf 1 f1 rfl
    obtain ⟨o0, k0⟩ := hone_of hone 0 f0 rfl
    obtain ⟨o1, k1⟩ := hone_of hone 1 f1 rfl
    rw [o0, k0] at g0
    rw [o1, k1] at g1
    match ys, hyl with
    | [y0, y1], _ => exact ⟨c0, c1, y0, y1, n', rfl, g0, g1⟩
theorem addr_noneF (b o j : Nat) : (⟨b, o, none⟩ : Addr).add j = ⟨b, o + j, none⟩ := by unfold Addr.add; split <;> simp_all
set_option maxRecDepth 100000 in
theorem fld_cells {H : Type} {enc : TypeId × Value → H} {W : World} {f : Nat} {cs : List Value} {x : DataW H × List MemPlace} (h : DataW.trod enc Try.prog W 0 (fun _ => true) true f 37 cs = some x) (hl : cs.length = 2) :
    ∃ s0 s1 : ByteArray, cs = [.string s0, .string s1] ∧ s0.size ≤ maxLen ∧ s1.size ≤ maxLen := by
  obtain ⟨c0, c1, y0, y1, n, rfl, g0, g1⟩ := cells2 Try.underlying37 (by kernel_rfl) h hl
  obtain ⟨s0, e0, _, z0⟩ := DataW.trod_string Try.underlying9 g0
  obtain ⟨s1, e1, _, z1⟩ := DataW.trod_string Try.underlying9 g1
  injection e0 with e0 _
  injection e1 with e1 _
  subst e0 e1
  exact ⟨s0, s1, rfl, z0, z1⟩
set_option maxRecDepth 100000 in
theorem flds_of_trod {H : Type} {enc : TypeId × Value → H} {W : World} {a : Option Addr} {n c : Nat} {d : DataW H} {p : List MemPlace}
    (h : DataW.Trod enc Try.prog W 0 (fun _ => true) true 22 (Value.slice a n c) d p) : ∃ xs, RdF W a n xs ∧ n ≤ maxLen ∧ ∀ x ∈ xs, SmallF maxLen x := by
  obtain ⟨fuel, hf⟩ := h
  have hC : Try.prog.cellsOf 37 = 2 := by kernel_rfl
  rcases open_slice Try.underlying22 hf with ⟨hcs, _⟩ | ⟨x, l, k, m, f, D, Pl, hcs, _, hl, hm, hmm, _, hi⟩
  · simp [Value.cells] at hcs
    obtain ⟨rfl, rfl, rfl⟩ := hcs
    exact ⟨[], ⟨rfl, .inl rfl⟩, Nat.zero_le _, fun j hj => by simp at hj⟩
  · simp [Value.cells] at hcs
    obtain ⟨rfl, rfl, rfl⟩ := hcs
    have hmm' : m = c := by simpa using hmm
    subst hmm'
    have hq : ∀ i, i < m → ∃ y : Fld, SmallF maxLen y ∧ ∀ d v, (fldC y)[d]? = some v → W.cell? (x.add (i * 2 + d)) = some v := by
      intro i him
      obtain ⟨cs', hc, ht'⟩ := hi i him
      rw [hC] at hc
      obtain ⟨_, hcl, hat⟩ := World.cells?_some hc
      obtain ⟨s0, s1, rfl, z0, z1⟩ := fld_cells ht' hcl
      refine ⟨fld s0 s1, ⟨?_, ?_⟩, fun d v hv => ?_⟩
      · unfold fld; simpa [size_list] using z0
      · unfold fld; simpa [size_list] using z1
      · have hv' : (fldC (fld s0 s1)) = [.string s0, .string s1] := by unfold fldC fld; simp only [str_of]
        rw [hv'] at hv
        have hd : d < 2 := by rcases Nat.lt_or_ge d 2 with h | h; exact h; rw [List.getElem?_eq_none (by simpa using h)] at hv; cases hv
        have := hat d hd
        rw [Go.Deep.add_add] at this
        rw [this]; exact hv
    obtain ⟨b, off, spot⟩ := x
    refine ⟨(List.range n).map (fun i => if h : i < m then Classical.choose (hq i h) else fld0), ⟨by simp, ?_⟩, by omega, fun y hy => ?_⟩
    · by_cases h0 : n = 0
      · exact .inl h0
      · have hc0 := (Classical.choose_spec (hq 0 (by omega))).2 0 _ rfl
        have hspot : spot = none := by simpa [Addr.add] using World.cell?_spot hc0
        subst hspot
        rw [addr_noneF] at hc0
        refine .inr ⟨b, off, rfl, lt_of_cell hc0, fun i hi' d v hv => ?_⟩
        have hin : i < n := by simpa using hi'
        have him : i < m := by omega
        rw [List.getElem_map, List.getElem_range, dif_pos him] at hv
        have := (Classical.choose_spec (hq i him)).2 d v hv
        rw [addr_noneF, ← Nat.add_assoc] at this
        exact this
    · obtain ⟨i, hi', rfl⟩ := List.mem_map.1 hy
      have hin : i < n := by simpa using hi'
      rw [dif_pos (by omega : i < m)]
      exact (Classical.choose_spec (hq i (by omega))).1
end Go.Proofs.Ytdoclfbfhlgejac
