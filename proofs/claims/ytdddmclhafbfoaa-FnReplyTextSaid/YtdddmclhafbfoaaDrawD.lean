/-
  Dates: draws. No statement is proved here.
-/
import Derived.Test.YtdddmclhafbfoaaDraw
import Derived.Test.YtdddmclhafbfoaaDateS4
namespace Go.Proofs.Ytdddmclhafbfoaa
open Go.RowKit

/-- The numbers of a date are small. -/
def Sm (n : Int) : Prop := -1000000 ≤ n ∧ n ≤ 1000000
def SmallD (D : Dat) : Prop := Sm D.y ∧ Sm D.mo ∧ Sm D.d ∧ Sm D.h ∧ Sm D.mi ∧ Sm D.s ∧ Sm D.z
theorem small_ok {D : Dat} (h : OkDate D) : SmallD D := by
  obtain ⟨⟨⟨h1, h2, h3, h4, h5, h6⟩, a2, a3, a4, a5⟩, _⟩ := h
  have := dim_le D.y D.mo
  unfold SmallD Sm; omega
theorem small_dateR (o : Int × Int) : SmallD (dateR o.1 o.2) := by
  cases h : dateO o.1 o.2 with
  | none => rw [dateR_none h]; unfold SmallD Sm dat0; simp only; omega
  | some D => rw [dateR_some h]; exact small_ok (dateO_some.1 h).1
theorem touch_new {R b i : Nat} {w w' : World} (h : Touch R w w') (hb : w.heap.size ≤ b) (v : Value) : Touch R w (w'.setCell ⟨b, i, none⟩ v) :=
  ⟨h.os, h.tape, h.output, by have := h.size; simpa [World.setCell] using this, fun k hk hr => by rw [Below.heap_setCell _ _ _ _ (by show k ≠ b; omega)]; exact h.block k hk hr⟩
theorem below_of_open {w w1 w2 : World} {R : Nat} (hb : Below w.heap.size w w1) (hR : w.heap.size ≤ R) (t : Touch R w1 w2) : Below w.heap.size w w2 :=
  hb.trans (t.below hR hb.size)
theorem laid7_touch {B R : Nat} {D : Dat} {w w' : World} (h : Laid7 B D w) (t : Touch R w w') (hr : B ≠ R) : Laid7 B D w' := by
  have hl := lt_of_cell h.1
  unfold Laid7 at h ⊢
  simp only [t.cell hl hr]; exact h
/-- Two new blocks, behind whatever the reader has done. -/
theorem fresh2D {R : Nat} {w w' : World} {C D : Array Value} {T : TypeId} (hR : R < w.heap.size) (t : Touch R ((w.alloc (.cells C T)).alloc (.cells D T)) w') :
    (∀ i, w'.cell? ⟨w.heap.size, i, none⟩ = C[i]?) ∧ (∀ i, w'.cell? ⟨w.heap.size + 1, i, none⟩ = D[i]?) ∧ (∀ i, w'.frozen? ⟨w.heap.size, i, none⟩ = false) ∧ (∀ i, w'.frozen? ⟨w.heap.size + 1, i, none⟩ = false) := by
  refine ⟨fun i => ?_, fun i => ?_, fun i => ?_, fun i => ?_⟩
  · rw [t.cell (by simp; omega) (by omega), World.cell?_alloc_lt _ _ _ (by simp), World.cell?_alloc_at _ _ _ _ rfl]
  · rw [t.cell (by simp) (by omega), World.cell?_alloc_at _ _ _ _ (by simp)]
  · rw [t.fz (by simp; omega) (by omega), below_fz ((Below.refl _ _).alloc (Nat.le_refl _) _) (by simp), World.frozen?_alloc_at _ _ _ _ rfl]
  · rw [t.fz (by simp) (by omega), World.frozen?_alloc_at _ _ _ _ (by simp)]
theorem num_lit (R p n N : Nat) (xs : List Int) (t : TypeId) (w : World) (hN : w.heap.size = N) (hr : Rd w R p) (hp : p ≤ 1000000000) (hn : xs.length = n) (h0 : 0 < n) (h1 : n ≤ 1000000) :
    Calls Try.prog 8 #[.pointer (some ⟨R, 0, none⟩), .slice (some ⟨N, 0, none⟩) n n] (w.alloc (.cells (xs.map fun x => Value.int .i64 x).toArray t)) fun e w' => ∃ x, x ∈ xs ∧ e = .returned (.int .i64 x) ∧ Rd w' R (p + 1) ∧ Touch R w w' := by
  subst hN
  have hb : Below w.heap.size w (w.alloc (.cells (xs.map fun x => Value.int .i64 x).toArray t)) := (Below.refl _ _).alloc (Nat.le_refl _) _
  refine (num_any R p w.heap.size 0 n n xs _ (hr.below hb) hp (by have := hr.lt; omega) (by simp) h0 h1 hn (fun i hi => ?_)).mono ?_
  · rw [World.cell?_alloc_at _ _ _ _ rfl, Nat.zero_add]; simp [hi]
  · rintro e w' ⟨x, h2, h3, h4, h5⟩
    exact ⟨x, h2, h3, h4, (Touch.of_below hb).trans h5⟩
end Go.Proofs.Ytdddmclhafbfoaa
