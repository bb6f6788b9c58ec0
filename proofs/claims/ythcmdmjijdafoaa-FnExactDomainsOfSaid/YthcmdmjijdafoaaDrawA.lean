/-
  Draws of chapter 2: addresses. No statement is proved here.
-/
import Derived.Test.YthcmdmjijdafoaaDraw1
import Derived.Test.YthcmdmjijdafoaaRows2
import Derived.Test.YthcmdmjijdafoaaAdrV
namespace Go.Proofs.Ythcmdmjijdafoaa
open Go.RowKit

theorem Touch.setNew {R b i : Nat} {w w' : World} (h : Touch R w w') (hb : w.heap.size ≤ b) (v : Value) : Touch R w (w'.setCell ⟨b, i, none⟩ v) :=
  ⟨h.os, h.tape, h.output, by have := h.size; simpa [World.setCell] using this, fun k hk hr => by rw [Below.heap_setCell _ _ _ _ (by show k ≠ b; omega)]; exact h.block k hk hr⟩
theorem tcell {R : Nat} {w w' : World} (t : Touch R w w') : (∀ b o, b < w.heap.size → b ≠ R → w'.cell? ⟨b, o, none⟩ = w.cell? ⟨b, o, none⟩) ∧ (∀ b o, b < w.heap.size → b ≠ R → w'.frozen? ⟨b, o, none⟩ = w.frozen? ⟨b, o, none⟩) :=
  ⟨fun _ _ h hr => t.cell h hr, fun _ _ h hr => t.fz h hr⟩
/-- Two new blocks, behind whatever the reader has done. -/
theorem fresh2 {R : Nat} {w w' : World} {C D : Array Value} {T : TypeId} (hR : R < w.heap.size) (t : Touch R ((w.alloc (.cells C T)).alloc (.cells D T)) w') :
    (∀ i, w'.cell? ⟨w.heap.size, i, none⟩ = C[i]?) ∧ (∀ i, w'.cell? ⟨w.heap.size + 1, i, none⟩ = D[i]?) ∧ (∀ i, w'.frozen? ⟨w.heap.size, i, none⟩ = false) ∧ (∀ i, w'.frozen? ⟨w.heap.size + 1, i, none⟩ = false) := by
  refine ⟨fun i => ?_, fun i => ?_, fun i => ?_, fun i => ?_⟩
  · rw [t.cell (by simp; omega) (by omega), World.cell?_alloc_lt _ _ _ (by simp), World.cell?_alloc_at _ _ _ _ rfl]
  · rw [t.cell (by simp) (by omega), World.cell?_alloc_at _ _ _ _ (by simp)]
  · rw [t.fz (by simp; omega) (by omega), below_fz ((Below.refl _ _).alloc (Nat.le_refl _) _) (by simp), World.frozen?_alloc_at _ _ _ _ rfl]
  · rw [t.fz (by simp) (by omega), World.frozen?_alloc_at _ _ _ _ (by simp)]
theorem of_lit2 (R p n M N : Nat) (C : Array Value) (t : TypeId) (w : World) (hN : w.heap.size = N) (hr : Rd w R p) (hp : p ≤ 1000000000) (hn : 0 < n) (hn2 : n ≤ 1000000) (h : litOk C n M = true) :
    Calls Try.prog 47 #[.pointer (some ⟨R, 0, none⟩), .slice (some ⟨N, 0, none⟩) n n] (w.alloc (.cells C t)) (Drawn R p 1 M w) := by
  subst hN; exact of_lit R p n M C t w hr hp hn hn2 h
/-- An address drawn, its texts of at most M bytes. -/
def DrawnA (R p c M : Nat) (w : World) (e : Ending) (w' : World) : Prop := ∃ (a : Adr) (p' : Nat), e = .returned (adrV a) ∧ SmallA M a ∧ p ≤ p' ∧ p' ≤ p + c ∧ Rd w' R p' ∧ Touch R w w'
theorem drawnA_mk {R p c M p' : Nat} {w w' : World} {n l d : ByteArray} (hn : n.size ≤ M) (hl : l.size ≤ M) (hd : d.size ≤ M) (h1 : p ≤ p') (h2 : p' ≤ p + c) (hr : Rd w' R p') (ht : Touch R w w') : DrawnA R p c M w (.returned (.agg #[.string n, .string l, .string d])) w' :=
  ⟨adr n l d, p', by rw [adrV_adr], ⟨by show n.data.toList.length ≤ M; rw [size_list]; exact hn, by show l.data.toList.length ≤ M; rw [size_list]; exact hl, by show d.data.toList.length ≤ M; rw [size_list]; exact hd⟩, h1, h2, hr, ht⟩
set_option maxRecDepth 100000 in
set_option maxHeartbeats 1000000 in
theorem l2Draw_any (R p : Nat) (w : World) (hr : Rd w R p) (hp : p ≤ 999999000) : Calls Try.prog 42 #[.pointer (some ⟨R, 0, none⟩)] w (DrawnA R p 3 20 w) := by
  have hRl := hr.lt
  have hb0 : Below w.heap.size w (w.alloc (.cells #[.string ⟨#[]⟩, .string ⟨#[]⟩, .string ⟨#[]⟩] 29)) := (Below.refl _ _).alloc (Nat.le_refl _) _
  go_enter Try.func42, Try.ntmps42
  go_wp2_with fail
  refine (of_lit2 R p 8 20 _ _ _ _ (by simp) (hr.below hb0) (by omega) (by omega) (by omega) (by decide)).mono ?_
  rintro e w1 ⟨s1, p1, rfl, g1, f1, k1, hr1, ht1⟩
  go_wp2_with fail
  refine (of_lit R p1 6 20 _ _ w1 hr1 (by omega) (by omega) (by omega) (by decide)).mono ?_
  rintro e w2 ⟨s2, p2, rfl, g2, f2, k2, hr2, ht2⟩
  go_wp2_with fail
  refine (of_lit R p2 5 20 _ _ w2 hr2 (by omega) (by omega) (by omega) (by decide)).mono ?_
  rintro e w3 ⟨s3, p3, rfl, g3, f3, k3, hr3, ht3⟩
  have ht13 := ht1.trans (ht2.trans ht3)
  obtain ⟨hc, hf⟩ := tcell ht13
  have hsz := ht13.size
  simp at hsz
  have hlt : w.heap.size < w3.heap.size := by omega
  have hRB : w.heap.size ≠ R := by omega
  have htw := (Touch.of_below (R := R) hb0).trans ht13
  go_wp2
  refine bodyPost_ret (v := .agg #[.string s1, .string s2, .string s3]) (by simp [results, Try.results42, go_sem, hc, hRB]) rfl (drawnA_mk (p' := p3) g1 g2 g3 (by omega) (by omega) ?_ ?_)
  · exact hr3.belowB ((((Below.refl w.heap.size w3).setCell (p := ⟨w.heap.size, 0, none⟩) (Nat.le_refl _) _).setCell (p := ⟨w.heap.size, 1, none⟩) (Nat.le_refl _) _).setCell (p := ⟨w.heap.size, 2, none⟩) (Nat.le_refl _) _) hRl
  · exact (((htw.setNew (Nat.le_refl _) _).setNew (Nat.le_refl _) _).setNew (Nat.le_refl _) _)
set_option maxRecDepth 100000 in
set_option maxHeartbeats 1000000 in
theorem l2Wrong_any (R p M : Nat) (n l d : ByteArray) (w : World) (hr : Rd w R p) (hp : p ≤ 999999000) (hM : 41 ≤ M) (hn : n.size ≤ M) (hl : l.size ≤ M) (hd : d.size ≤ M) :
    Calls Try.prog 40 #[.pointer (some ⟨R, 0, none⟩), .agg #[.string n, .string l, .string d]] w (DrawnA R p 2 M w) := by
  have hRl := hr.lt
  have hbX : Below w.heap.size w (w.alloc (.cells #[.string n, .string l, .string d] 29)) := (Below.refl _ _).alloc (Nat.le_refl _) _
  have hb0 : Below w.heap.size w ((w.alloc (.cells #[.string n, .string l, .string d] 29)).alloc (.cells #[.string ⟨#[]⟩, .string ⟨#[]⟩, .string ⟨#[]⟩] 29)) := hbX.alloc (by simp) _
  go_enter Try.func40, Try.ntmps40
  go_wp2_with fail
  refine (pick_any R p 20 _ (hr.below hb0) (by omega) (by omega)).mono ?_
  rintro e w1 ⟨k, rfl, hk, hr1, ht1⟩
  have htw1 := (Touch.of_below (R := R) hb0).trans ht1
  obtain ⟨c10, c11, f10, f11⟩ := fresh2 hRl ht1
  have hsz1 := ht1.size
  simp at hsz1
  have hRB : w.heap.size ≠ R := by omega
  have hRB2 : w.heap.size + 1 ≠ R := by omega
  have hlt0 : w.heap.size < w1.heap.size := by omega
  have hlt1 : w.heap.size + 1 < w1.heap.size := by omega
  by_cases k0 : k = 0
  · have e0 : ((k : Int) == 0) = true := by rw [k0]; rfl
    clear k0 hk
    go_wp2_with fail
    refine (of_lit R (p + 1) 5 41 _ _ w1 hr1 (by omega) (by omega) (by omega) (by decide)).mono ?_
    rintro e w2 ⟨s2, p2, rfl, g2, f2, k2, hr2, ht2⟩
    obtain ⟨c20, c21, f20, f21⟩ := fresh2 hRl (ht1.trans ht2)
    have hsz2 := ht2.size
    have hlt02 : w.heap.size < w2.heap.size := by omega
    have hlt12 : w.heap.size + 1 < w2.heap.size := by omega
    have htw2 := htw1.trans ht2
    go_wp2
    refine bodyPost_ret (v := .agg #[.string n, .string s2, .string d]) (by simp [results, Try.results40, go_sem, c21]) rfl (drawnA_mk hn (by omega) hd (p' := p2) (by omega) (by omega) ?_ ?_)
    · exact hr2.belowB (((((Below.refl w.heap.size w2).setCell (by simp) _).setCell (by simp) _).setCell (by simp) _).setCell (by simp) _) hRl
    · exact ((((htw2.setNew (by simp) _).setNew (by simp) _).setNew (by simp) _).setNew (by simp) _)
  · have e0 : ((k : Int) == 0) = false := by rw [beq_eq_false_iff_ne]; omega
    by_cases k1 : k = 1
    · have e1 : ((k : Int) == 1) = true := by rw [k1]; rfl
      clear k0 k1 hk
      go_wp2_with fail
      refine (of_lit R (p + 1) 6 41 _ _ w1 hr1 (by omega) (by omega) (by omega) (by decide)).mono ?_
      rintro e w2 ⟨s2, p2, rfl, g2, f2, k2, hr2, ht2⟩
      obtain ⟨c20, c21, f20, f21⟩ := fresh2 hRl (ht1.trans ht2)
      have hsz2 := ht2.size
      have hlt02 : w.heap.size < w2.heap.size := by omega
      have hlt12 : w.heap.size + 1 < w2.heap.size := by omega
      have htw2 := htw1.trans ht2
      go_wp2
      refine bodyPost_ret (v := .agg #[.string n, .string l, .string s2]) (by simp [results, Try.results40, go_sem, c21]) rfl (drawnA_mk hn hl (by omega) (p' := p2) (by omega) (by omega) ?_ ?_)
      · exact hr2.belowB (((((Below.refl w.heap.size w2).setCell (by simp) _).setCell (by simp) _).setCell (by simp) _).setCell (by simp) _) hRl
      · exact ((((htw2.setNew (by simp) _).setNew (by simp) _).setNew (by simp) _).setNew (by simp) _)
    · have e1 : ((k : Int) == 1) = false := by rw [beq_eq_false_iff_ne]; omega
      by_cases k2 : k = 2
      · have e2 : ((k : Int) == 2) = true := by rw [k2]; rfl
        clear k0 k1 k2 hk
        go_wp2_with fail
        refine (of_lit R (p + 1) 2 41 _ _ w1 hr1 (by omega) (by omega) (by omega) (by decide)).mono ?_
        rintro e w2 ⟨s2, p2, rfl, g2, f2, k2, hr2, ht2⟩
        obtain ⟨c20, c21, f20, f21⟩ := fresh2 hRl (ht1.trans ht2)
        have hsz2 := ht2.size
        have hlt02 : w.heap.size < w2.heap.size := by omega
        have hlt12 : w.heap.size + 1 < w2.heap.size := by omega
        have htw2 := htw1.trans ht2
        go_wp2
        refine bodyPost_ret (v := .agg #[.string s2, .string l, .string d]) (by simp [results, Try.results40, go_sem, c21]) rfl (drawnA_mk (by omega) hl hd (p' := p2) (by omega) (by omega) ?_ ?_)
        · exact hr2.belowB (((((Below.refl w.heap.size w2).setCell (by simp) _).setCell (by simp) _).setCell (by simp) _).setCell (by simp) _) hRl
        · exact ((((htw2.setNew (by simp) _).setNew (by simp) _).setNew (by simp) _).setNew (by simp) _)
      · have e2 : ((k : Int) == 2) = false := by rw [beq_eq_false_iff_ne]; omega
        clear k0 k1 k2 hk
        go_wp2
        refine bodyPost_ret (v := .agg #[.string n, .string l, .string d]) (by simp [results, Try.results40, go_sem, c11]) rfl (drawnA_mk hn hl hd (p' := p + 1) (by omega) (by omega) ?_ ?_)
        · exact hr1.belowB ((((Below.refl w.heap.size w1).setCell (by simp) _).setCell (by simp) _).setCell (by simp) _) hRl
        · exact (((htw1.setNew (by simp) _).setNew (by simp) _).setNew (by simp) _)
theorem l2Wrong_adr (R p M : Nat) (a : Adr) (w : World) (hr : Rd w R p) (hp : p ≤ 999999000) (hM : 41 ≤ M) (ha : SmallA M a) :
    Calls Try.prog 40 #[.pointer (some ⟨R, 0, none⟩), adrV a] w (DrawnA R p 2 M w) :=
  l2Wrong_any R p M (str a.name) (str a.loc) (str a.dom) w hr hp hM (by rw [str_size]; exact ha.1) (by rw [str_size]; exact ha.2.1) (by rw [str_size]; exact ha.2.2)
theorem SmallA.up {M N : Nat} {a : Adr} (h : SmallA M a) (hMN : M ≤ N) : SmallA N a := ⟨by have := h.1; omega, by have := h.2.1; omega, by have := h.2.2; omega⟩
end Go.Proofs.Ythcmdmjijdafoaa
