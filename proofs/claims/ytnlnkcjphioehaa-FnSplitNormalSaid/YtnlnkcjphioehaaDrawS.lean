/-
  Draws of chapter 7: lines with boundaries, parts. No statement is proved here.
-/
import Derived.Test.YtnlnkcjphioehaaDraw2
import Derived.Test.YtnlnkcjphioehaaPartN
import Derived.Test.YtnlnkcjphioehaaRowS
namespace Go.Proofs.Ytnlnkcjphioehaa
open Go.RowKit

/-- A short line that is no mark of the boundary 'b3'. -/
def lineOk (x : List UInt8) : Bool := decide (x.length ≤ 10) && !looksB [98, 51] x
def shortB (x : List UInt8) : Bool := decide (x.length ≤ 10)
theorem lineOk_len {x : List UInt8} (h : lineOk x = true) : x.length ≤ 10 := by unfold lineOk at h; simp at h; exact h.1
theorem lineOk_b3 {x : List UInt8} (h : lineOk x = true) : looksB [98, 51] x = false := by unfold lineOk at h; simp at h; exact h.2
def litQ (C : Array Value) (n : Nat) (Q : List UInt8 → Bool) : Bool := (List.range n).all fun i => match C[i]? with | some (.string s) => Q s.data.toList | _ => false
def DrawnQ (R p : Nat) (Q : List UInt8 → Bool) (w : World) (e : Ending) (w' : World) : Prop := ∃ s : ByteArray, e = .returned (.string s) ∧ Q s.data.toList = true ∧ Rd w' R (p + 1) ∧ Touch R w w'
set_option maxRecDepth 100000 in
set_option maxHeartbeats 400000 in
theorem of_litQ (R p n : Nat) (Q : List UInt8 → Bool) (C : Array Value) (t : TypeId) (w : World) (hr : Rd w R p) (hp : p ≤ 1000000000) (hn : 0 < n) (hn2 : n ≤ 1000000) (h : litQ C n Q = true) :
    Calls Try.prog 42 #[.pointer (some ⟨R, 0, none⟩), .slice (some ⟨w.heap.size, 0, none⟩) n n] (w.alloc (.cells C t)) (DrawnQ R p Q w) := by
  have hb : Below w.heap.size w (w.alloc (.cells C t)) := (Below.refl _ _).alloc (Nat.le_refl _) _
  have hRl := hr.lt
  have hall : ∀ k, k < n → ∃ s : ByteArray, (w.alloc (.cells C t)).cell? ⟨w.heap.size, k, none⟩ = some (.string s) ∧ Q s.data.toList = true := by
    intro k hk
    have h2 := List.all_eq_true.1 h k (List.mem_range.2 hk)
    rw [World.cell?_alloc_at C t _ _ rfl]
    split at h2
    · rename_i s hs; exact ⟨s, hs, h2⟩
    · cases h2
  have HALL := Lib.hid hall
  clear h hall
  go_enter Try.func42, Try.ntmps42
  go_wp2_with fail
  refine (pick_any R p n _ (hr.below hb) hp (by omega)).mono ?_
  rintro e w1 ⟨k, rfl, hk, hr1, ht1⟩
  have hk' : k < n := by omega
  obtain ⟨s, h1, h2⟩ := HALL.out k hk'
  rw [← ht1.cell (by simp) (by omega)] at h1
  have hT := (Touch.of_below (R := R) hb).trans ht1
  clear hk
  go_wp2
  go_ret
  exact ⟨s, rfl, h2, hr1, hT⟩
theorem numS_lit (R p n g : Nat) (xs : List Int) (t : TypeId) (w : World) (hg : w.heap.size = g) (hr : Rd w R p) (hp : p ≤ 1000000000) (hn : xs.length = n) (h0 : 0 < n) (h1 : n ≤ 1000000) :
    Calls Try.prog 47 #[.pointer (some ⟨R, 0, none⟩), .slice (some ⟨g, 0, none⟩) n n] (w.alloc (.cells (xs.map (Value.int .i64)).toArray t)) fun e w' => ∃ x, x ∈ xs ∧ e = .returned (.int .i64 x) ∧ Rd w' R (p + 1) ∧ Touch R w w' := by
  subst hg
  have hb : Below w.heap.size w (w.alloc (.cells (xs.map (Value.int .i64)).toArray t)) := (Below.refl _ _).alloc (Nat.le_refl _) _
  refine (num_any R p w.heap.size 0 n n xs _ (hr.below hb) hp (by have := hr.lt; omega) (by simp) h0 h1 hn (fun i hi => ?_)).mono ?_
  · rw [World.cell?_alloc_at _ _ _ _ rfl]; simp [hi]
  · rintro e w' ⟨x, h1, h2, h3, h4⟩
    exact ⟨x, h1, h2, h3, (Touch.of_below hb).trans h4⟩
theorem cell_new1 (w : World) (x : Value) (t : TypeId) : (w.alloc (.cells #[x] t)).cell? ⟨w.heap.size, 0, none⟩ = some x := by rw [World.cell?_alloc_at _ _ _ _ rfl]; rfl
theorem own_lits (w : World) (xs : List (List UInt8)) (C : Array Value) (hC : C.toList = xs.map strV) (hl : xs.length ≤ 1000) : OwnL w.heap.size (.slice (some ⟨w.heap.size, 0, none⟩) xs.length xs.length) xs (w.alloc (.cells C 9)) := by
  have hs : C.size = xs.length * 1 := by rw [← Array.length_toList, hC]; simp
  have := World.ownsRow_lit (base := w.heap.size) (e := 9) (size := 1) w C xs.length (Nat.le_refl _) (by unfold maxLen; omega) hs
  rw [hC] at this
  exact this
end Go.Proofs.Ytnlnkcjphioehaa
