/-
  Lines of fields, drawn. No statement is proved here.
-/
import Derived.Test.YtfjpajeipihlaaaDoorDrawF2
import Derived.Test.YtfjpajeipihlaaaDoorFoldL
import Derived.Test.YtfjpajeipihlaaaDoorBend
namespace Go.Proofs.YtfjpajeipihlaaaDoor
open Go.ChangeShapes Go.WideShapes Go.ChangeAt Go.RowKit

theorem foldFs_small (xs : List Fld) : (foldFs xs).length ≤ 183 * xs.length ∧ ∀ p ∈ foldFs xs, p.length ≤ 182 := by
  have key : ∀ ys : List Fld, (ys.flatMap foldF).length ≤ 183 * ys.length ∧ ∀ p ∈ ys.flatMap foldF, p.length ≤ 182 := by
    intro ys
    induction ys with
    | nil => simp
    | cons y ys ih =>
      have hl := foldF_len y
      refine ⟨by rw [List.flatMap_cons, List.length_append, List.length_cons]; omega, fun p hp => ?_⟩
      rw [List.flatMap_cons] at hp
      rcases List.mem_append.1 hp with h | h
      · exact hl.2 p h
      · exact ih.2 p h
  unfold foldFs
  split
  · rename_i h
    rw [← foldAll_map (fldsOk_iff.1 h).1]; exact key xs
  · simp
theorem flatten_le {M : Nat} : ∀ {xs : List (List UInt8)}, (∀ x ∈ xs, x.length ≤ M) → xs.flatten.length ≤ M * xs.length
  | [], _ => by simp
  | x :: xs, h => by
    have h1 := h x (by simp)
    have h2 := flatten_le (xs := xs) (fun y hy => h y (by simp [hy]))
    rw [List.flatten_cons, List.length_append, List.length_cons, Nat.mul_add, Nat.mul_one]; omega
theorem ownL_cases {B : Nat} {v : Value} {xs : List (List UInt8)} {w : World} (h : OwnL B v xs w) (h0 : xs.length ≠ 0) : ∃ g cap, v = .slice (some ⟨g, 0, none⟩) xs.length cap ∧ B ≤ g := by
  have ho := h
  unfold OwnL at ho
  rcases ho.2 with ⟨_, h0'⟩ | ⟨g, cap, cur, rfl, hBg, _⟩
  · exact absurd h0' h0
  · exact ⟨g, cap, rfl, hBg⟩
theorem ownL_touch {B R : Nat} {v : Value} {xs : List (List UInt8)} {w w' : World} (h : OwnL B v xs w) (t : Touch R w w') (hR : R < B) : OwnL B v xs w' := by
  refine ⟨h.1, ?_⟩
  rcases h.2 with hn | ⟨g, cap, cur, hv, hg1, hg2, rest⟩
  · exact .inl hn
  · exact .inr ⟨g, cap, cur, hv, hg1, by rw [t.block g (lt_of_block hg2) (by omega), hg2], rest⟩
/-- What a row of texts has where a text is put. -/
theorem ownL_put {B g cap k : Nat} {xs : List (List UInt8)} {w : World} (h : OwnL B (.slice (some ⟨g, 0, none⟩) xs.length cap) xs w) (hk : k < xs.length) (y : ByteArray) :
    w.cell? ⟨g, k, none⟩ = some (.string (str xs[k])) ∧ w.frozen? ⟨g, k, none⟩ = false ∧
    OwnL B (.slice (some ⟨g, 0, none⟩) xs.length cap) (xs.set k y.data.toList) (w.setCell ⟨g, k, none⟩ (.string y)) := by
  have hw := h
  unfold OwnL at hw
  refine ⟨?_, hw.frozenAt _, ?_⟩
  · have := hw.cells (g := g) rfl k _ (List.getElem?_eq_getElem (by simpa using hk))
    rw [add0] at this; rw [this, List.getElem_map]; rfl
  · have hs := (hw.stored k (.string y)).1
    unfold OwnL
    rw [List.map_set, List.length_set]
    have e : strV y.data.toList = .string y := by unfold strV; rw [str_of]
    rw [e]; exact hs
/-- Lines are drawn; nothing that was there turns. -/
def DrawnLines (w : World) (e : Ending) (w' : World) : Prop := ∃ (v : Value) (xs : List (List UInt8)), e = .returned v ∧ OwnL w.heap.size v xs w' ∧ xs.length ≤ 1000 ∧ (∀ x ∈ xs, x.length ≤ 302) ∧ Below w.heap.size w w'
set_option maxRecDepth 100000 in
set_option maxHeartbeats 1000000 in
theorem drawReadFields_any (a : Option Addr) (n c : Nat) (w : World) (hc : Code w a n) (hnc : n ≤ c) (hm : c ≤ maxLen) :
    Calls Tryd.prog 21 #[.slice a n c] w (DrawnLines w) := by
  go_enter Tryd.func21, Tryd.ntmps21
  go_wp2_with fail
  refine (open_any a n c w hc hnc hm).mono ?_
  rintro e w1 ⟨R, rfl, hR, hr1, hb1⟩
  have hRl := hr1.lt
  have hs1 := hb1.size
  go_wp2_with fail
  refine (l3List_any R 0 w1 hr1 (by omega)).mono ?_
  rintro e w2 ⟨v2, fs, p2, rfl, ho2, hl2, hx2, f2, k2, hr2, ht2⟩
  have hs2 := ht2.size
  obtain ⟨a2, c2, rfl, hd2, _, _⟩ := ho2.read fldC_len
  have hFS := foldFs_small fs
  go_wp2_with fail
  refine (foldFieldsS_any a2 _ c2 fs w2 hd2 (by omega) (fun x hx => (hx2 x hx).up (by omega))).mono ?_
  rintro e w3 ⟨v3, rfl, ho3, hb3⟩
  have hs3 := hb3.size
  have ht3 : Touch R w1 w3 := ht2.ext (hb3.mono hs2)
  have hr3 := hr2.below hb3
  have hB := after_open hb1 hR ht3
  generalize foldFs fs = xs at *
  have hxl : xs.length ≤ 1000 := by omega
  have HXS : Hid (∀ p ∈ xs, p.length ≤ 300) := fun p hp => Nat.le_trans (hFS.2 p hp) (by omega)
  have HO3 := Lib.hid ho3
  clear hFS hd2 ho2 hx2 hl2
  by_cases h0 : xs.length = 0
  · obtain ⟨a3, c3, rfl, _, _⟩ := ho3.read
    have hz : ¬ ((0 : Int) < (xs.length : Int)) := by omega
    have h0i : ((xs.length : Nat) : Int) = 0 := by omega
    have HLE : Hid (xs.length ≤ 1000) := hxl
    clear ho3 hxl
    go_wp2
    go_ret
    exact ⟨_, xs, rfl, by first | exact HO3.out.base (by omega) | (have := HO3.out; rw [h0] at this; exact this.base (by omega)), HLE.out, (fun p hp => Nat.le_trans (HXS.out p hp) (by omega)), hB⟩
  · obtain ⟨g, cap, rfl, hBg⟩ := ownL_cases ho3 h0
    have hpos : (0 : Int) < (xs.length : Int) := by omega
    clear ho3
    go_wp2_with fail
    refine (pick_any R p2 2 w3 hr3 (by omega) (by omega)).mono ?_
    rintro e w5 ⟨q, rfl, hq, hr5, ht5⟩
    have hs5 := ht5.size
    by_cases q0 : q = 0
    · have e0 : ((q : Int) == 0) = true := by rw [q0]; rfl
      clear q0 hq
      go_wp2_with fail
      refine (pick_any R (p2 + 1) xs.length w5 hr5 (by omega) (by omega)).mono ?_
      rintro e w6 ⟨k, rfl, hk, hr6, ht6⟩
      have hkx : k < xs.length := by omega
      have hs6 := ht6.size
      have hO6 := ownL_touch HO3.out (ht5.trans ht6) (by omega)
      obtain ⟨c6, _, _⟩ := ownL_put hO6 hkx ⟨#[]⟩
      have hzk : (str xs[k]).size ≤ 300 := by rw [str_size]; exact HXS.out _ (List.getElem_mem hkx)
      have hki : (k : Int) < (xs.length : Int) := by omega
      have hk0 : (0 : Int) ≤ (k : Int) := by omega
      have HO6 := Lib.hid hO6
      have HKX := Lib.hid hkx
      generalize str xs[k] = s6 at *
      clear hO6
      go_wp2_with fail
      refine (bend_lit R (p2 + 1 + 1) 5 2 _ _ s6 w6 hr6 (by omega) (by omega) (by omega) (by omega) (by omega) (by decide)).mono ?_
      rintro e w7 ⟨y, p7, rfl, g7, f7, k7, hr7, ht7⟩
      have hT7 := ht5.trans (ht6.trans ht7)
      have hs7 := ht7.size
      obtain ⟨c7, z7, hst⟩ := ownL_put (ownL_touch HO6.out ht7 (by omega)) HKX.out y
      have HST := Lib.hid hst
      have HB7 : Hid (Below w.heap.size w (w7.setCell ⟨g, k, none⟩ (.string y))) :=
        (after_open hb1 hR (ht3.trans hT7)).setCell (by show w.heap.size ≤ g; omega) _
      have hly : (xs.set k y.data.toList).length ≤ 1000 := by rw [List.length_set]; exact hxl
      have HYS : Hid (∀ p ∈ xs.set k y.data.toList, p.length ≤ 302) := fun p hp => by
        rcases List.mem_or_eq_of_mem_set hp with h | h
        · exact Nat.le_trans (HXS.out p h) (by omega)
        · rw [h, size_list]; omega
      have HL : Hid ((xs.set k y.data.toList).length = xs.length) := List.length_set
      clear hst
      generalize xs.set k y.data.toList = ys at *
      generalize str xs[k] = q7 at *
      go_wp2
      go_ret
      exact ⟨_, ys, rfl, HST.out.base (by omega), hly, HYS.out, HB7.out⟩
    · have e0 : ((q : Int) == 0) = false := by rw [beq_eq_false_iff_ne]; omega
      clear q0 hq
      go_wp2
      go_ret
      exact ⟨_, xs, rfl, (ownL_touch HO3.out ht5 (by omega)).base (by omega), hxl, (fun p hp => Nat.le_trans (HXS.out p hp) (by omega)), after_open hb1 hR (ht3.trans ht5)⟩
end Go.Proofs.YtfjpajeipihlaaaDoor
