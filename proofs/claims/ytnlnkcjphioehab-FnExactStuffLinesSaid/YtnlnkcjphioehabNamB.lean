/-
  The library's strings.Builder where rows are laid behind the builder and ahead of its buffer: the frame of its writing methods. No statement is proved here.
-/
import Derived.Test.YtnlnkcjphioehabBuilder
namespace Go.Proofs.Ytnlnkcjphioehab
open Go.RowKit

/-- A builder at block b, its buffer from block G on. -/
def BldG (G b : Nat) (l : List UInt8) (w : World) : Prop := b < G ∧ G ≤ w.heap.size ∧ ∃ p v, (p = .pointer none ∨ p = .pointer (some ⟨b, 0, none⟩)) ∧ w.heap[b]? = some (.cells #[p, v] 39 (0, 0)) ∧ w.ownsRow G 5 1 v (Lib.byteCells l).length (Lib.byteCells l)
theorem ownRow_ne {G b n : Nat} {T : TypeId} {v : Value} {L : List Value} {w : World} (h : w.ownsRow G T 1 v n L) (hb : b < G) : v.ownBlock ≠ some b := by
  rcases h.2 with ⟨hv, _⟩ | ⟨g, cap, cur, hv, hg1, _⟩
  · rw [hv]; simp [Value.ownBlock]
  · rw [hv]; simp [Value.ownBlock]; omega
theorem ownRow_base {G b n : Nat} {T : TypeId} {v : Value} {L : List Value} {w : World} (h : w.ownsRow G T 1 v n L) (hb : b ≤ G) : w.ownsRow b T 1 v n L := by
  refine ⟨h.1, ?_⟩
  rcases h.2 with hn | ⟨g, cap, cur, hv, hg1, rest⟩
  · exact .inl hn
  · exact .inr ⟨g, cap, cur, hv, by omega, rest⟩
theorem BldG.toBld {G b : Nat} {l : List UInt8} {w : World} (h : BldG G b l w) : Bld b b l w := by
  obtain ⟨hb, _, p, v, hp, hbk, hown⟩ := h
  have k : ∀ q, q = p → Lib.BuilderAt 39 5 b b q (Lib.byteCells l) w := fun q hq => by
    subst hq; exact ⟨Nat.le_refl _, v, hbk, ownRow_base hown (Nat.le_of_lt hb), ownRow_ne hown hb⟩
  rcases hp with hp | hp
  · exact .inl (k _ hp.symm)
  · exact .inr (k _ hp.symm)
theorem BldG.keep {G b : Nat} {l : List UInt8} {w w' : World} (h : BldG G b l w) (k : Below w.heap.size w w') : BldG G b l w' := by
  obtain ⟨hb, hG, p, v, hp, hbk, hown⟩ := h
  refine ⟨hb, Nat.le_trans hG k.size, p, v, hp, by rw [k.block b (by omega), hbk], ⟨hown.1, ?_⟩⟩
  rcases hown.2 with hn | ⟨g, cap, cur, hv, hg1, hg2, rest⟩
  · exact .inl hn
  · have hglt : g < w.heap.size := by
      rcases Nat.lt_or_ge g w.heap.size with h' | h'
      · exact h'
      · simp [Array.getElem?_eq_none h'] at hg2
    exact .inr ⟨g, cap, cur, hv, hg1, by rw [k.block g hglt, hg2], rest⟩
/-- A builder just laid, and rows behind it. -/
theorem bldG_fresh {w w1 : World} (h : Below (w.alloc (.cells #[.pointer none, .slice none 0 0] 39)).heap.size (w.alloc (.cells #[.pointer none, .slice none 0 0] 39)) w1) : BldG w1.heap.size w.heap.size [] w1 := by
  have hs := h.size
  simp at hs
  refine ⟨by omega, Nat.le_refl _, .pointer none, .slice none 0 0, .inl rfl, ?_, World.ownsRow_nil _ _ _ _⟩
  rw [h.block w.heap.size (by simp)]
  show (w.heap.push _)[w.heap.size]? = _
  simp
theorem Touch.set {R i : Nat} {a w : World} (h : Touch R a w) (v : Value) : Touch R a (w.setCell ⟨R, i, none⟩ v) := h.trans (Touch.setCell w R i v)
theorem copyCheck_G (G b : Nat) (l : List UInt8) (w : World) (h : BldG G b l w) :
    Calls Try.prog 35 #[.pointer (some ⟨b, 0, none⟩)] w fun e w' => e = .returned (.tuple #[]) ∧ (∃ v, w'.heap[b]? = some (.cells #[.pointer (some ⟨b, 0, none⟩), v] 39 (0, 0)) ∧ w'.ownsRow G 5 1 v (Lib.byteCells l).length (Lib.byteCells l)) ∧ w'.heap.size = w.heap.size ∧ (∀ a : World, Touch b a w → Touch b a w') := by
  obtain ⟨hb, hG, p, v, hp, hbk, hown⟩ := h
  rcases hp with rfl | rfl
  · refine (copyCheck_fresh b w (by rw [Lib.cell_of_heap hbk]; rfl) (by simp [World.shape?, hbk]) (Lib.frozen_of_heap hbk 0)).mono ?_
    rintro e w' ⟨rfl, rfl⟩
    refine ⟨rfl, ⟨v, by simp [World.setCell, Array.getElem?_modify, hbk], ⟨hown.1, ?_⟩⟩, by simp [World.setCell], fun a ha => ha.set _⟩
    rcases hown.2 with hn | ⟨g, cap, cur, hv, hg1, hg2, rest⟩
    · exact .inl hn
    · exact .inr ⟨g, cap, cur, hv, hg1, by rw [Below.heap_setCell _ _ _ _ (by show g ≠ b; omega), hg2], rest⟩
  · refine (copyCheck_used b w (by rw [Lib.cell_of_heap hbk]; rfl)).mono ?_
    rintro e w' ⟨rfl, rfl⟩
    exact ⟨rfl, ⟨v, hbk, hown⟩, rfl, fun a ha => ha⟩
theorem bldG_put {G b : Nat} {v : Value} {l : List UInt8} {w : World} (hb : b < G) (hG : G ≤ w.heap.size) (hbk : w.heap[b]? = some (.cells #[.pointer (some ⟨b, 0, none⟩), v] 39 (0, 0))) (v' : Value) (hown : w.ownsRow G 5 1 v' (Lib.byteCells l).length (Lib.byteCells l)) : BldG G b l (w.setCell ⟨b, 1, none⟩ v') := by
  refine ⟨hb, by simpa [World.setCell] using hG, .pointer (some ⟨b, 0, none⟩), v', .inr rfl, by simp [World.setCell, Array.getElem?_modify, hbk], ⟨hown.1, ?_⟩⟩
  rcases hown.2 with hn | ⟨g, cap, cur, hv, hg1, hg2, rest⟩
  · exact .inl hn
  · exact .inr ⟨g, cap, cur, hv, hg1, by rw [Below.heap_setCell _ _ _ _ (by show g ≠ b; omega), hg2], rest⟩
set_option maxRecDepth 100000 in
set_option maxHeartbeats 2000000 in
set_option maxRecDepth 100000 in
theorem writeByteG_any (G b : Nat) (l : List UInt8) (c : UInt8) (w : World) (h : BldG G b l w) (hlen : l.length + 1 ≤ 140737488355328) :
    Calls Try.prog 34 #[.pointer (some ⟨b, 0, none⟩), .int .u8 c.toNat] w fun e w' => e = .returned .nilIface ∧ BldG G b (l ++ [c]) w' ∧ (∀ a : World, a.heap.size = G → Touch b a w → Touch b a w') := by
  have hbG := h.1
  have hGw := h.2.1
  have HLL := Lib.hid (Lib.byteCells_length l)
  obtain ⟨i0, hi, hz0, hz1, hz2⟩ := info_parts bInfo
  go_enter Try.func34, Try.ntmps34
  go_wp2_with fail
  refine (copyCheck_G G b l _ h).mono ?_
  rintro e w1 ⟨rfl, ⟨v, hbk, hown⟩, hsz, ht1⟩
  have HT1 := Lib.hid ht1
  have HSZ := Lib.hid hsz
  have c0 : w1.cell? ⟨b, 0, none⟩ = some (.pointer (some ⟨b, 0, none⟩)) := by rw [Lib.cell_of_heap hbk]; rfl
  have c1 : w1.cell? ⟨b, 1, none⟩ = some v := by rw [Lib.cell_of_heap hbk]; rfl
  have HNE := Lib.hid (ownRow_ne hown hbG)
  clear ht1 hsz
  go_wp2_with (at_builtin; refine wpList_append_own _ rfl _ _ 37 rfl G 5 i0 (.int .u8 0) 1 1 Try.underlying37 hi hz0 hz1 hz2 rfl (by decide) _ _ _ rfl (hown.alloc _) ⟨w1.heap.size, 0, none⟩ 1 1 [.int .u8 c.toNat] rfl rfl ?c1 ?c2 ?c3 ?c4 ?c5 ?_)
  case c1 =>
    intro j u hj
    match j, hj with
    | 0, hj => simp at hj; subst hj; simp [Addr.add]
  case c2 => intro u hu; simp at hu; subst hu; rfl
  case c3 => have := HLL.out; unfold maxLen; omega
  case c4 => have := HLL.out; omega
  case c5 => have := HSZ.out; simp; omega
  intro v' w2 hown' hgrow _
  have hlt : b < w1.heap.size := by have := HSZ.out; omega
  have hb2 : w2.heap[b]? = some (.cells #[.pointer (some ⟨b, 0, none⟩), v] 39 (0, 0)) := by
    rw [hgrow.block b (by simp; omega) (fun e => HNE.out e.symm), Lib.alloc_old w1 _ b hlt]
    exact hbk
  have d0 : w2.cell? ⟨b, 0, none⟩ = some (.pointer (some ⟨b, 0, none⟩)) := by rw [Lib.cell_of_heap hb2]; rfl
  have d1 : w2.cell? ⟨b, 1, none⟩ = some v := by rw [Lib.cell_of_heap hb2]; rfl
  have f1 : w2.frozen? ⟨b, 1, none⟩ = false := Lib.frozen_of_heap hb2 1
  have HOWN' := Lib.hid hown'
  have HT2 : Hid (∀ a : World, a.heap.size = G → Touch b a w → Touch b a w2) := fun a ha h0 => by
    have h1 := HT1.out a h0
    have hgs := hgrow.size
    simp at hgs
    refine ⟨hgrow.os.trans h1.os, hgrow.tape.trans h1.tape, hgrow.output.trans h1.output, by have := h1.size; omega, fun k hk hr => ?_⟩
    rw [hgrow.block k (by have := HSZ.out; simp; omega) (fun e => ownRow_ne hown (by omega : k < G) e.symm), Lib.alloc_old w1 _ k (by have := HSZ.out; omega)]
    exact h1.block k hk hr
  have hs2 : G ≤ w2.heap.size := by have := hgrow.size; have := HSZ.out; simp at *; omega
  obtain ⟨g, cap, rfl⟩ : ∃ g cap, v' = .slice (some ⟨g, 0, none⟩) ((Lib.byteCells l).length + 1) cap := by
    rcases hown'.2 with ⟨_, h0⟩ | ⟨g, cap, cur, hv, _⟩
    · omega
    · exact ⟨g, cap, hv⟩
  clear hown'
  go_wp2
  go_ret
  refine ⟨rfl, bldG_put hbG hs2 hb2 _ ?_, fun a ha h0 => (HT2.out a ha h0).set _⟩
  have e1 : Lib.byteCells (l ++ [c]) = Lib.byteCells l ++ [.int .u8 c.toNat] := by simp [Lib.byteCells]
  rw [e1]; simpa using HOWN'.out
set_option maxRecDepth 100000 in
set_option maxHeartbeats 2000000 in
set_option maxRecDepth 100000 in
theorem writeStringG_any (G b : Nat) (l : List UInt8) (s : ByteArray) (w : World) (h : BldG G b l w) (hlen : l.length + s.size ≤ 140737488355328) :
    Calls Try.prog 26 #[.pointer (some ⟨b, 0, none⟩), .string s] w fun e w' => e = .returned (.tuple #[.int .i64 s.size, .nilIface]) ∧ BldG G b (l ++ s.data.toList) w' ∧ (∀ a : World, a.heap.size = G → Touch b a w → Touch b a w') := by
  have hbG := h.1
  have hGw := h.2.1
  have HLL := Lib.hid (Lib.byteCells_length l)
  obtain ⟨i0, hi, hz0, hz1, hz2⟩ := info_parts bInfo
  go_enter Try.func26, Try.ntmps26
  go_wp2_with fail
  refine (copyCheck_G G b l _ h).mono ?_
  rintro e w1 ⟨rfl, ⟨v, hbk, hown⟩, hsz, ht1⟩
  have HT1 := Lib.hid ht1
  have HSZ := Lib.hid hsz
  have c0 : w1.cell? ⟨b, 0, none⟩ = some (.pointer (some ⟨b, 0, none⟩)) := by rw [Lib.cell_of_heap hbk]; rfl
  have c1 : w1.cell? ⟨b, 1, none⟩ = some v := by rw [Lib.cell_of_heap hbk]; rfl
  have HNE := Lib.hid (ownRow_ne hown hbG)
  clear ht1 hsz
  go_wp2_with (at_builtin; refine Lib.wpList_append_own_string _ rfl _ _ 37 9 rfl G 5 i0 Try.underlying37 Try.underlying9 hi hz0 hz1 hz2 _ _ _ rfl hown s rfl ?c3 ?c4 ?c5 ?_)
  case c3 => have := HLL.out; unfold maxLen; omega
  case c4 => have := HLL.out; omega
  case c5 => have := HSZ.out; omega
  intro v' w2 hown' hgrow _
  have hlt : b < w1.heap.size := by have := HSZ.out; omega
  have hb2 : w2.heap[b]? = some (.cells #[.pointer (some ⟨b, 0, none⟩), v] 39 (0, 0)) := by
    rw [hgrow.block b hlt (fun e => HNE.out e.symm)]
    exact hbk
  have d0 : w2.cell? ⟨b, 0, none⟩ = some (.pointer (some ⟨b, 0, none⟩)) := by rw [Lib.cell_of_heap hb2]; rfl
  have d1 : w2.cell? ⟨b, 1, none⟩ = some v := by rw [Lib.cell_of_heap hb2]; rfl
  have f1 : w2.frozen? ⟨b, 1, none⟩ = false := Lib.frozen_of_heap hb2 1
  have HOWN' := Lib.hid hown'
  have HT2 : Hid (∀ a : World, a.heap.size = G → Touch b a w → Touch b a w2) := fun a ha h0 => by
    have h1 := HT1.out a h0
    have hgs := hgrow.size
    refine ⟨hgrow.os.trans h1.os, hgrow.tape.trans h1.tape, hgrow.output.trans h1.output, by have := h1.size; omega, fun k hk hr => ?_⟩
    rw [hgrow.block k (by have := HSZ.out; omega) (fun e => ownRow_ne hown (by omega : k < G) e.symm)]
    exact h1.block k hk hr
  have hs2 : G ≤ w2.heap.size := by have := hgrow.size; have := HSZ.out; omega
  obtain ⟨ao, n', cap, rfl⟩ : ∃ ao n' cap, v' = .slice ao n' cap := by
    rcases hown'.2 with ⟨hv, _⟩ | ⟨g, cap, cur, hv, _⟩
    · exact ⟨_, _, _, hv⟩
    · exact ⟨_, _, _, hv⟩
  clear hown'
  go_wp2
  go_ret2
  refine ⟨rfl, bldG_put hbG hs2 hb2 _ ?_, fun a ha h0 => (HT2.out a ha h0).set _⟩
  have e1 : Lib.byteCells (l ++ s.data.toList) = Lib.byteCells l ++ Lib.strCells s := by simp [Lib.byteCells, Lib.strCells]
  rw [e1]; simpa [Lib.strCells_length] using HOWN'.out
end Go.Proofs.Ytnlnkcjphioehab
