/-
  The domains of a list of addresses: what the program's function returns. No statement is proved here.
-/
import Derived.Test.YthcmdmjijdafoaaDomM
import Derived.Test.YthcmdmjijdafoaaAdrV
import Derived.Test.YthcmdmjijdafoaaWords
import Derived.Test.YthcmdmjijdafoaaLists
import Derived.Test.YthcmdmjijdafoaaShelf
namespace Go.Proofs.Ythcmdmjijdafoaa
open Go.RowKit Go.Sort

/-! A row of strings whose cells are laid anew. -/
theorem holds_own {B g cap : Nat} {xs : List (List UInt8)} {w : World} (h : OwnL B (.slice (some ⟨g, 0, none⟩) xs.length cap) xs w) : Holds encStr w g 0 xs.toArray := by
  intro j hj
  have hj' : j < xs.length := by simpa using hj
  rw [Nat.zero_add]
  refine ⟨?_, World.ownsRow.frozenAt h j⟩
  have := World.ownsRow.cellAt h j (by omega)
  rw [this, List.getElem?_map, List.getElem?_eq_getElem hj']
  simp [hj', strV, str]
theorem own_put {B g cap : Nat} {xs d : List (List UInt8)} {w : World} (h : OwnL B (.slice (some ⟨g, 0, none⟩) xs.length cap) xs w) (hd : d.length = xs.length) :
    OwnL B (.slice (some ⟨g, 0, none⟩) d.length cap) d (putRow encStr w g 0 d.toArray) := by
  obtain ⟨_, h2⟩ := h
  rcases h2 with ⟨hv, _⟩ | ⟨g', cap', cur, hv, hg, hw, hn, hc, hs, ht⟩
  · cases hv
  · injection hv with e1 e2 e3
    injection e1 with e1
    injection e1 with e1 _ _
    subst e1 e3
    refine ⟨by simp, .inr ⟨g, cap, putCells encStr 0 d.toArray cur, rfl, hg, ?_, by omega, hc, by simp [putCells, hs], ?_⟩⟩
    · unfold putRow mapBlock
      simp [Array.getElem?_modify, hw, onCells]
    · apply List.ext_getElem?
      intro i
      by_cases hi : i < d.length
      · rw [List.getElem?_take_of_lt (by omega), List.getElem?_map, List.getElem?_eq_getElem hi, Array.getElem?_toList]
        have hic : i < cur.size := by omega
        unfold putCells
        rw [Array.getElem?_mapIdx, Array.getElem?_eq_getElem hic]
        simp [hi, strV, str]
      · rw [List.getElem?_eq_none (by rw [List.length_take]; omega), List.getElem?_eq_none (by simp; omega)]
theorem own_pre {B g cap : Nat} {a b : List (List UInt8)} {w : World} (h : OwnL B (.slice (some ⟨g, 0, none⟩) (a ++ b).length cap) (a ++ b) w) : OwnL B (.slice (some ⟨g, 0, none⟩) a.length cap) a w := by
  obtain ⟨_, h2⟩ := h
  rcases h2 with ⟨hv, _⟩ | ⟨g', cap', cur, hv, hg, hw, hn, hc, hs, ht⟩
  · cases hv
  · injection hv with e1 e2 e3
    injection e1 with e1
    injection e1 with e1 _ _
    subst e1 e3
    refine ⟨by simp, .inr ⟨g, cap, cur, rfl, hg, hw, by rw [List.length_append] at hn; omega, hc, hs, ?_⟩⟩
    have h3 := congrArg (List.take a.length) ht
    rw [List.take_take, List.map_append, List.length_append] at h3
    rw [Nat.mul_one] at *
    rw [Nat.min_eq_left (by omega)] at h3
    rw [h3, List.take_left' (by simp)]
theorem below_put {B g o : Nat} {w : World} {d : Array (List UInt8)} (h : B ≤ g) : Below B w (putRow encStr w g o d) :=
  ⟨rfl, rfl, rfl, by simp [putRow, mapBlock], fun k hk => by unfold putRow mapBlock; rw [Array.getElem?_modify, if_neg (by omega)]⟩
theorem below_ahead (B : Nat) (w : World) (n : Nat) : Below B w (Sort.ahead w n) := ⟨rfl, rfl, rfl, Nat.le_refl _, fun _ _ => rfl⟩
theorem below_os (w : World) (os : Array Obj) : Below w.heap.size w (grow w os) :=
  ⟨rfl, rfl, rfl, by simp [grow], fun i hi => by simp [grow, Array.getElem?_append, hi]⟩
/-- A row of strings that the call has made. -/
def DomRet (xs : List (List UInt8)) (w : World) (e : Ending) (w' : World) : Prop := ∃ v, e = .returned v ∧ OwnL w.heap.size v xs w' ∧ Below w.heap.size w w'
/-- Sorting a row of the call's own. -/
theorem sortOwn_any (B : Nat) (v : Value) (xs : List (List UInt8)) (w : World) (h : OwnL B v xs w) (hB : B ≤ w.heap.size) (hn : xs.length ≤ 1073741824) :
    Calls Try.prog 32 #[v] w fun e w' => e = .returned (.tuple #[]) ∧ OwnL B v (sortT xs) w' ∧ Below B w w' := by
  rcases h.2 with ⟨hv, h0⟩ | ⟨g, cap, cur, hv, hg, hw, _⟩
  · subst hv
    have hx : xs = [] := List.length_eq_zero_iff.1 h0
    subst hx
    refine (Try.slices_Sort_string_none none 0 w).mono ?_
    rintro e w' ⟨rfl, rfl⟩
    exact ⟨rfl, by have : sortT [] = [] := by unfold sortT; simp
                   rw [this]; exact h, Below.refl _ _⟩
  · subst hv
    refine (Try.slices_Sort_string g 0 cap xs w (holds_own h) (lt_of_block hw) (by omega)).mono ?_
    rintro e w' ⟨rfl, n, os, rfl⟩
    have hb1 : Below w.heap.size w (Sort.ahead w n) := below_ahead _ _ _
    have h1 := OwnL.keep h hb1
    have h2 := own_put (d := sortT xs) h1 (sortT_len xs)
    have hb2 : Below B w (putRow encStr (Sort.ahead w n) g 0 (sortT xs).toArray) := (below_ahead B w n).trans (below_put hg)
    refine ⟨rfl, ?_, hb2.trans ((below_os _ os).mono (by have := hb2.size; omega))⟩
    have h3 := OwnL.keep h2 (below_os _ os)
    rw [sortT_len] at h3
    exact h3
/-- Leaving out what is repeated. -/
theorem compactOwn_any (B : Nat) (v : Value) (xs : List (List UInt8)) (w : World) (h : OwnL B v xs w) (hn : xs.length ≤ 1073741824) :
    Calls Try.prog 33 #[v] w fun e w' => ∃ v', e = .returned v' ∧ OwnL B v' (Lib.compact xs) w' ∧ Below B w w' := by
  rcases h.2 with ⟨hv, h0⟩ | ⟨g, cap, cur, hv, hg, hw, hnc, _⟩
  · subst hv
    have hx : xs = [] := List.length_eq_zero_iff.1 h0
    subst hx
    refine (Try.slices_Compact_string_empty none 0 w).mono ?_
    rintro e w' ⟨rfl, rfl⟩
    exact ⟨_, rfl, by have : Lib.compact ([] : List (List UInt8)) = [] := rfl
                      rw [this]; exact h, Below.refl _ _⟩
  · subst hv
    refine (Try.slices_Compact_string g 0 cap xs w (holds_own h) (by omega) hnc).mono ?_
    rintro e w' ⟨rfl, q, rfl⟩
    have hb1 : Below w.heap.size w (Sort.ahead w q) := below_ahead _ _ _
    have h1 := OwnL.keep h hb1
    have hle := Lib.compact_length_le xs
    have hl : (Lib.compact xs ++ List.replicate (xs.length - (Lib.compact xs).length) []).length = xs.length := by simp; omega
    have h2 := own_put (d := Lib.compact xs ++ List.replicate (xs.length - (Lib.compact xs).length) []) h1 hl
    exact ⟨_, rfl, own_pre h2, (below_ahead B w q).trans (below_put hg)⟩
set_option maxRecDepth 100000 in
set_option maxHeartbeats 1000000 in
theorem domainsOf_any (a : Option Addr) (n c : Nat) (xs : List Adr) (w : World) (hr : RdA w a n xs) (hn : n ≤ 1048576) (hx : ∀ x ∈ xs, SmallA 1073741000 x) :
    Calls Try.prog 14 #[.slice a n c] w (DomRet (domsL xs) w) := by
  obtain ⟨i0, hi, hz0, hz1, hz2⟩ := info_parts sInfo
  obtain ⟨hl, hr2⟩ := hr
  have HLEN := Lib.hid hl
  have HR := Lib.hid hr2
  have HX := Lib.hid hx
  clear hl hr2 hx
  go_enter Try.func14, Try.ntmps14
  go_wp2_with fail
  go_loopw [3, 8] (fun v i wr => ∃ (k : Nat) (acc : List (List UInt8)), k ≤ n ∧ i = .int .i64 k ∧ acc.length = k ∧ (xs.take k).map (fun x => low x.dom) = acc ∧ OwnL w.heap.size v acc wr ∧ Below w.heap.size w wr) (fun _ i _ => n - (intOf i).toNat)
  case atStart => exact ⟨0, [], Nat.zero_le _, rfl, rfl, rfl, OwnL.nil _ _, Below.refl _ _⟩
  case round =>
    obtain ⟨k, acc, hk, rfl, hal, hacc, hown, hb⟩ := hrel
    have HACC := Lib.hid hacc
    have HAL := Lib.hid hal
    clear hacc hal
    by_cases hlt : k < n
    · have hkx : k < xs.length := by rw [HLEN.out]; exact hlt
      obtain ⟨b, off, rfl, hbl, hcell⟩ := HR.out.resolve_left (by omega)
      obtain ⟨q0, q1, q2⟩ := RdR.adr hcell hkx
      rw [← below_at hb hbl] at q0 q1 q2
      have hz := (HX.out _ (List.getElem_mem hkx)).2.2
      rw [← str_size] at hz
      have HNX : Hid ((xs.take (k + 1)).map (fun x => low x.dom) = acc ++ [low xs[k].dom]) := by
        show _ = _
        rw [List.take_succ_eq_append_getElem hkx, List.map_append, HACC.out]; rfl
      have HLOW : Hid (lowS (str xs[k].dom) = str (low xs[k].dom)) := by show lowS _ = _; unfold lowS; rw [str_list]
      generalize xs[k] = x at *
      generalize str x.name = s0 at *
      generalize str x.loc = s1 at *
      clear hcell
      have HOWN := Lib.hid hown
      clear hown
      have hbA : Below wr.heap.size wr (wr.alloc (.cells #[.string s0, .string s1, .string (str x.dom)] 29)) := (Below.refl _ _).alloc (Nat.le_refl _) _
      generalize str x.dom = s2 at *
      go_wp2_with fail
      refine (lowerText_any s2 _ (by omega)).mono ?_
      rintro e w1 ⟨rfl, hb1⟩
      rw [HLOW.out]
      have hown1 : OwnL w.heap.size u3 acc w1 := HOWN.out.keep (nx hbA hb1)
      have hb2 := nx hb (nx hbA hb1)
      have hacl : acc.length ≤ 1048576 := by have := HAL.out; omega
      unfold OwnL at hown1
      clear hb1
      generalize hT : low x.dom = t at *
      have HTT := Lib.hid hT
      clear hT
      go_wp2_with (at_builtin; refine wpList_append_own _ rfl _ _ 31 rfl w.heap.size 9 i0 (.string ⟨#[]⟩) 1 16 Try.underlying31 hi hz0 hz1 hz2 rfl (by decide) _ _ _ rfl (hown1.alloc _) ⟨w1.heap.size, 0, none⟩ 1 1 [.string (str t)] rfl rfl ?c1 ?c2 ?c3 ?c4 ?c5 ?_)
      case c1 =>
        intro j u hj
        match j, hj with
        | 0, hj => simp at hj; subst hj; simp [Addr.add]
      case c2 => intro u hu; simp at hu; subst hu; rfl
      case c3 => unfold maxLen; omega
      case c4 => omega
      case c5 => have := hb2.size; simp; omega
      intro v' w2 hown' hgrow _
      have hO2 : OwnL w.heap.size v' (acc ++ [t]) w2 := by unfold OwnL; simpa [strV] using hown'
      have hb3 : Below w.heap.size w w2 := (hb2.alloc (by have := hb2.size; omega) _).grown hgrow (by have := hb2.size; simp; omega) (fun k hk => (hown1.lt k hk).1)
      go_wp2
      go_roundw
      case rel => exact ⟨k + 1, _, by omega, by go_num, by have := HAL.out; simp; omega, HNX.out, hO2, hb3⟩
      case measure => simp [intOf]; omega
    · have HE : Hid (xs.map (fun x => low x.dom) = acc) := by show _ = _; rw [← HACC.out, List.take_of_length_le (by rw [HLEN.out]; omega)]
      have hacl : acc.length ≤ 1048576 := by have := HAL.out; omega
      have HB := Lib.hid hb
      have HOWN := Lib.hid hown
      clear hown hb
      go_wp2_with fail
      refine (sortOwn_any w.heap.size u3 acc _ HOWN.out HB.out.size (by omega)).mono ?_
      rintro e w1 ⟨rfl, ho1, hb1⟩
      have HB1 : Hid (Below w.heap.size w w1) := HB.out.trans hb1
      have hl1 : (sortT acc).length ≤ 1073741824 := by rw [sortT_len]; omega
      go_wp2_with fail
      refine (compactOwn_any w.heap.size u3 (sortT acc) _ ho1 hl1).mono ?_
      rintro e w2 ⟨v', rfl, ho2, hb2⟩
      rw [← HE.out, compact_sort] at ho2
      go_wp2
      go_ret
      exact ⟨v', rfl, ho2, HB1.out.trans hb2⟩
end Go.Proofs.Ythcmdmjijdafoaa
