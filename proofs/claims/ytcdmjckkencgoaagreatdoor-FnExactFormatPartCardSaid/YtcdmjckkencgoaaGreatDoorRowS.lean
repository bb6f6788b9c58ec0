/-
  Rows of rows of strings: rows that the call has made, slices that read as lists of lists. No statement is proved here.
-/
import Derived.Test.YtcdmjckkencgoaaGreatDoorRowL
import Derived.Test.YtcdmjckkencgoaaGreatDoorOnly
import Derived.Maps.AppendAt
namespace Go.Proofs.YtcdmjckkencgoaaGreatDoor
open Go.RowKit

theorem OwnL.grown {B : Nat} {v : Value} {xs : List (List UInt8)} {w w' : World} {row : Option Nat} (h : OwnL B v xs w) (hg : w.grownBy w' row) (hne : ∀ g, v.ownBlock = some g → row ≠ some g) : OwnL B v xs w' := by
  unfold OwnL at h ⊢
  refine World.ownsRow.kept h hg ?_
  cases hv : v.ownBlock with
  | none => exact .inl rfl
  | some g => exact .inr (fun e => hne g hv e.symm)
theorem OwnL.readc {B : Nat} {v : Value} {xs : List (List UInt8)} {w : World} (h : OwnL B v xs w) : ∃ a c, v = .slice a xs.length c ∧ RdL w a xs.length xs ∧ xs.length ≤ maxLen ∧ (a = none → c = 0) ∧ xs.length ≤ c := by
  obtain ⟨a, c, hv, hr, hl⟩ := h.read
  refine ⟨a, c, hv, hr, hl, ?_⟩
  unfold OwnL at h
  rcases h.2 with ⟨hn, h0⟩ | ⟨g, cap, cur, hv', _, _, hnc, _⟩
  · rw [hn] at hv; injection hv with h1 h2 h3
    exact ⟨fun _ => h3.symm, by omega⟩
  · rw [hv'] at hv; injection hv with h1 h2 h3
    exact ⟨fun e => (by rw [e] at h1; cases h1), by omega⟩
theorem addr_add (b off i : Nat) : (⟨b, off, none⟩ : Addr).add i = ⟨b, off + i, none⟩ := by unfold Addr.add; split <;> simp_all
set_option maxRecDepth 100000 in
set_option maxHeartbeats 400000 in
theorem wpList_append_RL {ops : Array Oper} {rest : List Oper} {o : Oper} {Q : Exit → Act → World → Prop} {a : Act} {w : World} (hw : Region.wanted o (yielded ops a.tmps) = true) (s x : Operand)
    (ho : o.op = .call { callee := .builtin .append, args := #[s, x], argTypes := #[23, 23] })
    (B : Nat) (v : Value) (xs ys : List (List UInt8)) (ad : Option Addr) (n c : Nat) (hs : a.eval s = v) (hx : a.eval x = .slice ad n c) (hown : OwnL B v xs w) (hy : RdL w ad n ys) (hac : ad = none → c = 0) (hB : B ≤ w.heap.size) (hl : xs.length + ys.length ≤ 10000000)
    (h : ∀ v' w', OwnL B v' (xs ++ ys) w' → w.grownBy w' v.ownBlock → (v'.ownBlock = v.ownBlock ∨ v'.ownBlock = some w.heap.size) → wpList Tryz.prog ops Q rest (a.put o.dst v') w') : wpList Tryz.prog ops Q (o :: rest) a w := by
  obtain ⟨i0, hi, hz0, hz1, hz2⟩ := info_parts sInfo
  refine wpList_unguardL hw ?_
  have hn := hy.1
  unfold OwnL at hown
  cases ad with
  | none =>
    have h0 : n = 0 := by
      rcases hy.2 with e | ⟨b, off, e, _⟩
      · exact e
      · cases e
    obtain rfl := hac rfl
    subst h0
    have hn0 : ys = [] := List.length_eq_zero_iff.1 hn
    refine wpList_append_own_none rfl s x 23 ho B 9 i0 1 Tryz.underlying23 hi v xs.length (xs.map strV) hs hown hx ?_
    refine h v w ?_ ⟨rfl, rfl, rfl, Nat.le_refl _, fun _ _ _ => rfl⟩ (.inl rfl)
    subst hn0
    rw [List.append_nil]; exact hown
  | some q =>
    refine wpList_append_own_at w rfl s x 23 ho B 9 i0 (.string ⟨#[]⟩) 1 16 Tryz.underlying23 hi hz0 hz1 hz2 rfl (by decide) v xs.length (xs.map strV) hs hown q n c (ys.map strV) hx (by simp [hn]) ?_ ?_ ?_ ?_ hB ?_
    · intro j z hj
      have hjl : j < ys.length := by
        have := (List.getElem?_eq_some_iff.1 hj).1
        simpa using this
      rcases hy.2 with e | ⟨b, off, e, _, hc⟩
      · omega
      · injection e with e
        subst e
        rw [addr_add, hc j hjl]
        rw [List.getElem?_map, List.getElem?_eq_getElem hjl] at hj
        exact hj
    · intro z hz
      obtain ⟨q, _, rfl⟩ := List.mem_map.1 hz
      rfl
    · unfold maxLen; omega
    · omega
    · intro v' w' ho' hgr _ hat
      refine h v' w' ?_ hgr hat
      unfold OwnL; rw [List.length_append, List.map_append, hn]; exact ho'
set_option maxRecDepth 100000 in
set_option maxHeartbeats 400000 in
/-- One string behind a row of the call's own. -/
theorem wpList_append_1L {ops : Array Oper} {rest : List Oper} {o : Oper} {Q : Exit → Act → World → Prop} {a : Act} {w : World} (hw : Region.wanted o (yielded ops a.tmps) = true) (s x : Operand)
    (ho : o.op = .call { callee := .builtin .append, args := #[s, x], argTypes := #[23, 23] })
    (B : Nat) (v : Value) (xs : List (List UInt8)) (y : ByteArray) (b : Nat) (hs : a.eval s = v) (hx : a.eval x = .slice (some ⟨b, 0, none⟩) 1 1) (hc : w.cell? ⟨b, 0, none⟩ = some (.string y)) (hown : OwnL B v xs w) (hB : B ≤ w.heap.size) (hl : xs.length ≤ 9000000)
    (h : ∀ v' w', OwnL B v' (xs ++ [y.data.toList]) w' → w.grownBy w' v.ownBlock → (v'.ownBlock = v.ownBlock ∨ v'.ownBlock = some w.heap.size) → wpList Tryz.prog ops Q rest (a.put o.dst v') w') : wpList Tryz.prog ops Q (o :: rest) a w :=
  wpList_append_RL hw s x ho B v xs [y.data.toList] (some ⟨b, 0, none⟩) 1 1 hs hx hown ⟨rfl, .inr ⟨b, 0, rfl, lt_of_cell hc, fun i hi => by
    obtain rfl : i = 0 := by simpa using hi
    rw [Nat.add_zero, hc]; simp [str_of]⟩⟩ (fun e => by cases e) hB (by rw [List.length_singleton]; omega) h
theorem below_grown {B : Nat} {w w1 w' : World} {row : Option Nat} (hb : Below B w w1) (hg : w1.grownBy w' row) (hB : B ≤ w1.heap.size) (hr : ∀ g, row = some g → B ≤ g) : Below B w w' := hb.grown hg hB hr
theorem ssInfo : (Tryz.prog.info? 23).map (fun i => (i.zero, i.size, i.bytes)) = some (some (.slice none 0 0), 1, 24) := by kernel_rfl
/-- A row of rows that the call has made: v, its rows us, of the lists ps, all in blocks of their own from block B on. -/
structure OwnSS (B : Nat) (v : Value) (us : List Value) (ps : List (List (List UInt8))) (w : World) : Prop where
  row : w.ownsRow B 23 1 v ps.length us
  each : ∀ (i : Nat) u p, us[i]? = some u → ps[i]? = some p → OwnL B u p w
  off : ∀ (i : Nat) u g, us[i]? = some u → u.ownBlock = some g → v.ownBlock ≠ some g
  apart : ∀ (i j : Nat) u z g, us[i]? = some u → us[j]? = some z → i ≠ j → u.ownBlock = some g → z.ownBlock ≠ some g
theorem OwnSS.len {B : Nat} {v : Value} {us : List Value} {ps : List (List (List UInt8))} {w : World} (h : OwnSS B v us ps w) : us.length = ps.length := by have := h.row.1; omega
theorem OwnSS.nil (B : Nat) (w : World) : OwnSS B (.slice none 0 0) [] [] w :=
  ⟨⟨rfl, .inl ⟨rfl, rfl⟩⟩, fun i u p h => by simp at h, fun i u g h => by simp at h, fun i j u z g h => by simp at h⟩
theorem OwnSS.empty (w : World) : OwnSS w.heap.size (.slice (some ⟨w.heap.size, 0, none⟩) 0 0) [] [] (w.alloc (.cells #[] 23)) :=
  ⟨⟨rfl, .inr ⟨w.heap.size, 0, #[], rfl, Nat.le_refl _, by show (w.heap.push _)[w.heap.size]? = _; simp, Nat.le_refl _, by unfold maxLen; omega, rfl, rfl⟩⟩, fun i u p h => by simp at h, fun i u g h => by simp at h, fun i j u z g h => by simp at h⟩
theorem row_keepS {B : Nat} {v : Value} {n : Nat} {us : List Value} {t : TypeId} {w w' : World} (h : w.ownsRow B t 1 v n us) (k : Below w.heap.size w w') : w'.ownsRow B t 1 v n us := by
  refine ⟨h.1, ?_⟩
  rcases h.2 with hn | ⟨g, cap, cur, hv, hg1, hg2, rest⟩
  · exact .inl hn
  · refine .inr ⟨g, cap, cur, hv, hg1, ?_, rest⟩
    have hglt : g < w.heap.size := by
      rcases Nat.lt_or_ge g w.heap.size with h' | h'
      · exact h'
      · simp [Array.getElem?_eq_none h'] at hg2
    rw [k.block g hglt, hg2]
theorem row_baseS {B B' : Nat} {v : Value} {n : Nat} {us : List Value} {t : TypeId} {w : World} (h : w.ownsRow B t 1 v n us) (hB : B' ≤ B) : w.ownsRow B' t 1 v n us := by
  refine ⟨h.1, ?_⟩
  rcases h.2 with hn | ⟨g, cap, cur, hv, hg1, rest⟩
  · exact .inl hn
  · exact .inr ⟨g, cap, cur, hv, Nat.le_trans hB hg1, rest⟩
theorem OwnSS.keep {B : Nat} {v : Value} {us : List Value} {ps : List (List (List UInt8))} {w w' : World} (h : OwnSS B v us ps w) (k : Below w.heap.size w w') : OwnSS B v us ps w' :=
  ⟨row_keepS h.row k, fun i u p hu hp => (h.each i u p hu hp).keep k, h.off, h.apart⟩
theorem OwnSS.base {B B' : Nat} {v : Value} {us : List Value} {ps : List (List (List UInt8))} {w : World} (h : OwnSS B v us ps w) (hB : B' ≤ B) : OwnSS B' v us ps w :=
  ⟨row_baseS h.row hB, fun i u p hu hp => (h.each i u p hu hp).base hB, h.off, h.apart⟩
theorem OwnSS.mem {B : Nat} {v : Value} {us : List Value} {ps : List (List (List UInt8))} {w : World} (h : OwnSS B v us ps w) {i : Nat} {u : Value} (hu : us[i]? = some u) : ∃ p, ps[i]? = some p ∧ OwnL B u p w := by
  have hi := (List.getElem?_eq_some_iff.1 hu).1
  have hp : i < ps.length := by rw [← h.len]; exact hi
  exact ⟨ps[i], List.getElem?_eq_getElem hp, h.each i u _ hu (List.getElem?_eq_getElem hp)⟩
theorem OwnSS.lt {B : Nat} {v : Value} {us : List Value} {ps : List (List (List UInt8))} {w : World} (h : OwnSS B v us ps w) : (∀ g, v.ownBlock = some g → B ≤ g ∧ g < w.heap.size) ∧ ∀ (i : Nat) u g, us[i]? = some u → u.ownBlock = some g → B ≤ g ∧ g < w.heap.size :=
  ⟨World.ownsRow.lt h.row, fun i u g hu hg => by obtain ⟨p, _, ho⟩ := h.mem hu; exact ho.lt g hg⟩
theorem OwnSS.grown {B : Nat} {v : Value} {us : List Value} {ps : List (List (List UInt8))} {w w' : World} {row : Option Nat} (h : OwnSS B v us ps w) (hg : w.grownBy w' row) (hv : ∀ g, v.ownBlock = some g → row ≠ some g) (hus : ∀ (i : Nat) u g, us[i]? = some u → u.ownBlock = some g → row ≠ some g) : OwnSS B v us ps w' :=
  ⟨World.ownsRow.kept h.row hg (by
    cases hvb : v.ownBlock with
    | none => exact .inl rfl
    | some g => exact .inr (fun e => hv g hvb e.symm)), fun i u p hu hp => (h.each i u p hu hp).grown hg (fun g hg' => hus i u g hu hg'), h.off, h.apart⟩
theorem oneCell_slice (a : Option Addr) (n c : Nat) : (Value.slice a n c).oneCell' = true := rfl
/-- A slice that reads as the lists ps. -/
def RdSS (w : World) (a : Option Addr) (n : Nat) (ps : List (List (List UInt8))) : Prop :=
  ps.length = n ∧ (n = 0 ∨ ∃ b off, a = some ⟨b, off, none⟩ ∧ b < w.heap.size ∧ ∀ i, (h : i < ps.length) → ∃ a' c', w.cell? ⟨b, off + i, none⟩ = some (.slice a' ps[i].length c') ∧ RdL w a' ps[i].length ps[i] ∧ (a' = none → c' = 0) ∧ ps[i].length ≤ c')
theorem RdSS.below {w w' : World} {a : Option Addr} {n : Nat} {ps : List (List (List UInt8))} (h : RdSS w a n ps) (k : Below w.heap.size w w') : RdSS w' a n ps := by
  refine ⟨h.1, ?_⟩
  rcases h.2 with e | ⟨b, off, ha, hb, hx⟩
  · exact .inl e
  · refine .inr ⟨b, off, ha, Nat.lt_of_lt_of_le hb k.size, fun i hi => ?_⟩
    obtain ⟨a', c', h1, h2, h3, h4⟩ := hx i hi
    exact ⟨a', c', by rw [below_at k hb, h1], h2.below k, h3, h4⟩
theorem OwnSS.read {B : Nat} {v : Value} {us : List Value} {ps : List (List (List UInt8))} {w : World} (h : OwnSS B v us ps w) : ∃ a c, v = .slice a ps.length c ∧ RdSS w a ps.length ps ∧ ps.length ≤ maxLen ∧ (a = none → c = 0) ∧ ps.length ≤ c := by
  rcases h.row.2 with ⟨hv, h0⟩ | ⟨g, cap, cur, hv, hg1, hg2, hn, hc, hsz, htk⟩
  · exact ⟨none, 0, by rw [hv, h0], ⟨rfl, .inl h0⟩, by omega, fun _ => rfl, by omega⟩
  · refine ⟨some ⟨g, 0, none⟩, cap, hv, ⟨rfl, .inr ⟨g, 0, rfl, ?_, fun i hi => ?_⟩⟩, by omega, (fun e => by cases e), hn⟩
    · rcases Nat.lt_or_ge g w.heap.size with h' | h'
      · exact h'
      · simp [Array.getElem?_eq_none h'] at hg2
    · have hiu : i < us.length := by rw [h.len]; exact hi
      have ho := h.each i us[i] ps[i] (List.getElem?_eq_getElem hiu) (List.getElem?_eq_getElem hi)
      obtain ⟨a', c', e, hr, _, h3, h4⟩ := ho.readc
      refine ⟨a', c', ?_, hr, h3, h4⟩
      have := h.row.cells (g := g) (by rw [hv]; rfl) i us[i] (List.getElem?_eq_getElem hiu)
      rw [add0] at this
      rw [Nat.zero_add, this, e]
set_option maxRecDepth 100000 in
set_option maxHeartbeats 400000 in
/-- One row more behind a row of rows. -/
theorem wpList_append_SS {ops : Array Oper} {rest : List Oper} {o : Oper} {Q : Exit → Act → World → Prop} {a : Act} {w : World} (hw : Region.wanted o (yielded ops a.tmps) = true) (s x : Operand)
    (ho : o.op = .call { callee := .builtin .append, args := #[s, x], argTypes := #[76, 76] })
    (B : Nat) (v u : Value) (us : List Value) (ps : List (List (List UInt8))) (p : List (List UInt8)) (b : Nat) (hs : a.eval s = v) (hx : a.eval x = .slice (some ⟨b, 0, none⟩) 1 1) (hc : w.cell? ⟨b, 0, none⟩ = some u) (h1 : u.oneCell' = true)
    (hown : OwnSS B v us ps w) (hu : OwnL B u p w) (hv : ∀ g, u.ownBlock = some g → v.ownBlock ≠ some g) (hus : ∀ (i : Nat) z g, us[i]? = some z → u.ownBlock = some g → z.ownBlock ≠ some g) (hB : B ≤ w.heap.size) (hl : ps.length ≤ 2000000)
    (h : ∀ v' w', OwnSS B v' (us ++ [u]) (ps ++ [p]) w' → w.grownBy w' v.ownBlock → (v'.ownBlock = v.ownBlock ∨ v'.ownBlock = some w.heap.size) → wpList Tryz.prog ops Q rest (a.put o.dst v') w') : wpList Tryz.prog ops Q (o :: rest) a w := by
  obtain ⟨i0, hi, hz0, hz1, hz2⟩ := info_parts ssInfo
  refine wpList_unguardL hw ?_
  refine wpList_append_own_at w rfl s x 76 ho B 23 i0 (.slice none 0 0) 1 24 Tryz.underlying76 hi hz0 hz1 hz2 rfl (by decide) v ps.length us hs hown.row ⟨b, 0, none⟩ 1 1 [u] hx rfl ?_ ?_ ?_ ?_ hB ?_
  · intro j z hj
    have hj0 : j = 0 := by
      have := (List.getElem?_eq_some_iff.1 hj).1
      simpa using this
    subst hj0
    simp at hj
    rw [addr_add, hc, hj]
  · intro z hz
    rw [List.mem_singleton.1 hz]; exact h1
  · unfold maxLen; omega
  · omega
  · intro v' w' ho' hgr _ hat
    have hlen := hown.len
    have hlt := hown.lt
    have hul := hu.lt
    have hbig : ∀ g, (us ++ [u])[us.length]? = some g → g = u := fun g hg => by simpa using hg.symm
    have get : ∀ (i : Nat) (z : Value), (us ++ [u])[i]? = some z → (us[i]? = some z ∧ i < us.length) ∨ (i = us.length ∧ z = u) := by
      intro i z hz
      rcases Nat.lt_trichotomy i us.length with hi | hi | hi
      · rw [List.getElem?_append_left hi] at hz; exact .inl ⟨hz, hi⟩
      · subst hi; exact .inr ⟨rfl, hbig z hz⟩
      · rw [List.getElem?_eq_none (by simp; omega)] at hz; cases hz
    have blk : ∀ (z : Value) g, z.ownBlock = some g → g < w.heap.size → v.ownBlock ≠ some g → v'.ownBlock ≠ some g := by
      intro z g _ hg hne
      rcases hat with e | e
      · rw [e]; exact hne
      · rw [e]; intro e2; injection e2 with e2; omega
    refine h v' w' ⟨?_, ?_, ?_, ?_⟩ hgr hat
    · rw [List.length_append, List.length_singleton]; exact ho'
    · intro i z q hz hq
      rcases get i z hz with ⟨hz', hi'⟩ | ⟨rfl, rfl⟩
      · rw [List.getElem?_append_left (by omega)] at hq
        exact (hown.each i z q hz' hq).grown hgr (fun g hg => hown.off i z g hz' hg)
      · rw [hlen, List.getElem?_append_right (Nat.le_refl _)] at hq
        simp at hq
        subst hq
        exact hu.grown hgr hv
    · intro i z g hz hg
      rcases get i z hz with ⟨hz', _⟩ | ⟨_, rfl⟩
      · exact blk z g hg (hlt.2 i z g hz' hg).2 (hown.off i z g hz' hg)
      · exact blk z g hg (hul g hg).2 (hv g hg)
    · intro i j z y g hz hy hij hg
      rcases get i z hz with ⟨hz', _⟩ | ⟨hi', rfl⟩
      · rcases get j y hy with ⟨hy', _⟩ | ⟨_, rfl⟩
        · exact hown.apart i j z y g hz' hy' hij hg
        · intro e; exact hus i z g hz' e hg
      · rcases get j y hy with ⟨hy', _⟩ | ⟨hj', rfl⟩
        · exact hus j y g hy' hg
        · omega
/-- A row of rows in which one of them has grown, and is stored in its place. -/
theorem OwnSS.store {B : Nat} {v u u' : Value} {us : List Value} {ps : List (List (List UInt8))} {p' : List (List UInt8)} {w w2 : World} {k gv n c m : Nat} (h : OwnSS B v us ps w) (hv : v = .slice (some ⟨gv, 0, none⟩) n c) (hu : us[k]? = some u) (hg : w.grownBy w2 u.ownBlock) (hu' : OwnL B u' p' w2)
    (hat : u'.ownBlock = u.ownBlock ∨ u'.ownBlock = some m) (hm : w.heap.size ≤ m) :
    w2.cell? ⟨gv, k, none⟩ = some u ∧ w2.frozen? ⟨gv, k, none⟩ = false ∧ OwnSS B v (us.set k u') (ps.set k p') (w2.setCell ⟨gv, k, none⟩ u') := by
  have hk := (List.getElem?_eq_some_iff.1 hu).1
  have hlt := h.lt
  have hvb : v.ownBlock = some gv := by rw [hv]; rfl
  have hvn : v = .slice (some ⟨gv, 0, none⟩) ps.length c := by
    rcases h.row.2 with ⟨hn, _⟩ | ⟨g', cap', cur', hv', _⟩
    · rw [hn] at hv; cases hv
    · rw [hv] at hv'; injection hv' with e1 e2 e3
      rw [hv, e2]
  have huv : ∀ g, v.ownBlock = some g → u.ownBlock ≠ some g := fun g hg' hug => h.off k u g hu hug hg'
  have hrow2 : w2.ownsRow B 23 1 (.slice (some ⟨gv, 0, none⟩) ps.length c) ps.length us := by
    have := World.ownsRow.kept h.row hg (.inr (fun e => huv gv hvb (by rw [← e, hvb])))
    rw [hvn] at this; exact this
  have hst := hrow2.stored k u'
  have hgu' : u'.ownBlock ≠ some gv := by
    rcases hat with e | e
    · rw [e]; exact huv gv hvb
    · rw [e]; intro e2; injection e2 with e2
      have := (hlt.1 gv hvb).2; omega
  have get : ∀ (i : Nat) (z : Value), (us.set k u')[i]? = some z → (i ≠ k ∧ us[i]? = some z) ∨ (i = k ∧ z = u') := by
    intro i z hz
    by_cases hi : i = k
    · subst hi
      rw [List.getElem?_set_self hk] at hz
      injection hz with hz
      exact .inr ⟨rfl, hz.symm⟩
    · rw [List.getElem?_set_ne (fun e => hi e.symm)] at hz
      exact .inl ⟨hi, hz⟩
  have far : ∀ (i : Nat) z g, i ≠ k → us[i]? = some z → z.ownBlock = some g → u'.ownBlock ≠ some g := by
    intro i z g hi hz hzg
    rcases hat with e | e
    · rw [e]; exact h.apart i k z u g hz hu hi hzg
    · rw [e]; intro e2; injection e2 with e2
      have := (hlt.2 i z g hz hzg).2; omega
  refine ⟨?_, hrow2.frozenAt k, ⟨?_, ?_, ?_, ?_⟩⟩
  · have := hrow2.cells (g := gv) rfl k u hu
    rw [add0] at this; exact this
  · rw [List.length_set, hvn]; exact hst.1
  · intro i z q hz hq
    rcases get i z hz with ⟨hi, hz'⟩ | ⟨rfl, rfl⟩
    · rw [List.getElem?_set_ne (fun e => hi e.symm)] at hq
      have h1 := (h.each i z q hz' hq).grown hg (fun g hg' e => h.apart i k z u g hz' hu hi hg' e)
      exact h1.grown hst.2 (fun g hg' e => by
        injection e with e; subst e; exact h.off i z gv hz' hg' hvb)
    · rw [List.getElem?_set_self (by rw [← h.len]; exact hk)] at hq
      injection hq with hq
      subst hq
      exact hu'.grown hst.2 (fun g hg' e => by injection e with e; subst e; exact hgu' hg')
  · intro i z g hz hg'
    rcases get i z hz with ⟨hi, hz'⟩ | ⟨rfl, rfl⟩
    · exact h.off i z g hz' hg'
    · rw [hvb]; intro e; injection e with e; subst e; exact hgu' hg'
  · intro i j z y g hz hy hij hg'
    rcases get i z hz with ⟨hi, hz'⟩ | ⟨hi, rfl⟩
    · rcases get j y hy with ⟨hj, hy'⟩ | ⟨hj, rfl⟩
      · exact h.apart i j z y g hz' hy' hij hg'
      · exact far i z g hi hz' hg'
    · rcases get j y hy with ⟨hj, hy'⟩ | ⟨hj, rfl⟩
      · intro e; exact far j y g hj hy' e hg'
      · omega
theorem OwnSS.cases {B : Nat} {v : Value} {us : List Value} {ps : List (List (List UInt8))} {w : World} (h : OwnSS B v us ps w) (h0 : ps.length ≠ 0) : ∃ g cap, v = .slice (some ⟨g, 0, none⟩) ps.length cap ∧ B ≤ g ∧ g < w.heap.size ∧ ps.length ≤ cap := by
  rcases h.row.2 with ⟨_, h0'⟩ | ⟨g, cap, cur, rfl, hBg, hg2, hn, _⟩
  · exact absurd h0' h0
  · exact ⟨g, cap, rfl, hBg, (h.lt.1 g rfl).2, hn⟩
theorem OwnSS.cellAt {B g n cap : Nat} {us : List Value} {ps : List (List (List UInt8))} {w : World} (h : OwnSS B (.slice (some ⟨g, 0, none⟩) n cap) us ps w) {k : Nat} {u : Value} (hu : us[k]? = some u) : w.cell? ⟨g, k, none⟩ = some u := by
  have := h.row.cells (g := g) rfl k u hu
  rw [add0] at this; exact this
/-- What the model holds while it splits: the parts that are whole, the one that is open, and whether one is. -/
structure SplitSt (B : Nat) (v u : Value) (us : List Value) (qs : List (List (List UInt8))) (cur : List (List UInt8)) (w : World) : Prop where
  out : OwnSS B v us qs w
  part : OwnL B u cur w
  off : ∀ g, u.ownBlock = some g → v.ownBlock ≠ some g
  apart : ∀ (i : Nat) z g, us[i]? = some z → u.ownBlock = some g → z.ownBlock ≠ some g
theorem SplitSt.keep {B : Nat} {v u : Value} {us : List Value} {qs : List (List (List UInt8))} {cur : List (List UInt8)} {w w' : World} (h : SplitSt B v u us qs cur w) (k : Below w.heap.size w w') : SplitSt B v u us qs cur w' :=
  ⟨h.out.keep k, h.part.keep k, h.off, h.apart⟩
theorem SplitSt.fresh {B : Nat} {v : Value} {us : List Value} {qs : List (List (List UInt8))} {w : World} (h : OwnSS B v us qs w) (hB : B ≤ w.heap.size) : SplitSt B v (.slice (some ⟨w.heap.size, 0, none⟩) 0 0) us qs [] (w.alloc (.cells #[] 9)) :=
  ⟨h.keep ((Below.refl _ _).alloc (Nat.le_refl _) _), (OwnL.empty w).base hB, fun g hg e => by
    have hg : some w.heap.size = some g := hg
    injection hg with hg
    have := (h.lt.1 g e).2; omega, fun i z g hz hg e => by
    have hg : some w.heap.size = some g := hg
    injection hg with hg
    have := (h.lt.2 i z g hz e).2; omega⟩
theorem SplitSt.more {B m : Nat} {v u u' : Value} {us : List Value} {qs : List (List (List UInt8))} {cur cur' : List (List UInt8)} {w w' : World} (h : SplitSt B v u us qs cur w) (hg : w.grownBy w' u.ownBlock) (ho : OwnL B u' cur' w') (hat : u'.ownBlock = u.ownBlock ∨ u'.ownBlock = some m) (hm : w.heap.size ≤ m) : SplitSt B v u' us qs cur' w' :=
  ⟨h.out.grown hg (fun g hv hu => h.off g hu hv) (fun i z g hz hzg hu => h.apart i z g hz hu hzg), ho, fun g hg' e => by
    rcases hat with a | a
    · exact h.off g (a ▸ hg') e
    · rw [a] at hg'; injection hg' with hg'
      have := (h.out.lt.1 g e).2; omega, fun i z g hz hg' e => by
    rcases hat with a | a
    · exact h.apart i z g hz (a ▸ hg') e
    · rw [a] at hg'; injection hg' with hg'
      have := (h.out.lt.2 i z g hz e).2; omega⟩
theorem grown_touch {R : Nat} {w w' : World} (t : Touch R w w') : w.grownBy w' (some R) := ⟨t.os, t.tape, t.output, t.size, fun k hk hne => t.block k hk (fun e => hne (by rw [e]))⟩
theorem OwnSS.touch {B R : Nat} {v : Value} {us : List Value} {ps : List (List (List UInt8))} {w w' : World} (h : OwnSS B v us ps w) (t : Touch R w w') (hR : R < B) : OwnSS B v us ps w' :=
  h.grown (grown_touch t) (fun g hg e => by injection e with e; have := (h.lt.1 g hg).1; omega) (fun i u g hu hg e => by injection e with e; have := (h.lt.2 i u g hu hg).1; omega)
theorem SplitSt.touch {B R : Nat} {v u : Value} {us : List Value} {qs : List (List (List UInt8))} {cur : List (List UInt8)} {w w' : World} (h : SplitSt B v u us qs cur w) (t : Touch R w w') (hR : R < B) : SplitSt B v u us qs cur w' :=
  ⟨h.out.touch t hR, h.part.grown (grown_touch t) (fun g hg e => by injection e with e; have := (h.part.lt g hg).1; omega), h.off, h.apart⟩
end Go.Proofs.YtcdmjckkencgoaaGreatDoor
