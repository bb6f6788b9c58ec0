/-
  Mails and sessions in memory: values that read as mails, rows of mails, sessions. No statement is proved here.
-/
import Derived.Test.YtbfjbabpeigloabDoorMalM
import Derived.Test.YtbfjbabpeigloabDoorRows2
import Derived.Test.YtbfjbabpeigloabDoorSplit
namespace Go.Proofs.YtbfjbabpeigloabDoor
open Go.RowKit

theorem isEmp_t {l : List UInt8} (h : l = []) : (str l).toList.isEmpty = true := by subst h; decide +kernel
theorem isEmp_f {l : List UInt8} (h : l ≠ []) : (str l).toList.isEmpty = false := by
  cases l with
  | nil => exact absurd rfl h
  | cons x xs =>
    have e : (str (x :: xs)).toList = x :: xs := by rw [ByteArray.toList_eq]; exact str_list _
    rw [e]; rfl
theorem eqEmp (l : List UInt8) : ((str l).toList == []) = decide (l = []) := by
  have e : (str l).toList = l := by rw [ByteArray.toList_eq]; exact str_list _
  rw [e]; cases l <;> simp
/-- A mail, and where its rows lie. -/
structure MlA where
  m : Ml
  a1 : Option Addr
  c1 : Nat
  a2 : Option Addr
  c2 : Nat
def mlV (x : MlA) : Value := .agg #[.string (str x.m.frm), .slice x.a1 x.m.to.length x.c1, .slice x.a2 x.m.lines.length x.c2]
def mlC (x : MlA) : List Value := [.string (str x.m.frm), .slice x.a1 x.m.to.length x.c1, .slice x.a2 x.m.lines.length x.c2]
theorem mlC_len (x : MlA) : (mlC x).length = 3 := rfl
def SmallM (M : Nat) (m : Ml) : Prop := m.frm.length ≤ M ∧ m.to.length ≤ M ∧ (∀ x ∈ m.to, x.length ≤ M) ∧ m.lines.length ≤ M ∧ ∀ x ∈ m.lines, x.length ≤ M
theorem SmallM.up {M N : Nat} {m : Ml} (h : SmallM M m) (hMN : M ≤ N) : SmallM N m :=
  ⟨by have := h.1; omega, by have := h.2.1; omega, fun x hx => by have := h.2.2.1 x hx; omega, by have := h.2.2.2.1; omega, fun x hx => by have := h.2.2.2.2 x hx; omega⟩
theorem smallM_draft {m : Ml} (h : isDraft m = true) : SmallM 200 m := by
  obtain ⟨h1, h2, h3, h4, h5⟩ := isDraft_iff.1 h
  exact ⟨by have := isSend_len h1; omega, by omega, fun x hx => by have := isPath_len (h3 x hx); omega, by omega, fun x hx => by have := h5 x hx; unfold isText at this; simp at this; exact this.1⟩
/-- A slice of strings that reads as a list, with its capacity. -/
def RdC (w : World) (a : Option Addr) (c : Nat) (xs : List (List UInt8)) : Prop := RdL w a xs.length xs ∧ xs.length ≤ c ∧ (a = none → c = 0)
theorem RdC.below {w w' : World} {a : Option Addr} {c : Nat} {xs : List (List UInt8)} (h : RdC w a c xs) (k : Below w.heap.size w w') : RdC w' a c xs := ⟨h.1.below k, h.2⟩
/-- A mail in memory. -/
def RdM (M : Nat) (w : World) (x : MlA) : Prop := RdC w x.a1 x.c1 x.m.to ∧ RdC w x.a2 x.c2 x.m.lines ∧ SmallM M x.m
theorem RdM.below {M : Nat} {w w' : World} {x : MlA} (h : RdM M w x) (k : Below w.heap.size w w') : RdM M w' x := ⟨h.1.below k, h.2.1.below k, h.2.2⟩
theorem RdM.up {M N : Nat} {w : World} {x : MlA} (h : RdM M w x) (hMN : M ≤ N) : RdM N w x := ⟨h.1, h.2.1, h.2.2.up hMN⟩
/-- A mail's value by its parts. -/
def RdV (M : Nat) (w : World) (s : ByteArray) (a : Option Addr) (n c : Nat) (b : Option Addr) (k d : Nat) (m : Ml) : Prop := s = str m.frm ∧ n = m.to.length ∧ k = m.lines.length ∧ RdM M w ⟨m, a, c, b, d⟩
theorem RdV.of {M : Nat} {w : World} {x : MlA} (h : RdM M w x) : RdV M w (str x.m.frm) x.a1 x.m.to.length x.c1 x.a2 x.m.lines.length x.c2 x.m := ⟨rfl, rfl, rfl, h⟩
theorem RdV.below {M : Nat} {w w' : World} {s : ByteArray} {a b : Option Addr} {n c k d : Nat} {m : Ml} (h : RdV M w s a n c b k d m) (hb : Below w.heap.size w w') : RdV M w' s a n c b k d m := ⟨h.1, h.2.1, h.2.2.1, h.2.2.2.below hb⟩
theorem RdV.up {M N : Nat} {w : World} {s : ByteArray} {a b : Option Addr} {n c k d : Nat} {m : Ml} (h : RdV M w s a n c b k d m) (hm : SmallM N m) : RdV N w s a n c b k d m := ⟨h.1, h.2.1, h.2.2.1, h.2.2.2.1, h.2.2.2.2.1, hm⟩
theorem RdV.calls {M : Nat} {P : Program} {f : FuncId} {w : World} {s : ByteArray} {a b : Option Addr} {n c k d : Nat} {m : Ml} {Q : Ending → World → Prop} (h : RdV M w s a n c b k d m) (rest : List Value)
    (H : ∀ x : MlA, x.m = m → RdM M w x → Calls P f (mlV x :: rest).toArray w Q) : Calls P f (.agg #[.string s, .slice a n c, .slice b k d] :: rest).toArray w Q := by
  obtain ⟨rfl, rfl, rfl, h⟩ := h
  exact H ⟨m, a, c, b, d⟩ rfl h
theorem RdV.calls2 {M N : Nat} {P : Program} {f : FuncId} {w : World} {s : ByteArray} {a b : Option Addr} {n c k d : Nat} {m : Ml} {s' : ByteArray} {a' b' : Option Addr} {n' c' k' d' : Nat} {m' : Ml} {Q : Ending → World → Prop} (h : RdV M w s a n c b k d m) (h' : RdV N w s' a' n' c' b' k' d' m')
    (H : ∀ x y : MlA, x.m = m → y.m = m' → RdM M w x → RdM N w y → Calls P f #[mlV x, mlV y] w Q) : Calls P f #[.agg #[.string s, .slice a n c, .slice b k d], .agg #[.string s', .slice a' n' c', .slice b' k' d']] w Q := by
  obtain ⟨rfl, rfl, rfl, h⟩ := h
  obtain ⟨rfl, rfl, rfl, h'⟩ := h'
  exact H ⟨m, a, c, b, d⟩ ⟨m', a', c', b', d'⟩ rfl rfl h h'
/-- A row of mails. -/
def RdMs (M : Nat) (w : World) (a : Option Addr) (xs : List MlA) : Prop := RdR 3 mlC w a xs.length xs ∧ ∀ x ∈ xs, RdM M w x
theorem RdMs.below {M : Nat} {w w' : World} {a : Option Addr} {xs : List MlA} (h : RdMs M w a xs) (k : Below w.heap.size w w') : RdMs M w' a xs := ⟨h.1.below k, fun x hx => (h.2 x hx).below k⟩
/-- A mail of a row: its three cells. -/
theorem RdMs.at {M : Nat} {w : World} {a : Option Addr} {xs : List MlA} (h : RdMs M w a xs) {i : Nat} (hi : i < xs.length) : ∃ b off, a = some ⟨b, off, none⟩ ∧ b < w.heap.size ∧
    w.cell? ⟨b, off + i * 3, none⟩ = some (.string (str xs[i].m.frm)) ∧ w.cell? ⟨b, off + i * 3 + 1, none⟩ = some (.slice xs[i].a1 xs[i].m.to.length xs[i].c1) ∧ w.cell? ⟨b, off + i * 3 + 2, none⟩ = some (.slice xs[i].a2 xs[i].m.lines.length xs[i].c2) ∧ RdM M w xs[i] := by
  rcases h.1.2 with e | ⟨b, off, e, hb, hx⟩
  · omega
  · exact ⟨b, off, e, hb, hx i hi 0 _ rfl, hx i hi 1 _ rfl, hx i hi 2 _ rfl, h.2 _ (List.getElem_mem hi)⟩
/-- A session, and where its rows lie. -/
structure SsA where
  state : Int
  host : List UInt8
  draft : MlA
  done : List MlA
  a3 : Option Addr
  c3 : Nat
def SsA.s (x : SsA) : Ssn := ⟨x.state, x.host, x.draft.m, x.done.map (·.m)⟩
def ssV (x : SsA) : Value := .agg #[.int .i64 x.state, .string (str x.host), .agg #[.string (str x.draft.m.frm), .slice x.draft.a1 x.draft.m.to.length x.draft.c1, .slice x.draft.a2 x.draft.m.lines.length x.draft.c2], .slice x.a3 x.done.length x.c3]
def RdS (M : Nat) (w : World) (x : SsA) : Prop := RdM M w x.draft ∧ RdMs M w x.a3 x.done ∧ x.host.length ≤ M ∧ x.done.length ≤ M ∧ x.done.length ≤ x.c3 ∧ (x.a3 = none → x.c3 = 0)
theorem RdS.below {M : Nat} {w w' : World} {x : SsA} (h : RdS M w x) (k : Below w.heap.size w w') : RdS M w' x := ⟨h.1.below k, h.2.1.below k, h.2.2⟩
theorem Ml.eq_iff (a b : Ml) : a = b ↔ str a.frm = str b.frm ∧ a.to = b.to ∧ a.lines = b.lines := by
  constructor
  · rintro rfl; exact ⟨rfl, rfl, rfl⟩
  · rintro ⟨h1, h2, h3⟩
    exact Ml.ext' (by rw [← str_list a.frm, h1, str_list]) h2 h3
theorem ml_beq (a b : Ml) : decide (a = b) = (decide (str a.frm = str b.frm) && (decide (a.to = b.to) && decide (a.lines = b.lines))) := by
  rw [← Bool.decide_and, ← Bool.decide_and]; exact decide_eq_decide.2 (Ml.eq_iff a b)
theorem Ssn.eq_iff (a b : Ssn) : a = b ↔ a.state = b.state ∧ str a.host = str b.host ∧ a.draft = b.draft ∧ a.done = b.done := by
  constructor
  · rintro rfl; exact ⟨rfl, rfl, rfl, rfl⟩
  · rintro ⟨h1, h2, h3, h4⟩
    exact Ssn.ext' h1 (by rw [← str_list a.host, h2, str_list]) h3 h4
theorem ssn_beq (a b : Ssn) : decide (a = b) = (decide (a.state = b.state) && (decide (str a.host = str b.host) && (decide (a.draft = b.draft) && decide (a.done = b.done)))) := by
  rw [← Bool.decide_and, ← Bool.decide_and, ← Bool.decide_and]; exact decide_eq_decide.2 (Ssn.eq_iff a b)
/-- Three cells of a block. -/
def MK3 (w : World) (g : Nat) (v0 v1 v2 : Value) : Prop := w.cell? ⟨g, 0, none⟩ = some v0 ∧ w.cell? ⟨g, 1, none⟩ = some v1 ∧ w.cell? ⟨g, 2, none⟩ = some v2
theorem MK3.below {w w' : World} {g : Nat} {v0 v1 v2 : Value} (h : MK3 w g v0 v1 v2) (hb : Below w.heap.size w w') : MK3 w' g v0 v1 v2 := by
  have hl := lt_of_cell h.1
  exact ⟨(below_at hb hl).trans h.1, (below_at hb hl).trans h.2.1, (below_at hb hl).trans h.2.2⟩
theorem MK3.new (w : World) (v0 v1 v2 : Value) (t : TypeId) : MK3 (w.alloc (.cells #[v0, v1, v2] t)) w.heap.size v0 v1 v2 :=
  ⟨by rw [World.cell?_alloc_at _ _ _ _ rfl]; rfl, by rw [World.cell?_alloc_at _ _ _ _ rfl]; rfl, by rw [World.cell?_alloc_at _ _ _ _ rfl]; rfl⟩
/-- Three cells of a block that can be written. -/
def MF3 (w : World) (g : Nat) (v0 v1 v2 : Value) : Prop := MK3 w g v0 v1 v2 ∧ ∀ i, w.frozen? ⟨g, i, none⟩ = false
theorem MF3.new (w : World) (v0 v1 v2 : Value) (t : TypeId) : MF3 (w.alloc (.cells #[v0, v1, v2] t)) w.heap.size v0 v1 v2 :=
  ⟨MK3.new w v0 v1 v2 t, fun i => by rw [World.frozen?_alloc_at _ _ _ _ rfl]⟩
theorem MF3.below {w w' : World} {g : Nat} {v0 v1 v2 : Value} (h : MF3 w g v0 v1 v2) (hb : Below w.heap.size w w') : MF3 w' g v0 v1 v2 := by
  have hl := lt_of_cell h.1.1
  exact ⟨h.1.below hb, fun i => (below_fz hb hl).trans (h.2 i)⟩
theorem MF3.touch {w w' : World} {R g : Nat} {v0 v1 v2 : Value} (h : MF3 w g v0 v1 v2) (t : Touch R w w') (hne : g ≠ R) : MF3 w' g v0 v1 v2 := by
  have hl := lt_of_cell h.1.1
  exact ⟨⟨(t.cell hl hne).trans h.1.1, (t.cell hl hne).trans h.1.2.1, (t.cell hl hne).trans h.1.2.2⟩, fun i => (t.fz hl hne).trans (h.2 i)⟩
theorem MF3.set0 {w : World} {g : Nat} {v0 v1 v2 : Value} (h : MF3 w g v0 v1 v2) (u : Value) : MF3 (w.setCell ⟨g, 0, none⟩ u) g u v1 v2 :=
  ⟨⟨cell_same h.1.1 _, (cell_off (by omega) _).trans h.1.2.1, (cell_off (by omega) _).trans h.1.2.2⟩, fun i => (World.frozen?_setCell _ _ _ _).trans (h.2 i)⟩
theorem MF3.set1 {w : World} {g : Nat} {v0 v1 v2 : Value} (h : MF3 w g v0 v1 v2) (u : Value) : MF3 (w.setCell ⟨g, 1, none⟩ u) g v0 u v2 :=
  ⟨⟨(cell_off (by omega) _).trans h.1.1, cell_same h.1.2.1 _, (cell_off (by omega) _).trans h.1.2.2⟩, fun i => (World.frozen?_setCell _ _ _ _).trans (h.2 i)⟩
theorem MF3.set2 {w : World} {g : Nat} {v0 v1 v2 : Value} (h : MF3 w g v0 v1 v2) (u : Value) : MF3 (w.setCell ⟨g, 2, none⟩ u) g v0 v1 u :=
  ⟨⟨(cell_off (by omega) _).trans h.1.1, (cell_off (by omega) _).trans h.1.2.1, cell_same h.1.2.2 _⟩, fun i => (World.frozen?_setCell _ _ _ _).trans (h.2 i)⟩
theorem MF3.off {w : World} {g h i : Nat} {v0 v1 v2 : Value} (k : MF3 w g v0 v1 v2) (hne : h ≠ g) (u : Value) : MF3 (w.setCell ⟨h, i, none⟩ u) g v0 v1 v2 :=
  ⟨⟨(cell_blk hne _).trans k.1.1, (cell_blk hne _).trans k.1.2.1, (cell_blk hne _).trans k.1.2.2⟩, fun j => (World.frozen?_setCell _ _ _ _).trans (k.2 j)⟩
theorem MK3.off {w : World} {g h i : Nat} {v0 v1 v2 : Value} (k : MK3 w g v0 v1 v2) (hne : h ≠ g) (u : Value) : MK3 (w.setCell ⟨h, i, none⟩ u) g v0 v1 v2 :=
  ⟨(cell_blk hne _).trans k.1, (cell_blk hne _).trans k.2.1, (cell_blk hne _).trans k.2.2⟩
end Go.Proofs.YtbfjbabpeigloabDoor
