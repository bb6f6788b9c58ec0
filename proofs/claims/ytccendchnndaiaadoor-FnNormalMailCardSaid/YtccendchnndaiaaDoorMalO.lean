/-
  Mails whose rows the call has made. No statement is proved here.
-/
import Derived.Test.YtccendchnndaiaaDoorMal
import Derived.Test.YtccendchnndaiaaDoorRowS
import Derived.Test.YtccendchnndaiaaDoorDraw2
namespace Go.Proofs.YtccendchnndaiaaDoor
open Go.RowKit

/-- A mail whose rows the call has made. -/
def OwnM (B : Nat) (w : World) (x : MlA) : Prop := OwnL B (.slice x.a1 x.m.to.length x.c1) x.m.to w ∧ OwnL B (.slice x.a2 x.m.lines.length x.c2) x.m.lines w ∧ ∀ g, (Value.slice x.a1 x.m.to.length x.c1).ownBlock = some g → (Value.slice x.a2 x.m.lines.length x.c2).ownBlock ≠ some g
theorem OwnL.rdc {B : Nat} {a : Option Addr} {c : Nat} {xs : List (List UInt8)} {w : World} (h : OwnL B (.slice a xs.length c) xs w) : RdC w a c xs := by
  obtain ⟨a', c', e, h1, _, h3, h4⟩ := h.readc
  injection e with e1 _ e3
  subst e1 e3
  exact ⟨h1, h4, h3⟩
theorem OwnM.rd {B M : Nat} {w : World} {x : MlA} (h : OwnM B w x) (hs : SmallM M x.m) : RdM M w x := ⟨h.1.rdc, h.2.1.rdc, hs⟩
theorem OwnM.keep {B : Nat} {w w' : World} {x : MlA} (h : OwnM B w x) (k : Below w.heap.size w w') : OwnM B w' x := ⟨h.1.keep k, h.2.1.keep k, h.2.2⟩
theorem OwnM.base {B B' : Nat} {w : World} {x : MlA} (h : OwnM B w x) (k : B' ≤ B) : OwnM B' w x := ⟨h.1.base k, h.2.1.base k, h.2.2⟩
def MalRet (m : Ml) (w : World) (e : Ending) (w' : World) : Prop := ∃ x : MlA, x.m = m ∧ e = .returned (mlV x) ∧ OwnM w.heap.size w' x ∧ Below w.heap.size w w'
theorem OwnL.off {B g i : Nat} {v : Value} {xs : List (List UInt8)} {w : World} (h : OwnL B v xs w) (hg : g < B) (u : Value) : OwnL B v xs (w.setCell ⟨g, i, none⟩ u) :=
  h.touch (Touch.setCell w g i u) hg
theorem own_apart {B C : Nat} {v u : Value} {xs ys : List (List UInt8)} {w w' : World} (h : OwnL B v xs w) (h' : OwnL C u ys w') (hc : w.heap.size ≤ C) : ∀ g, v.ownBlock = some g → u.ownBlock ≠ some g := fun g hg e => by
  have := (h.lt g hg).2
  have := (h'.lt g e).1
  omega
end Go.Proofs.YtccendchnndaiaaDoor
