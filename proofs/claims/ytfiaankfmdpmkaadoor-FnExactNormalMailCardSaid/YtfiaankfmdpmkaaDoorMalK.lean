/-
  Marks on mails. No statement is proved here.
-/
import Derived.Test.YtfiaankfmdpmkaaDoorMalU
import Derived.Test.YtfiaankfmdpmkaaDoorMarkS
namespace Go.Proofs.YtfiaankfmdpmkaaDoor
open Go.RowKit

/-- Blocks below G, and those from E on, stay. -/
structure MkS (G E : Nat) (w w' : World) : Prop where
  low : Below G w w'
  high : ∀ k, E ≤ k → k < w.heap.size → w'.heap[k]? = w.heap[k]?
theorem MkS.trans {G E : Nat} {a b c : World} (h : MkS G E a b) (k : MkS G E b c) : MkS G E a c :=
  ⟨h.low.trans k.low, fun i he hi => (k.high i he (Nat.lt_of_lt_of_le hi h.low.size)).trans (h.high i he hi)⟩
theorem MkS.below {G E : Nat} {w w' : World} (h : Below w.heap.size w w') (hG : G ≤ w.heap.size) : MkS G E w w' := ⟨h.mono hG, fun k _ hk => h.block k hk⟩
theorem MkS.own {G E : Nat} {w w' : World} (k : MkS G E w w') {v : Value} {xs : List (List UInt8)} (h : OwnL E v xs w) : OwnL E v xs w' := by
  refine ⟨h.1, ?_⟩
  rcases h.2 with hn | ⟨g, cap, cur, hv, hg1, hg2, rest⟩
  · exact .inl hn
  · exact .inr ⟨g, cap, cur, hv, hg1, by rw [k.high g hg1 (lt_of_block hg2), hg2], rest⟩
theorem MkS.only {G E : Nat} {w w' : World} {v : Value} (h : Only v.ownBlock w w') (hl : ∀ g, v.ownBlock = some g → G ≤ g ∧ g < E) (hG : G ≤ w.heap.size) : MkS G E w w' := by
  refine ⟨h.below (fun g hg => (hl g hg).1) hG, fun k he hk => h.block k hk (fun e => ?_)⟩
  have := (hl k e.symm).2
  omega
/-- A mail whose rows lie in blocks from G on and ahead of E, apart from each other. -/
def ShV (G E : Nat) (w : World) (a : Option Addr) (n c : Nat) (b : Option Addr) (k d : Nat) (m : Ml) : Prop :=
  n = m.to.length ∧ k = m.lines.length ∧ OwnL G (.slice a n c) m.to w ∧ OwnL G (.slice b k d) m.lines w ∧ (∀ g, (Value.slice a n c).ownBlock = some g → (Value.slice b k d).ownBlock ≠ some g) ∧
  (∀ g, (Value.slice a n c).ownBlock = some g → g < E) ∧ ∀ g, (Value.slice b k d).ownBlock = some g → g < E
theorem ShV.below {G E : Nat} {w w' : World} {a b : Option Addr} {n c k d : Nat} {m : Ml} (h : ShV G E w a n c b k d m) (hb : Below w.heap.size w w') : ShV G E w' a n c b k d m :=
  ⟨h.1, h.2.1, h.2.2.1.keep hb, h.2.2.2.1.keep hb, h.2.2.2.2⟩
theorem toMail_w {w : World} {s : ByteArray} {a b : Option Addr} {n c k d : Nat} {m : Ml} (h : RdV 1048576 w s a n c b k d m) : Calls Tryd.prog 17 #[.agg #[.string s, .slice a n c, .slice b k d]] w fun e w' =>
    ∃ (s : ByteArray) (a : Option Addr) (n c : Nat) (b : Option Addr) (k d : Nat), e = .returned (.agg #[.string s, .slice a n c, .slice b k d]) ∧ RdV 1048576 w' s a n c b k d m ∧ ShV w.heap.size w'.heap.size w' a n c b k d m ∧ Below w.heap.size w w' :=
  h.calls [] (fun x hx hr => (toMail_any x w hr).mono (fun e w' ⟨y, hy, he, ho, hb⟩ => ⟨_, _, _, _, _, _, _, he, (by
    have hs : SmallM 1048576 y.m := by rw [hy]; exact hr.2.2
    have := RdV.of (ho.rd hs)
    rw [hy, hx] at this ⊢; exact this), (by
    obtain ⟨h1, h2, h3⟩ := ho
    rw [hy, hx] at *
    exact ⟨rfl, rfl, h1, h2, h3, fun g hg => (h1.lt g hg).2, fun g hg => (h2.lt g hg).2⟩), hb⟩))
set_option maxRecDepth 100000 in
set_option maxHeartbeats 2000000 in
theorem markMail_v {G E : Nat} {w : World} {s : ByteArray} {a b : Option Addr} {n c k d : Nat} {m : Ml} (q : Nat) (h : ShV G E w a n c b k d m) (hG : G ≤ w.heap.size) (hq : 0 < q) (hk : q + (n + k) ≤ 1073741824) :
    Calls Tryd.prog 22 #[.agg #[.string s, .slice a n c, .slice b k d], .int .i64 q] w fun e w' => e = .returned (.int .i64 ((q + (n + k) : Nat) : Int)) ∧ MkS G E w w' := by
  obtain ⟨hn, hk', h1, h2, h3, h4, h5⟩ := h
  have hA : Below w.heap.size w (w.alloc (.cells #[.string s, .slice a n c, .slice b k d] 36)) := (Below.refl _ _).alloc (Nat.le_refl _) _
  have HX := Lib.hid (MK3.new w (.string s) (.slice a n c) (.slice b k d) 36)
  have H1 := Lib.hid (h1.keep hA)
  have H2 := Lib.hid (h2.keep hA)
  have L1 : Hid (∀ g, (Value.slice a n c).ownBlock = some g → G ≤ g ∧ g < E ∧ g < w.heap.size) := fun g hg => ⟨(h1.lt g hg).1, h4 g hg, (h1.lt g hg).2⟩
  have L2 : Hid (∀ g, (Value.slice b k d).ownBlock = some g → G ≤ g ∧ g < E ∧ g < w.heap.size) := fun g hg => ⟨(h2.lt g hg).1, h5 g hg, (h2.lt g hg).2⟩
  have H3 := Lib.hid h3
  have HN := Lib.hid hn.symm
  have HK := Lib.hid hk'.symm
  clear h1 h2 h3 h4 h5 hn hk'
  have hA0 : MkS G E w (w.alloc (.cells #[.string s, .slice a n c, .slice b k d] 36)) := MkS.below hA hG
  have hG1 : G ≤ (w.alloc (.cells #[.string s, .slice a n c, .slice b k d] 36)).heap.size := Nat.le_trans hG hA.size
  go_enter Tryd.func22, Tryd.ntmps22
  go_wp2_with fail
  generalize w.alloc (.cells #[.string s, .slice a n c, .slice b k d] 36) = W0 at *
  refine (markStringS_only G a n c m.to q W0 H1.out HN.out hq (by omega)).mono ?_
  rintro e w1 ⟨rfl, _, ho1⟩
  have hM1 : MkS G E W0 w1 := MkS.only ho1 (fun g hg => ⟨(L1.out g hg).1, (L1.out g hg).2.1⟩) hG1
  have HX1 : Hid (MK3 w1 w.heap.size (.string s) (.slice a n c) (.slice b k d)) := by
    have hne : some w.heap.size ≠ (Value.slice a n c).ownBlock := fun e => by have := (L1.out _ e.symm).2.2; omega
    have hl := lt_of_cell HX.out.1
    have hbk := ho1.block w.heap.size hl hne
    have hc : ∀ o, w1.cell? ⟨w.heap.size, o, none⟩ = W0.cell? ⟨w.heap.size, o, none⟩ := fun o => by unfold World.cell?; rw [hbk]
    exact ⟨(hc 0).trans HX.out.1, (hc 1).trans HX.out.2.1, (hc 2).trans HX.out.2.2⟩
  have H21 : Hid (OwnL G (.slice b k d) m.lines w1) := by
    show OwnL _ _ _ _
    refine ⟨H2.out.1, ?_⟩
    rcases H2.out.2 with hn | ⟨g, cap, cur, hv, hg1, hg2, rest⟩
    · exact .inl hn
    · refine .inr ⟨g, cap, cur, hv, hg1, ?_, rest⟩
      rw [ho1.block g (lt_of_block hg2) (fun e => H3.out g e.symm (by rw [hv]; rfl)), hg2]
  have hz1 : G ≤ w1.heap.size := Nat.le_trans hG1 hM1.low.size
  clear ho1
  obtain ⟨y0, y1, y2⟩ := HX1.out
  go_wp2_with fail
  refine (markStringS_only G b k d m.lines (q + n) w1 H21.out HK.out (by omega) (by omega)).mono ?_
  rintro e w2 ⟨rfl, _, ho2⟩
  have hM2 : MkS G E w1 w2 := MkS.only ho2 (fun g hg => ⟨(L2.out g hg).1, (L2.out g hg).2.1⟩) hz1
  go_wp2
  go_ret
  exact ⟨ret_int (by omega), hA0.trans (hM1.trans hM2)⟩
end Go.Proofs.YtfiaankfmdpmkaaDoor
