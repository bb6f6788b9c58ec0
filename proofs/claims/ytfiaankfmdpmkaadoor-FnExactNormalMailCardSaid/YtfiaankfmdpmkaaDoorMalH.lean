/-
  Marks on mails, and that they are held. No statement is proved here.
-/
import Derived.Test.YtfiaankfmdpmkaaDoorMalK
namespace Go.Proofs.YtfiaankfmdpmkaaDoor
open Go.RowKit

theorem rdL_slc {B : Nat} {a : Option Addr} {n c : Nat} {xs : List (List UInt8)} {w : World} (h : OwnL B (.slice a n c) xs w) : RdL w a n xs := by
  obtain ⟨a', c', e, hr, _⟩ := h.read
  injection e with e1 e2 e3
  subst e1 e2
  exact hr
theorem OwnL.len_mk {B k n c : Nat} {a : Option Addr} {w : World} (h : OwnL B (.slice a n c) (marksFrom k n) w) : RdL w a n (marksFrom k n) := rdL_slc h
set_option maxRecDepth 100000 in
set_option maxHeartbeats 2000000 in
/-- What a mail's rows hold behind the marks, and what stays. -/
theorem markMail_h {G E : Nat} {w : World} {s : ByteArray} {a b : Option Addr} {n c k d : Nat} {m : Ml} (q : Nat) (h : ShV G E w a n c b k d m) (hG : G ≤ w.heap.size) (hq : 0 < q) (hk : q + (n + k) ≤ 1073741824) :
    Calls Tryd.prog 22 #[.agg #[.string s, .slice a n c, .slice b k d], .int .i64 q] w fun e w' => e = .returned (.int .i64 ((q + (n + k) : Nat) : Int)) ∧ RdL w' a n (marksFrom q n) ∧ RdL w' b k (marksFrom (q + n) k) ∧ MkS G E w w' := by
  obtain ⟨hn, hk', h1, h2, h3, h4, h5⟩ := h
  have hA : Below w.heap.size w (w.alloc (.cells #[.string s, .slice a n c, .slice b k d] 36)) := (Below.refl _ _).alloc (Nat.le_refl _) _
  have HX := Lib.hid (MK3.new w (.string s) (.slice a n c) (.slice b k d) 36)
  have H1 := Lib.hid (h1.keep hA)
  have H2 := Lib.hid (h2.keep hA)
  have L1 : Hid (∀ g, (Value.slice a n c).ownBlock = some g → G ≤ g ∧ g < E ∧ g < w.heap.size) := fun g hg => ⟨(h1.lt g hg).1, h4 g hg, (h1.lt g hg).2⟩
  have L2 : Hid (∀ g, (Value.slice b k d).ownBlock = some g → G ≤ g ∧ g < E ∧ g < w.heap.size) := fun g hg => ⟨(h2.lt g hg).1, h5 g hg, (h2.lt g hg).2⟩
  have H3 := Lib.hid h3
  have HN := Lib.hid hn.symm
  have HK := Lib.hid hk'.symm
  clear h1 h2 h3 h4 h5 hn hk'
  have hA0 : MkS G E w (w.alloc (.cells #[.string s, .slice a n c, .slice b k d] 36)) := MkS.below hA hG
  have hG1 : G ≤ (w.alloc (.cells #[.string s, .slice a n c, .slice b k d] 36)).heap.size := Nat.le_trans hG hA.size
  go_enter Tryd.func22, Tryd.ntmps22
  go_wp2_with fail
  generalize w.alloc (.cells #[.string s, .slice a n c, .slice b k d] 36) = W0 at *
  refine (markStringS_only G a n c m.to q W0 H1.out HN.out hq (by omega)).mono ?_
  rintro e w1 ⟨rfl, hm1, ho1⟩
  have hM1 : MkS G E W0 w1 := MkS.only ho1 (fun g hg => ⟨(L1.out g hg).1, (L1.out g hg).2.1⟩) hG1
  have HX1 : Hid (MK3 w1 w.heap.size (.string s) (.slice a n c) (.slice b k d)) := by
    have hne : some w.heap.size ≠ (Value.slice a n c).ownBlock := fun e => by have := (L1.out _ e.symm).2.2; omega
    have hl := lt_of_cell HX.out.1
    have hbk := ho1.block w.heap.size hl hne
    have hc : ∀ o, w1.cell? ⟨w.heap.size, o, none⟩ = W0.cell? ⟨w.heap.size, o, none⟩ := fun o => by unfold World.cell?; rw [hbk]
    exact ⟨(hc 0).trans HX.out.1, (hc 1).trans HX.out.2.1, (hc 2).trans HX.out.2.2⟩
  have H21 : Hid (OwnL G (.slice b k d) m.lines w1) := by
    show OwnL _ _ _ _
    refine ⟨H2.out.1, ?_⟩
    rcases H2.out.2 with hn | ⟨g, cap, cur, hv, hg1, hg2, rest⟩
    · exact .inl hn
    · refine .inr ⟨g, cap, cur, hv, hg1, ?_, rest⟩
      rw [ho1.block g (lt_of_block hg2) (fun e => H3.out g e.symm (by rw [hv]; rfl)), hg2]
  have hz1 : G ≤ w1.heap.size := Nat.le_trans hG1 hM1.low.size
  have HM1 := Lib.hid hm1
  clear ho1 hm1
  obtain ⟨y0, y1, y2⟩ := HX1.out
  go_wp2_with fail
  refine (markStringS_only G b k d m.lines (q + n) w1 H21.out HK.out (by omega) (by omega)).mono ?_
  rintro e w2 ⟨rfl, hm2, ho2⟩
  have hM2 : MkS G E w1 w2 := MkS.only ho2 (fun g hg => ⟨(L2.out g hg).1, (L2.out g hg).2.1⟩) hz1
  have HM2 := Lib.hid (rdL_slc hm2)
  have HM12 : Hid (RdL w2 a n (marksFrom q n)) := by
    have hk : OwnL G (.slice a n c) (marksFrom q n) w2 := by
      refine ⟨HM1.out.1, ?_⟩
      rcases HM1.out.2 with hn | ⟨g, cap, cur, hv, hg1, hg2, rest⟩
      · exact .inl hn
      · refine .inr ⟨g, cap, cur, hv, hg1, ?_, rest⟩
        rw [ho2.block g (lt_of_block hg2) (fun e => H3.out g (by rw [hv]; rfl) e.symm), hg2]
    exact rdL_slc hk
  clear ho2 hm2
  go_wp2
  go_ret
  exact ⟨ret_int (by omega), HM12.out, HM2.out, hA0.trans (hM1.trans hM2)⟩
set_option maxRecDepth 100000 in
set_option maxHeartbeats 2000000 in
theorem heldMail_h {w : World} {s : ByteArray} {a b : Option Addr} {n c k d : Nat} (q : Nat) (h1 : RdL w a n (marksFrom q n)) (h2 : RdL w b k (marksFrom (q + n) k)) (hq : 0 < q) (hk : q + (n + k) ≤ 1073741824) :
    Calls Tryd.prog 23 #[.agg #[.string s, .slice a n c, .slice b k d], .int .i64 q] w fun e w' => e = .returned (.int .i64 ((q + (n + k) : Nat) : Int)) ∧ Below w.heap.size w w' := by
  have hA : Below w.heap.size w (w.alloc (.cells #[.string s, .slice a n c, .slice b k d] 36)) := (Below.refl _ _).alloc (Nat.le_refl _) _
  have HX := Lib.hid (MK3.new w (.string s) (.slice a n c) (.slice b k d) 36)
  have H1 : Hid (∀ u, Below w.heap.size w u → Calls Tryd.prog 46 #[.slice a n c, .int .i64 q] u fun e w' => e = .returned (.int .i64 ((q + n : Nat) : Int)) ∧ Below u.heap.size u w') := fun u hu => heldStringS_any a n c q u (h1.below hu) hq (by omega)
  have H2 : Hid (∀ u, Below w.heap.size w u → Calls Tryd.prog 46 #[.slice b k d, .int .i64 ((q + n : Nat) : Int)] u fun e w' => e = .returned (.int .i64 ((q + n + k : Nat) : Int)) ∧ Below u.heap.size u w') := fun u hu => heldStringS_any b k d (q + n) u (h2.below hu) (by omega) (by omega)
  clear h1 h2
  obtain ⟨K1, hK1⟩ : ∃ K : Int, K = ((q + n : Nat) : Int) := ⟨_, rfl⟩
  obtain ⟨K2, hK2⟩ : ∃ K : Int, K = ((q + n + k : Nat) : Int) := ⟨_, rfl⟩
  have e3 : ((q + (n + k) : Nat) : Int) = K2 := by rw [hK2]; omega
  rw [← hK1] at H1 H2
  rw [← hK2] at H2
  rw [e3]
  have n1 : ¬ (K1 < 0) := by omega
  have n2 : ¬ (K2 < 0) := by omega
  clear hK1 hK2 e3
  go_enter Tryd.func23, Tryd.ntmps23
  go_wp2_with fail
  refine (H1.out _ hA).mono ?_
  rintro e w1 ⟨rfl, hb1⟩
  obtain ⟨y0, y1, y2⟩ := HX.out.below hb1
  have hb01 := nx hA hb1
  go_wp2_with fail
  refine (H2.out _ hb01).mono ?_
  rintro e w2 ⟨rfl, hb2⟩
  go_wp2
  go_ret
  exact ⟨rfl, nx hb01 hb2⟩
end Go.Proofs.YtfiaankfmdpmkaaDoor
