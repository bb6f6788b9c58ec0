/-
  Mails drawn in the model that are not valid at times; draws of arguments. No statement is proved here.
-/
import Derived.Test.YtccendchnndaiaaDoorDrMal
namespace Go.Proofs.YtccendchnndaiaaDoor
open Go.RowKit

theorem drawnM_v {R p c M : Nat} {w : World} {e : Ending} {w' : World} (h : DrawnM R p c M w e w') : ∃ (s : ByteArray) (a : Option Addr) (k : Nat) (b : Option Addr) (d : Nat) (xs ys : List (List UInt8)) (p' : Nat), e = .returned (.agg #[.string s, .slice a xs.length k, .slice b ys.length d]) ∧
    St2 w.heap.size w' (.slice a xs.length k) xs (.slice b ys.length d) ys ∧ s.size ≤ M ∧ xs.length ≤ M ∧ (∀ x ∈ xs, x.length ≤ M) ∧ ys.length ≤ M ∧ (∀ x ∈ ys, x.length ≤ M) ∧ p ≤ p' ∧ p' ≤ p + c ∧ Rd w' R p' ∧ Touch R w w' := by
  obtain ⟨⟨⟨f, xs, ys⟩, a, k, b, d⟩, p', rfl, ⟨h1, h2, h3⟩, ⟨hs, hx, hxx, hy, hyy⟩, q1, q2, hr, ht⟩ := h
  exact ⟨str f, a, k, b, d, xs, ys, p', rfl, ⟨h1, h2, h3⟩, by rw [str_size]; exact hs, hx, hxx, hy, hyy, q1, q2, hr, ht⟩
theorem drawnM_wide {R p c M p0 c0 M0 : Nat} {w : World} {e : Ending} {w' : World} (h : DrawnM R p c M w e w') (h1 : p0 ≤ p) (h2 : p + c ≤ p0 + c0) (hM : M ≤ M0) : DrawnM R p0 c0 M0 w e w' := by
  obtain ⟨x, p', q1, q2, q3, q4, q5, q6⟩ := h
  exact ⟨x, p', q1, q2, q3.up hM, by omega, by omega, q6⟩
theorem rdm_of {B M : Nat} {w : World} {s : ByteArray} {a b : Option Addr} {k d : Nat} {xs ys : List (List UInt8)} (h : St2 B w (.slice a xs.length k) xs (.slice b ys.length d) ys) (hs : s.size ≤ M) (hx : xs.length ≤ M) (hxx : ∀ x ∈ xs, x.length ≤ M) (hy : ys.length ≤ M) (hyy : ∀ x ∈ ys, x.length ≤ M) :
    RdV M w s a xs.length k b ys.length d ⟨s.data.toList, xs, ys⟩ := ⟨(str_of s).symm, rfl, rfl, h.a.rdc, h.b.rdc, hs, hx, hxx, hy, hyy⟩
def MalV (m : Ml) (w : World) (e : Ending) (w' : World) : Prop := ∃ (s : ByteArray) (a : Option Addr) (c : Nat) (b : Option Addr) (d : Nat) (xs ys : List (List UInt8)), e = .returned (.agg #[.string s, .slice a xs.length c, .slice b ys.length d]) ∧ m = ⟨s.data.toList, xs, ys⟩ ∧ St2 w.heap.size w' (.slice a xs.length c) xs (.slice b ys.length d) ys ∧ Below w.heap.size w w'
theorem malRet_v {m : Ml} {w : World} {e : Ending} {w' : World} (h : MalRet m w e w') : MalV m w e w' := by
  obtain ⟨⟨⟨f, xs, ys⟩, a, c, b, d⟩, rfl, rfl, ⟨h1, h2, h3⟩, hb⟩ := h
  exact ⟨str f, a, c, b, d, xs, ys, rfl, by rw [str_list], ⟨h1, h2, h3⟩, hb⟩
set_option maxRecDepth 100000 in
set_option maxHeartbeats 8000000 in
theorem l10WrongMail_any (R p M : Nat) (s : ByteArray) (a : Option Addr) (n c : Nat) (b : Option Addr) (k d : Nat) (m : Ml) (w : World) (hr : Rd w R p) (hp : p ≤ 999998000) (hv : RdV M w s a n c b k d m) (hM : M ≤ 100000) (hM3 : 3 ≤ M) :
    Calls Tryd.prog 52 #[.pointer (some ⟨R, 0, none⟩), .agg #[.string s, .slice a n c, .slice b k d]] w (DrawnM R p 2 (M + 1) w) := by
  have hRl := hr.lt
  have hA1 : Below w.heap.size w (w.alloc (.cells #[.string s, .slice a n c, .slice b k d] 25)) := (Below.refl _ _).alloc (Nat.le_refl _) _
  have hA2 : Below (w.alloc (.cells #[.string s, .slice a n c, .slice b k d] 25)).heap.size (w.alloc (.cells #[.string s, .slice a n c, .slice b k d] 25)) ((w.alloc (.cells #[.string s, .slice a n c, .slice b k d] 25)).alloc (.cells #[.string ⟨#[]⟩, .slice none 0 0, .slice none 0 0] 25)) := (Below.refl _ _).alloc (Nat.le_refl _) _
  have HP : Hid (MK3 ((w.alloc (.cells #[.string s, .slice a n c, .slice b k d] 25)).alloc (.cells #[.string ⟨#[]⟩, .slice none 0 0, .slice none 0 0] 25)) w.heap.size (.string s) (.slice a n c) (.slice b k d)) := (MK3.new w _ _ _ _).below hA2
  have HZ : Hid (MF3 ((w.alloc (.cells #[.string s, .slice a n c, .slice b k d] 25)).alloc (.cells #[.string ⟨#[]⟩, .slice none 0 0, .slice none 0 0] 25)) (w.heap.size + 1) (.string ⟨#[]⟩) (.slice none 0 0) (.slice none 0 0)) := by
    have := MF3.new (w.alloc (.cells #[.string s, .slice a n c, .slice b k d] 25)) (.string ⟨#[]⟩) (.slice none 0 0) (.slice none 0 0) 25
    have e : (w.alloc (.cells #[.string s, .slice a n c, .slice b k d] 25)).heap.size = w.heap.size + 1 := by simp
    rw [e] at this; exact this
  have hb0 := nx hA1 hA2
  have hsz : ((w.alloc (.cells #[.string s, .slice a n c, .slice b k d] 25)).alloc (.cells #[.string ⟨#[]⟩, .slice none 0 0, .slice none 0 0] 25)).heap.size = w.heap.size + 1 + 1 := by simp
  have HC : Hid (∀ u, Below w.heap.size w u → Calls Tryd.prog 84 #[.agg #[.string s, .slice a n c, .slice b k d]] u (MalV m u)) := fun u hb => (hv.below hb).calls [] (fun x hx hrd => (l10Mail_any M x u hrd (by omega)).mono fun e w' hh => malRet_v (hx ▸ hh))
  have HSM : Hid (SmallM M m) := hv.2.2.2.2.2
  clear hv hA1 hA2
  go_enter Tryd.func52, Tryd.ntmps52
  obtain ⟨q0, q1, q2⟩ := HP.out
  go_wp2_with fail
  generalize ((w.alloc (.cells #[.string s, .slice a n c, .slice b k d] 25)).alloc (.cells #[.string ⟨#[]⟩, .slice none 0 0, .slice none 0 0] 25)) = W0 at *
  refine (HC.out _ hb0).mono ?_
  rintro e w1 ⟨s1, a1, c1, b1, d1, xs, ys, rfl, hmm, hst, hb1⟩
  subst hmm
  obtain ⟨z1, z2, z3, z4, z5⟩ := HSM.out
  dsimp only at z1 z2 z3 z4 z5
  have HX3 := Lib.hid z3
  have HY3 := Lib.hid z5
  clear z3 z5 q0 q1 q2
  have hs1 := hb1.size
  have hf1 : s1.size ≤ M := z1
  have hA3 : Below w1.heap.size w1 (w1.alloc (.cells #[.string s1, .slice a1 xs.length c1, .slice b1 ys.length d1] 25)) := (Below.refl _ _).alloc (Nat.le_refl _) _
  have HK3 := Lib.hid (MF3.new w1 (.string s1) (.slice a1 xs.length c1) (.slice b1 ys.length d1) 25)
  have HS3 := Lib.hid ((hst.keep hA3).base (C := w.heap.size + 1 + 1) (by omega))
  have HZ3 := Lib.hid (HZ.out.below (nx hb1 hA3))
  have hb03 := nx hb0 (nx hb1 hA3)
  have hr3 := hr.below hb03
  have hT3 : Touch R w (w1.alloc (.cells #[.string s1, .slice a1 xs.length c1, .slice b1 ys.length d1] 25)) := Touch.of_below hb03
  have HNA : Hid (∀ q, (Value.slice a1 xs.length c1).ownBlock = some q → q ≠ w1.heap.size) := fun q hq => by have := (hst.a.lt q hq).2; omega
  have HNB : Hid (∀ q, (Value.slice b1 ys.length d1).ownBlock = some q → q ≠ w1.heap.size) := fun q hq => by have := (hst.b.lt q hq).2; omega
  have hKl : w1.heap.size < (w1.alloc (.cells #[.string s1, .slice a1 xs.length c1, .slice b1 ys.length d1] 25)).heap.size := by simp
  have hKw : w.heap.size + 1 < w1.heap.size := by omega
  clear hst hA3 hb03 hb1 hb0 HP HZ
  go_wp2_with fail
  generalize w1.alloc (.cells #[.string s1, .slice a1 xs.length c1, .slice b1 ys.length d1] 25) = W3 at *
  have hKR : w1.heap.size ≠ R := by omega
  generalize w1.heap.size = K at *
  clear hs1 hsz
  refine (pick_any R p 20 W3 hr3 (by omega) (by omega)).mono ?_
  rintro e w4 ⟨kk, rfl, hk, hr4, ht4⟩
  have hs4 := ht4.size
  have HZ4 := Lib.hid (HZ3.out.touch ht4 (by omega))
  have HK4 := Lib.hid (HK3.out.touch ht4 hKR)
  have HS4 := Lib.hid (HS3.out.touch ht4 (by omega))
  have hT4 := hT3.trans ht4
  have hK4 : K < w4.heap.size := by omega
  clear HZ3 HK3 HS3 hT3 ht4 hr3
  by_cases k0 : kk = 0
  · have e0 : ((kk : Int) == 0) = true := by rw [k0]; rfl
    clear k0 hk
    go_wp2_with fail
    refine (of_lit R (p + 1) 3 3 _ _ w4 hr4 (by omega) (by omega) (by omega) (by decide)).mono ?_
    rintro e w5 ⟨s5, p5, rfl, g5, f5, k5, hr5, ht5⟩
    have hs5 := ht5.size
    have HZ5 := Lib.hid (HZ4.out.touch ht5 (by omega))
    have HK5 := Lib.hid (HK4.out.touch ht5 hKR)
    have HS5 := Lib.hid (HS4.out.touch ht5 (by omega))
    have hT5 := hT4.trans ht5
    obtain ⟨⟨y0, y1, y2⟩, yf⟩ := HK5.out
    obtain ⟨⟨z0, z1', z2'⟩, zf⟩ := HZ5.out
    have hl5 : w.heap.size + 1 < w5.heap.size := by omega
    have hS6 := HS5.out.off (g := K) (i := 0) HNA.out HNB.out (.string s5)
    go_wp2
    refine bodyPost_ret (v := .agg #[.string s5, .slice a1 xs.length c1, .slice b1 ys.length d1]) (by simp [results, Tryd.results52, go_sem, z0, z1', z2']) rfl (drawnM_mk (xs := xs) (p' := p5) (by omega) (by first | omega | (simp; omega) | simp) (fun x hx => Nat.le_succ_of_le (HX3.out x hx)) (by first | omega | (simp; omega) | simp) (fun x hx => Nat.le_succ_of_le (HY3.out x hx)) ?_ (by omega) (by omega) ?_ ?_)
    · exact (((hS6.off (g := w.heap.size + 1) (i := 0) (fun q hq => by have := (hS6.a.lt q hq).1; omega) (fun q hq => by have := (hS6.b.lt q hq).1; omega) _).off (g := w.heap.size + 1) (i := 1) (fun q hq => by have := (hS6.a.lt q hq).1; omega) (fun q hq => by have := (hS6.b.lt q hq).1; omega) _).off (g := w.heap.size + 1) (i := 2) (fun q hq => by have := (hS6.a.lt q hq).1; omega) (fun q hq => by have := (hS6.b.lt q hq).1; omega) _).base (by omega)
    · exact hr5.belowB (((((Below.refl w.heap.size w5).setCell (p := ⟨K, 0, none⟩) (by show w.heap.size ≤ K; omega) _).setCell (p := ⟨w.heap.size + 1, 0, none⟩) (Nat.le_succ _) _).setCell (p := ⟨w.heap.size + 1, 1, none⟩) (Nat.le_succ _) _).setCell (p := ⟨w.heap.size + 1, 2, none⟩) (Nat.le_succ _) _) hRl
    · exact (touch_set (touch_set (touch_set (touch_set hT5 (by omega) _) (Nat.le_succ _) _) (Nat.le_succ _) _) (Nat.le_succ _) _)
  · have e0 : ((kk : Int) == 0) = false := by rw [beq_eq_false_iff_ne]; omega
    by_cases k1 : kk = 1
    · have e1 : ((kk : Int) == 1) = true := by rw [k1]; rfl
      clear k0 k1 hk
      have hA5 : Below w4.heap.size w4 (w4.alloc (.cells #[] 9)) := (Below.refl _ _).alloc (Nat.le_refl _) _
      have hSn := (St2.new HS4.out.b (by omega)).swap
      have HZ5 := Lib.hid (HZ4.out.below hA5)
      have HK5 := Lib.hid (HK4.out.below hA5)
      have hr5 := hr4.below hA5
      have hT5 := hT4.trans (Touch.of_below hA5)
      have hs5 := hA5.size
      have HN5 : Hid (∀ q, (Value.slice (some ⟨w4.heap.size, 0, none⟩) 0 0).ownBlock = some q → q ≠ K) := fun q hq => by
        have : some w4.heap.size = some q := hq
        injection this with this; omega
      obtain ⟨⟨y0, y1, y2⟩, yf⟩ := HK4.out
      obtain ⟨⟨z0, z1', z2'⟩, zf⟩ := HZ4.out
      have hl5 : w.heap.size + 1 < w4.heap.size := by omega
      have hLA : ∀ q, (Value.slice a1 xs.length c1).ownBlock = some q → q ≠ w.heap.size + 1 := fun q hq => by have := (HS4.out.a.lt q hq).1; omega
      have hLB : ∀ q, (Value.slice b1 ys.length d1).ownBlock = some q → q ≠ w.heap.size + 1 := fun q hq => by have := (HS4.out.b.lt q hq).1; omega
      have hS6 := (((HS4.out.off (g := K) (i := 1) HNA.out HNB.out (.slice (some ⟨w4.heap.size, 0, none⟩) 0 0)).off (g := w.heap.size + 1) (i := 0) hLA hLB (.string s1)).off (g := w.heap.size + 1) (i := 1) hLA hLB (.slice (some ⟨w4.heap.size, 0, none⟩) 0 0)).off (g := w.heap.size + 1) (i := 2) hLA hLB (.slice b1 ys.length d1)
      have hsz6 : ((((w4.setCell ⟨K, 1, none⟩ (.slice (some ⟨w4.heap.size, 0, none⟩) 0 0)).setCell ⟨w.heap.size + 1, 0, none⟩ (.string s1)).setCell ⟨w.heap.size + 1, 1, none⟩ (.slice (some ⟨w4.heap.size, 0, none⟩) 0 0)).setCell ⟨w.heap.size + 1, 2, none⟩ (.slice b1 ys.length d1)).heap.size = w4.heap.size := by simp
      have HS7 := Lib.hid (St2.new hS6.b (by rw [hsz6]; omega)).swap
      have hT6 := touch_set (touch_set (touch_set (touch_set hT4 (show w.heap.size ≤ K by omega) (i := 1) (.slice (some ⟨w4.heap.size, 0, none⟩) 0 0)) (Nat.le_succ _) (i := 0) (.string s1)) (Nat.le_succ _) (i := 1) (.slice (some ⟨w4.heap.size, 0, none⟩) 0 0)) (Nat.le_succ _) (i := 2) (.slice b1 ys.length d1)
      have hr6 := hr4.belowB (((((Below.refl w.heap.size w4).setCell (p := ⟨K, 1, none⟩) (by show w.heap.size ≤ K; omega) (.slice (some ⟨w4.heap.size, 0, none⟩) 0 0)).setCell (p := ⟨w.heap.size + 1, 0, none⟩) (Nat.le_succ _) (.string s1)).setCell (p := ⟨w.heap.size + 1, 1, none⟩) (Nat.le_succ _) (.slice (some ⟨w4.heap.size, 0, none⟩) 0 0)).setCell (p := ⟨w.heap.size + 1, 2, none⟩) (Nat.le_succ _) (.slice b1 ys.length d1)) hRl
      rw [hsz6] at HS7
      have HT7 := Lib.hid (hT6.alloc (.cells #[] 9))
      have HR7 := Lib.hid (hr6.below ((Below.refl _ _).alloc (Nat.le_refl _) (.cells #[] 9)))
      clear hS6 hsz6 hT6 hr6 hLA hLB hSn HZ5 HK5 hr5 hT5 hs5 hA5
      go_wp2
      refine bodyPost_ret (v := .agg #[.string s1, .slice (some ⟨w4.heap.size, 0, none⟩) 0 0, .slice b1 ys.length d1]) (by simp [results, Tryd.results52, go_sem, z0, z1', z2', World.cell?_alloc_lt, hl5]) rfl (drawnM_mk (xs := []) (p' := p + 1) (by omega) (by simp) (fun x hx => by cases hx) (by omega) (fun x hx => Nat.le_succ_of_le (HY3.out x hx)) (HS7.out.base (by omega)) (by omega) (by omega) HR7.out HT7.out)
    · have e1 : ((kk : Int) == 1) = false := by rw [beq_eq_false_iff_ne]; omega
      by_cases k2 : kk = 2
      · have e2 : ((kk : Int) == 2) = true := by rw [k2]; rfl
        clear k0 k1 k2 hk
        have hA5 : Below w4.heap.size w4 (w4.alloc (.cells #[.string (ByteArray.mk #[10])] 9)) := (Below.refl _ _).alloc (Nat.le_refl _) _
        have HZ5 := Lib.hid (HZ4.out.below hA5)
        have HK5 := Lib.hid (HK4.out.below hA5)
        have HS5 := Lib.hid (HS4.out.keep hA5)
        have hr5 := hr4.below hA5
        have hT5 := hT4.trans (Touch.of_below hA5)
        have hs5 := hA5.size
        have N1 := cell_one w4 (.string (ByteArray.mk #[10])) 9
        obtain ⟨⟨y0, y1, y2⟩, yf⟩ := HK4.out
        go_wp2_with (at_builtin; refine wpList_append_RL rfl _ _ rfl (w.heap.size + 1 + 1) _ ys [[10]] (some ⟨w4.heap.size, 0, none⟩) 1 1 rfl rfl HS5.out.b (rd_one N1) (fun h => by cases h) ?c2 ?c3 ?_)
        case c2 => first | omega | (simp; omega)
        case c3 => first | omega | (simp; omega)
        intro v6 w6 o6 gr6 at6
        clear y0 y1 y2 yf
        have b6 : Below (w.heap.size + 1 + 1) (w4.alloc (.cells #[.string (ByteArray.mk #[10])] 9)) w6 := grown_below HS5.out.b gr6 (by omega)
        have hs6 := b6.size
        have HK6 := Lib.hid (mf3_grown HK5.out gr6 HNB.out)
        have HZ6 := Lib.hid (mf3_grown HZ5.out gr6 (fun q hq => by have := (HS5.out.b.lt q hq).1; omega))
        have hS6 := St2.appR HS5.out o6 gr6 (by rcases at6 with h | h; exact .inl h; exact .inr (by rw [h]; simp))
        have hT6 := hT5.ext (b6.mono (by omega))
        have hr6 := hr5.belowB b6 (by omega)
        have HN6 : Hid (∀ q, v6.ownBlock = some q → q ≠ K) := fun q hq => by
          rcases at6 with h | h
          · exact HNB.out q (h.symm.trans hq)
          · rw [h] at hq; injection hq with hq; omega
        have HZS : Hid (∀ x ∈ ys ++ [[10]], x.length ≤ M) := fun x hx => by
          rcases List.mem_append.1 hx with h | h
          · exact HY3.out x h
          · rw [List.mem_singleton.1 h]; simp; omega
        obtain ⟨zs, hzs⟩ : ∃ zs, zs = ys ++ [[10]] := ⟨_, rfl⟩
        have hzl : zs.length ≤ ys.length + 1 := by rw [hzs]; simp
        rw [← hzs] at hS6 o6 HZS
        obtain ⟨a6, c6, rfl, _, _, _⟩ := o6.readc
        clear hzs o6 N1 gr6 at6
        obtain ⟨⟨y0, y1, y2⟩, yf⟩ := HK6.out
        obtain ⟨⟨z0, z1', z2'⟩, zf⟩ := HZ6.out
        have hl5 : w.heap.size + 1 < w6.heap.size := by omega
        have hS7 := hS6.off (g := K) (i := 2) HNA.out HN6.out (.slice a6 zs.length c6)
        go_wp2
        refine bodyPost_ret (v := .agg #[.string s1, .slice a1 xs.length c1, .slice a6 zs.length c6]) (by simp [results, Tryd.results52, go_sem, z0, z1', z2']) rfl (drawnM_mk (xs := xs) (p' := p + 1) (by omega) (by first | omega | (simp; omega) | simp) (fun x hx => Nat.le_succ_of_le (HX3.out x hx)) (by first | omega | (simp; omega) | simp) (fun x hx => Nat.le_succ_of_le (HZS.out x hx)) ?_ (by omega) (by omega) ?_ ?_)
        · exact (((hS7.off (g := w.heap.size + 1) (i := 0) (fun q hq => by have := (hS7.a.lt q hq).1; omega) (fun q hq => by have := (hS7.b.lt q hq).1; omega) _).off (g := w.heap.size + 1) (i := 1) (fun q hq => by have := (hS7.a.lt q hq).1; omega) (fun q hq => by have := (hS7.b.lt q hq).1; omega) _).off (g := w.heap.size + 1) (i := 2) (fun q hq => by have := (hS7.a.lt q hq).1; omega) (fun q hq => by have := (hS7.b.lt q hq).1; omega) _).base (by omega)
        · exact hr6.belowB (((((Below.refl w.heap.size w6).setCell (p := ⟨K, 2, none⟩) (by show w.heap.size ≤ K; omega) _).setCell (p := ⟨w.heap.size + 1, 0, none⟩) (Nat.le_succ _) _).setCell (p := ⟨w.heap.size + 1, 1, none⟩) (Nat.le_succ _) _).setCell (p := ⟨w.heap.size + 1, 2, none⟩) (Nat.le_succ _) _) hRl
        · exact (touch_set (touch_set (touch_set (touch_set hT6 (by omega) _) (Nat.le_succ _) _) (Nat.le_succ _) _) (Nat.le_succ _) _)
      · have e2 : ((kk : Int) == 2) = false := by rw [beq_eq_false_iff_ne]; omega
        clear k0 k1 k2 hk
        obtain ⟨⟨y0, y1, y2⟩, yf⟩ := HK4.out
        obtain ⟨⟨z0, z1', z2'⟩, zf⟩ := HZ4.out
        have hl5 : w.heap.size + 1 < w4.heap.size := by omega
        go_wp2
        refine bodyPost_ret (v := .agg #[.string s1, .slice a1 xs.length c1, .slice b1 ys.length d1]) (by simp [results, Tryd.results52, go_sem, z0, z1', z2']) rfl (drawnM_mk (xs := xs) (p' := p + 1) (by omega) (by first | omega | (simp; omega) | simp) (fun x hx => Nat.le_succ_of_le (HX3.out x hx)) (by first | omega | (simp; omega) | simp) (fun x hx => Nat.le_succ_of_le (HY3.out x hx)) ?_ (by omega) (by omega) ?_ ?_)
        · exact (((HS4.out.off (g := w.heap.size + 1) (i := 0) (fun q hq => by have := (HS4.out.a.lt q hq).1; omega) (fun q hq => by have := (HS4.out.b.lt q hq).1; omega) _).off (g := w.heap.size + 1) (i := 1) (fun q hq => by have := (HS4.out.a.lt q hq).1; omega) (fun q hq => by have := (HS4.out.b.lt q hq).1; omega) _).off (g := w.heap.size + 1) (i := 2) (fun q hq => by have := (HS4.out.a.lt q hq).1; omega) (fun q hq => by have := (HS4.out.b.lt q hq).1; omega) _).base (by omega)
        · exact hr4.belowB ((((Below.refl w.heap.size w4).setCell (p := ⟨w.heap.size + 1, 0, none⟩) (Nat.le_succ _) _).setCell (p := ⟨w.heap.size + 1, 1, none⟩) (Nat.le_succ _) _).setCell (p := ⟨w.heap.size + 1, 2, none⟩) (Nat.le_succ _) _) hRl
        · exact (touch_set (touch_set (touch_set hT4 (Nat.le_succ _) _) (Nat.le_succ _) _) (Nat.le_succ _) _)
/-- A mail is drawn; nothing that was there turns. -/
def DrawnN (M : Nat) (w : World) (e : Ending) (w' : World) : Prop := ∃ (s : ByteArray) (a : Option Addr) (n c : Nat) (b : Option Addr) (k d : Nat) (m : Ml), e = .returned (.agg #[.string s, .slice a n c, .slice b k d]) ∧ RdV M w' s a n c b k d m ∧ Below w.heap.size w w'
/-- A drawn mail whose rows are the call's own. -/
def DrawnO (M : Nat) (w : World) (e : Ending) (w' : World) : Prop := ∃ (s : ByteArray) (a : Option Addr) (n c : Nat) (b : Option Addr) (k d : Nat) (m : Ml), e = .returned (.agg #[.string s, .slice a n c, .slice b k d]) ∧ RdV M w' s a n c b k d m ∧ St2 w.heap.size w' (.slice a n c) m.to (.slice b k d) m.lines ∧ Below w.heap.size w w'
set_option maxRecDepth 100000 in
set_option maxHeartbeats 2000000 in
theorem drawSpeakMail_own (a : Option Addr) (n c : Nat) (w : World) (hc : Code w a n) (hnc : n ≤ c) (hm : c ≤ maxLen) :
    Calls Tryd.prog 39 #[.slice a n c] w (DrawnO 50 w) := by
  have hb0 : Below w.heap.size w (w.alloc (.cells #[.string ⟨#[]⟩, .slice none 0 0, .slice none 0 0] 25)) := (Below.refl _ _).alloc (Nat.le_refl _) _
  have HZ0 := Lib.hid (MF3.new w (.string ⟨#[]⟩) (.slice none 0 0) (.slice none 0 0) 25)
  go_enter Tryd.func39, Tryd.ntmps39
  go_wp2_with fail
  refine (open_any a n c _ (hc.below hb0) hnc hm).mono ?_
  rintro e w1 ⟨R, rfl, hR, hr1, hb1⟩
  have HZ1 := Lib.hid (HZ0.out.below hb1)
  have hb01 := nx hb0 hb1
  have hR0 : w.heap.size < R := by simp at hR; omega
  have hs1 := hb01.size
  clear hb1 hb0 HZ0
  go_wp2_with fail
  refine (l10DrawMail_any R 0 w1 hr1 (by omega)).mono ?_
  rintro e w2 hd2
  obtain ⟨s2, a2, c2, b2, d2, xs2, ys2, p2, rfl, hst2, z1, z2, z3, z4, z5, f2, k2, hr2, ht2⟩ := drawnM_v hd2
  clear hd2
  have hv2 := rdm_of hst2 z1 z2 z3 z4 z5
  have hs2 := ht2.size
  clear z1 z2 z3 z4 z5 hst2
  go_wp2_with fail
  refine (l10WrongMail_any R p2 40 _ _ _ _ _ _ _ _ w2 hr2 (by omega) hv2 (by omega) (by omega)).mono ?_
  rintro e w3 hd3
  obtain ⟨s3, a3, c3, b3, d3, xs3, ys3, p3, rfl, hst3, z1, z2, z3, z4, z5, f3, k3, hr3, ht3⟩ := drawnM_v hd3
  clear hd3
  have hs3 := ht3.size
  have ht13 := ht2.trans ht3
  obtain ⟨s4, a4, c4, b4, d4, xs4, ys4, w4, q4⟩ : ∃ s4 a4 c4 b4 d4 xs4 ys4 w4, s4 = s3 ∧ a4 = a3 ∧ c4 = c3 ∧ b4 = b3 ∧ d4 = d3 ∧ xs4 = xs3 ∧ ys4 = ys3 ∧ w4 = w3 := ⟨_, _, _, _, _, _, _, _, rfl, rfl, rfl, rfl, rfl, rfl, rfl, rfl⟩
  obtain ⟨e1, e2, e3, e4, e5, e6, e7, e8⟩ := q4
  subst e1 e2 e3 e4 e5 e6 e7 e8
  have hst4 := hst3
  have ht14 := ht13
  have hB4 := after_open hb01 (by omega) ht14
  have HZ4 := Lib.hid (HZ1.out.touch ht14 (by omega))
  have hl4 : w.heap.size < w4.heap.size := by have := ht14.size; have := hr1.lt; omega
  obtain ⟨⟨q0, q1, q2⟩, qf⟩ := HZ4.out
  have hL1 : ∀ q, (Value.slice a4 xs4.length c4).ownBlock = some q → q ≠ w.heap.size := fun q hq => by have := (hst4.a.lt q hq).1; have := hr1.lt; omega
  have hL2 : ∀ q, (Value.slice b4 ys4.length d4).ownBlock = some q → q ≠ w.heap.size := fun q hq => by have := (hst4.b.lt q hq).1; have := hr1.lt; omega
  have HS := Lib.hid (((hst4.off (g := w.heap.size) (i := 0) hL1 hL2 (.string s4)).off (g := w.heap.size) (i := 1) hL1 hL2 (.slice a4 xs4.length c4)).off (g := w.heap.size) (i := 2) hL1 hL2 (.slice b4 ys4.length d4))
  have HB := Lib.hid (((hB4.setCell (p := ⟨w.heap.size, 0, none⟩) (Nat.le_refl _) (.string s4)).setCell (p := ⟨w.heap.size, 1, none⟩) (Nat.le_refl _) (.slice a4 xs4.length c4)).setCell (p := ⟨w.heap.size, 2, none⟩) (Nat.le_refl _) (.slice b4 ys4.length d4))
  have HY3 := Lib.hid z3
  have HY5 := Lib.hid z5
  have hbase : w.heap.size ≤ w2.heap.size := by have := ht2.size; have := hb01.size; omega
  clear hL1 hL2 hst4 hB4 z3 z5
  go_wp2
  refine bodyPost_ret (v := .agg #[.string s4, .slice a4 xs4.length c4, .slice b4 ys4.length d4]) (by simp [results, Tryd.results39, go_sem, q0, q1, q2]) rfl ⟨_, _, _, _, _, _, _, _, rfl, rdm_of HS.out (by omega) (by omega) (fun x hx => by have := HY3.out x hx; omega) (by omega) (fun x hx => by have := HY5.out x hx; omega), HS.out.base hbase, HB.out⟩
theorem drawSpeakMail_any (a : Option Addr) (n c : Nat) (w : World) (hc : Code w a n) (hnc : n ≤ c) (hm : c ≤ maxLen) :
    Calls Tryd.prog 39 #[.slice a n c] w (DrawnN 50 w) := (drawSpeakMail_own a n c w hc hnc hm).mono fun _ _ ⟨s, a, n, c, b, k, d, m, he, hr, _, hb⟩ => ⟨s, a, n, c, b, k, d, m, he, hr, hb⟩
end Go.Proofs.YtccendchnndaiaaDoor
