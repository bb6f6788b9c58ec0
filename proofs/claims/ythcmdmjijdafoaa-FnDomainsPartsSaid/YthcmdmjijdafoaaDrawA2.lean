/-
  Lists of addresses, drawn: what the program's drawing functions return, for every code. No statement is proved here.
-/
import Derived.Test.YthcmdmjijdafoaaDrawA
namespace Go.Proofs.Ythcmdmjijdafoaa
open Go.RowKit

theorem set3_flat {xs : List Adr} {k : Nat} (y : Adr) (hk : k < xs.length) :
    (((xs.flatMap adrC).set (k * 3) (.string (str y.name))).set (k * 3 + 1) (.string (str y.loc))).set (k * 3 + 2) (.string (str y.dom)) = (xs.set k y).flatMap adrC := by
  have hl : (xs.flatMap adrC).length = xs.length * 3 := flat_len adrC 3 adrC_len xs
  apply List.ext_getElem?
  intro i
  by_cases hi : i < xs.length * 3
  · have h1 : i / 3 < (xs.set k y).length := by rw [List.length_set]; omega
    have h2 : i % 3 < 3 := Nat.mod_lt _ (by omega)
    have e : i / 3 * 3 + i % 3 = i := Nat.div_add_mod' i 3
    have g2 := flat_at adrC 3 adrC_len (xs.set k y) (i / 3) (i % 3) h2 h1
    rw [e] at g2
    rw [g2]
    by_cases hc : i / 3 = k
    · have hy : (xs.set k y)[i / 3] = y := by subst hc; exact List.getElem_set_self _
      rw [hy]
      rcases (by omega : i % 3 = 0 ∨ i % 3 = 1 ∨ i % 3 = 2) with h | h | h
      · have : i = k * 3 := by omega
        subst this
        rw [List.getElem?_set_ne (by omega), List.getElem?_set_ne (by omega), List.getElem?_set_self (by rw [hl]; omega), h]; rfl
      · have : i = k * 3 + 1 := by omega
        subst this
        rw [List.getElem?_set_ne (by omega), List.getElem?_set_self (by simp only [List.length_set]; rw [hl]; omega), h]; rfl
      · have : i = k * 3 + 2 := by omega
        subst this
        rw [List.getElem?_set_self (by simp only [List.length_set]; rw [hl]; omega), h]; rfl
    · have h1' : i / 3 < xs.length := by omega
      have hy : (xs.set k y)[i / 3] = xs[i / 3] := List.getElem_set_ne (fun h => hc h.symm) _
      rw [hy, List.getElem?_set_ne (by omega), List.getElem?_set_ne (by omega), List.getElem?_set_ne (by omega)]
      have g1 := flat_at adrC 3 adrC_len xs (i / 3) (i % 3) h2 h1'
      rw [e] at g1
      exact g1
  · rw [List.getElem?_eq_none (by simp only [List.length_set]; rw [hl]; omega), List.getElem?_eq_none (by rw [flat_len adrC 3 adrC_len, List.length_set]; omega)]
/-- A list of at most four addresses, drawn. -/
def DrawnLA (R p c M : Nat) (w : World) (e : Ending) (w' : World) : Prop := ∃ (v : Value) (xs : List Adr) (p' : Nat), e = .returned v ∧ OwnA w.heap.size v xs w' ∧ xs.length ≤ 4 ∧ (∀ x ∈ xs, SmallA M x) ∧ p ≤ p' ∧ p' ≤ p + c ∧ Rd w' R p' ∧ Touch R w w'
set_option maxRecDepth 100000 in
set_option maxHeartbeats 1000000 in
theorem l2List_any (R p : Nat) (w : World) (hr : Rd w R p) (hp : p ≤ 999998000) : Calls Try.prog 28 #[.pointer (some ⟨R, 0, none⟩)] w (DrawnLA R p 13 20 w) := by
  obtain ⟨i0, hi, hz0, hz1, hz2⟩ := info_parts aInfo
  have hRl := hr.lt
  have hA1 : Below w.heap.size w (w.alloc (.cells #[] 29)) := (Below.refl _ _).alloc (Nat.le_refl _) _
  have hA2 : Below w.heap.size w ((w.alloc (.cells #[] 29)).alloc (.cells #[.int .i64 2, .int .i64 3, .int .i64 1, .int .i64 0, .int .i64 4] 3)) := hA1.alloc (by simp) _
  go_enter Try.func28, Try.ntmps28
  go_wp2_with fail
  refine (num_any R p (w.heap.size + 1) 0 5 5 [2, 3, 1, 0, 4] _ (hr.below hA2) (by omega) (by omega) (by simp) (by omega) (by omega) rfl (fun i hi => ?_)).mono ?_
  · rcases (by simp at hi; omega : i = 0 ∨ i = 1 ∨ i = 2 ∨ i = 3 ∨ i = 4) with rfl | rfl | rfl | rfl | rfl <;> (rw [World.cell?_alloc_at _ _ _ _ (by simp)]; rfl)
  rintro e w1 ⟨m0, hm0, rfl, hr1, ht1⟩
  have hm : 0 ≤ m0 ∧ m0 ≤ 4 := by
    simp only [List.mem_cons, List.not_mem_nil, or_false] at hm0; omega
  have hT1 : Touch R w w1 := (Touch.of_below hA2).trans ht1
  have hO1 : OwnA w.heap.size (.slice (some ⟨w.heap.size, 0, none⟩) 0 0) [] w1 := ((OwnR.empty _ _ _ w).keep ((Below.refl _ _).alloc (Nat.le_refl _) _)).touch ht1 hRl
  clear hm0
  go_wp2_with fail
  go_loopw [3, 4] (fun v i wr => ∃ (m : Int) (acc : List Adr) (p' : Nat), 0 ≤ m ∧ m + acc.length ≤ 4 ∧ i = .int .i64 m ∧ p ≤ p' ∧ p' + 3 * m ≤ p + 13 ∧ OwnA w.heap.size v acc wr ∧ (∀ x ∈ acc, SmallA 20 x) ∧ Rd wr R p' ∧ Touch R w wr) (fun _ i _ => (intOf i).toNat)
  case atStart => exact ⟨m0, [], p + 1, hm.1, by simp; omega, rfl, by omega, by omega, hO1, by simp, hr1, hT1⟩
  case round =>
    obtain ⟨m, acc, p', hm0, hml, rfl, hp1, hp2, hown, hacc, hrd, ht⟩ := hrel
    have HACC := Lib.hid hacc
    clear hacc
    by_cases hmp : 0 < m
    · go_wp2_with fail
      refine (l2Draw_any R p' _ hrd (by omega)).mono ?_
      rintro e w2 ⟨x, p2, rfl, g2, f2, k2, hr2, ht2⟩
      have hown1 := hown.touch ht2 hRl
      unfold OwnA OwnR at hown1
      have hT2 := ht.trans ht2
      have hsz := hT2.size
      have hXV : adrV x = .agg #[.string (str x.name), .string (str x.loc), .string (str x.dom)] := rfl
      rw [hXV]
      clear hXV
      go_wp2_with (at_builtin; refine wpList_append_own _ rfl _ _ 23 rfl w.heap.size 29 i0 (.agg #[.string ⟨#[]⟩, .string ⟨#[]⟩, .string ⟨#[]⟩]) 3 48 Try.underlying23 hi hz0 hz1 hz2 rfl (by decide) _ _ _ rfl (World.ownsRow.alloc hown1 _) ⟨w2.heap.size, 0, none⟩ 1 1 (adrC x) rfl rfl ?c1 ?c2 ?c3 ?c4 ?c5 ?_)
      case c1 => intro u v hu; rw [add0, World.cell?_alloc_at _ _ _ _ (by simp)]; simpa [adrC] using hu
      case c2 => intro u hu; simp [adrC] at hu; rcases hu with rfl | rfl | rfl <;> rfl
      case c3 => unfold maxLen; omega
      case c4 => omega
      case c5 => simp; omega
      intro v' w3 hown' hgrow _
      have hO3 := OwnR.snoc hown'
      have hb3 : Below w.heap.size w2 w3 := ((Below.refl _ _).alloc (by omega) _).grown hgrow (by simp; omega) (fun k hk => (World.ownsRow.lt hown1 k hk).1)
      go_wp2
      go_roundw
      case rel => exact ⟨m - 1, _, p2, by omega, by simp; omega, rfl, by omega, by omega, hO3, (fun y hy => by
        rcases List.mem_append.1 hy with h | h
        · exact HACC.out y h
        · rw [List.mem_singleton.1 h]; exact g2), hr2.belowB hb3 hRl, hT2.ext hb3⟩
      case measure => simp [intOf]; omega
    · go_wp2
      go_ret
      exact ⟨_, acc, p', rfl, hown, by omega, HACC.out, hp1, by omega, hrd, ht⟩
set_option maxRecDepth 100000 in
set_option maxHeartbeats 1000000 in
theorem l2Some_any (R p : Nat) (w : World) (hr : Rd w R p) (hp : p ≤ 999998000) : Calls Try.prog 27 #[.pointer (some ⟨R, 0, none⟩)] w (DrawnLA R p 40 41 w) := by
  have hRl := hr.lt
  go_enter Try.func27, Try.ntmps27
  go_wp2_with fail
  refine (l2List_any R p w hr hp).mono ?_
  rintro e w1 ⟨v1, xs, p1, rfl, ho1, hl1, hx1, f1, k1, hr1, ht1⟩
  have HX := Lib.hid hx1
  clear hx1
  have hsz1 := ht1.size
  by_cases h0 : xs.length = 0
  · obtain ⟨a1, c1, rfl, hd1, _, _⟩ := ho1.read adrC_len
    have HO := Lib.hid ho1
    have e0 : ((xs.length : Int)) = 0 := by omega
    clear ho1
    go_wp2
    go_ret
    exact ⟨_, xs, p1, rfl, by rw [← h0]; exact HO.out, hl1, (fun x hx => (HX.out x hx).up (by omega)), f1, by omega, hr1, ht1⟩
  · have ho := ho1
    unfold OwnA OwnR at ho
    rcases ho.2 with ⟨hv, h0'⟩ | ⟨g, cap, cur, rfl, hBg, _⟩
    · exact absurd h0' h0
    · have hpos : 0 < (xs.length : Int) := by omega
      have HO1 := Lib.hid ho1
      clear ho ho1
      go_wp2_with fail
      refine (pick_any R p1 xs.length _ hr1 (by omega) (by omega)).mono ?_
      rintro e w2 ⟨k, rfl, hk, hr2, ht2⟩
      have hkx : k < xs.length := by omega
      have hO2 := HO1.out.touch ht2 hRl
      have HO2 := Lib.hid hO2
      obtain ⟨a', c', hv', hd2, _, _⟩ := hO2.read adrC_len
      injection hv' with e1 _ e3
      subst e1 e3
      obtain ⟨b, off, hba, hbl, hcell⟩ := hd2.2.resolve_left h0
      injection hba with hba
      injection hba with hb1 hb2 hb3
      subst hb1 hb2
      obtain ⟨q0, q1, q2⟩ := RdR.adr hcell hkx
      rw [Nat.zero_add] at q0 q1 q2
      have hT2 := ht1.trans ht2
      have hsz2 := ht2.size
      have hki : (k : Int) < (xs.length : Int) := by omega
      have hk0 : (0 : Int) ≤ (k : Int) := by omega
      clear hO2 hd2 hcell
      go_wp2_with fail
      refine (l2Wrong_adr R (p1 + 1) 41 xs[k] w2 hr2 (by omega) (by omega) ((HX.out _ (List.getElem_mem hkx)).up (by omega))).mono ?_
      rintro e w3 ⟨y, p3, rfl, g3, f3, k3, hr3, ht3⟩
      have HO3 := Lib.hid (HO2.out.touch ht3 hRl)
      have hw := HO3.out
      unfold OwnA OwnR at hw
      have hlf : (xs.flatMap adrC).length = xs.length * 3 := flat_len adrC 3 adrC_len xs
      obtain ⟨u0, hu0⟩ : ∃ v, w3.cell? ⟨g, k * 3, none⟩ = some v := by
        have := hw.cells (g := g) rfl (k * 3) _ (List.getElem?_eq_getElem (by omega))
        rw [add0] at this; exact ⟨_, this⟩
      obtain ⟨u1, hu1⟩ : ∃ v, w3.cell? ⟨g, k * 3 + 1, none⟩ = some v := by
        have := hw.cells (g := g) rfl (k * 3 + 1) _ (List.getElem?_eq_getElem (by omega))
        rw [add0] at this; exact ⟨_, this⟩
      obtain ⟨u2, hu2⟩ : ∃ v, w3.cell? ⟨g, k * 3 + 2, none⟩ = some v := by
        have := hw.cells (g := g) rfl (k * 3 + 2) _ (List.getElem?_eq_getElem (by omega))
        rw [add0] at this; exact ⟨_, this⟩
      have z0 : w3.frozen? ⟨g, k * 3, none⟩ = false := hw.frozenAt _
      have z1 : w3.frozen? ⟨g, k * 3 + 1, none⟩ = false := hw.frozenAt _
      have z2 : w3.frozen? ⟨g, k * 3 + 2, none⟩ = false := hw.frozenAt _
      have HST : Hid (OwnA w.heap.size (.slice (some ⟨g, 0, none⟩) xs.length cap) (xs.set k y) (((w3.setCell ⟨g, k * 3, none⟩ (.string (str y.name))).setCell ⟨g, k * 3 + 1, none⟩ (.string (str y.loc))).setCell ⟨g, k * 3 + 2, none⟩ (.string (str y.dom)))) := by
        show OwnA _ _ _ _
        have hs := (((hw.stored (k * 3) (.string (str y.name))).1.stored (k * 3 + 1) (.string (str y.loc))).1.stored (k * 3 + 2) (.string (str y.dom))).1
        unfold OwnA OwnR
        rw [← set3_flat y hkx, List.length_set]; exact hs
      have HY : Hid (∀ x ∈ xs.set k y, SmallA 41 x) := fun x hx => by
        rcases List.mem_or_eq_of_mem_set hx with h | h
        · exact (HX.out x h).up (by omega)
        · rw [h]; exact g3
      have hT3 := hT2.trans ht3
      have hXV : adrV y = .agg #[.string (str y.name), .string (str y.loc), .string (str y.dom)] := rfl
      rw [hXV]
      have HR : Hid (Rd (((w3.setCell ⟨g, k * 3, none⟩ (.string (str y.name))).setCell ⟨g, k * 3 + 1, none⟩ (.string (str y.loc))).setCell ⟨g, k * 3 + 2, none⟩ (.string (str y.dom))) R p3) :=
        hr3.belowB ((((Below.refl w.heap.size w3).setCell (p := ⟨g, k * 3, none⟩) hBg _).setCell (p := ⟨g, k * 3 + 1, none⟩) hBg _).setCell (p := ⟨g, k * 3 + 2, none⟩) hBg _) hRl
      have HT : Hid (Touch R w (((w3.setCell ⟨g, k * 3, none⟩ (.string (str y.name))).setCell ⟨g, k * 3 + 1, none⟩ (.string (str y.loc))).setCell ⟨g, k * 3 + 2, none⟩ (.string (str y.dom)))) :=
        (((hT3.setNew hBg _).setNew hBg _).setNew hBg _)
      have hly : (xs.set k y).length ≤ 4 := by rw [List.length_set]; exact hl1
      clear hXV hw hlf hT3 q0 q1 q2
      generalize xs.set k y = ys at *
      generalize str y.name = s0 at *
      generalize str y.loc = s1 at *
      generalize str y.dom = s2 at *
      go_wp2
      go_ret
      exact ⟨_, ys, p3, rfl, HST.out, hly, HY.out, by omega, by omega, HR.out, HT.out⟩
/-- A list of at most four addresses is drawn; nothing that was there turns. -/
def DrawnListA (M : Nat) (w : World) (e : Ending) (w' : World) : Prop := ∃ (v : Value) (xs : List Adr), e = .returned v ∧ OwnA w.heap.size v xs w' ∧ xs.length ≤ 4 ∧ (∀ x ∈ xs, SmallA M x) ∧ Below w.heap.size w w'
set_option maxRecDepth 100000 in
set_option maxHeartbeats 1000000 in
theorem drawDomainsOf_any (a : Option Addr) (n c : Nat) (w : World) (hc : Code w a n) (hnc : n ≤ c) (hm : c ≤ maxLen) :
    Calls Try.prog 13 #[.slice a n c] w (DrawnListA 41 w) := by
  go_enter Try.func13, Try.ntmps13
  go_wp2_with fail
  refine (open_any a n c w hc hnc hm).mono ?_
  rintro e w1 ⟨R, rfl, hR, hr1, hb1⟩
  go_wp2_with fail
  refine (l2Some_any R 0 w1 hr1 (by omega)).mono ?_
  rintro e w2 ⟨v, xs, p2, rfl, ho2, hl2, hx2, f2, k2, hr2, ht2⟩
  have hB := after_open hb1 hR ht2
  have hs1 := hb1.size
  go_wp2
  go_ret
  exact ⟨_, xs, rfl, ho2.base hs1, hl2, hx2, hB⟩
end Go.Proofs.Ythcmdmjijdafoaa
