/-
  The law of chapter 11 on counted hops: its walk. For every input of the law: it returns true, and the input reads as it did. Conditions: none but the statement's own.
-/
import Derived.Test.YtccendchnndaiaaDoorDrGw
import Derived.Test.YtccendchnndaiaaDoorLaw0
import Derived.Test.YtccendchnndaiaaDoorZip
import Derived.Deep.Cut
namespace Go.Proofs.YtccendchnndaiaaDoor
open Go.ChangeShapes Go.WideShapes Go.ChangeAt Go.RowKit
open Go.ChangeMaps (open_string shut_string)

theorem hops_empty (f : List UInt8) (t ls : List (List UInt8)) : hopsM ⟨f, t, [] :: ls⟩ = 0 := by
  unfold hopsM
  split
  · show hopsL ([] :: ls) = 0
    rw [hopsL]; exact if_pos rfl
  · rfl
set_option maxRecDepth 100000 in
set_option maxHeartbeats 4000000 in
theorem fnCountHops_walk (a : Option Addr) (n c : Nat) (w : World) (en : Env w) (hc : Code w a n) (hnc : n ≤ c) (hm : c ≤ maxLen) :
    Calls Tryd.prog 7 #[.slice a n c] w fun e w' => e = .returned (.bool true) ∧ Below w.heap.size w w' := by
  have hm' := hm
  unfold maxLen at hm'
  by_cases hn : 1048576 < n
  · have hd : decide ((1048576 : Int) < n) = true := by simp; omega
    go_enter Tryd.func7, Tryd.ntmps7
    go_wp2
    go_ret
    exact ⟨rfl, Below.refl _ _⟩
  · have hd : decide ((1048576 : Int) < n) = false := by simp; omega
    go_enter Tryd.func7, Tryd.ntmps7
    go_wp2_with fail
    refine (drawCountHops_any a n c w hc hnc hm).mono ?_
    rintro e w1 ⟨s, a1, n1, c1, b1, k1, d1, m, rfl, hv, hb1⟩
    have hA1 : Below w1.heap.size w1 (w1.alloc (.cells #[.string s, .slice a1 n1 c1, .slice b1 k1 d1] 25)) := (Below.refl _ _).alloc (Nat.le_refl _) _
    have HK1 := Lib.hid (MK3.new w1 (.string s) (.slice a1 n1 c1) (.slice b1 k1 d1) 25)
    have HV1 := Lib.hid (hv.below hA1)
    have hbA := nx hb1 hA1
    have HEN := Lib.hid (en.below hbA)
    have HSZ : Hid (SmallM 50 m) := hv.2.2.2.2.2
    have HKN : Hid (k1 = m.lines.length) := hv.2.2.1
    have HHL : Hid (((hopsM m : Nat) : Int) ≤ (k1 : Int)) := by show _ ≤ _; have := hopsM_le m; have := HKN.out; omega
    clear hv hb1 hA1 hc en
    have HCI : Hid (∀ u, Below (w1.alloc (.cells #[.string s, .slice a1 n1 c1, .slice b1 k1 d1] 25)).heap.size (w1.alloc (.cells #[.string s, .slice a1 n1 c1, .slice b1 k1 d1] 25)) u → Calls Tryd.prog 32 #[.agg #[.string s, .slice a1 n1 c1, .slice b1 k1 d1]] u fun e w' => e = .returned (.tuple #[.int .i64 (hopsM m : Nat), .bool (isMail m)]) ∧ Below u.heap.size u w') := fun u hu => (HV1.out.below hu).calls [] (fun x hx hr => hx ▸ countHops_any 50 x u (HEN.out.below hu) hr (by omega))
    have HCS : Hid (∀ u, Below (w1.alloc (.cells #[.string s, .slice a1 n1 c1, .slice b1 k1 d1] 25)).heap.size (w1.alloc (.cells #[.string s, .slice a1 n1 c1, .slice b1 k1 d1] 25)) u → Calls Tryd.prog 33 #[.agg #[.string s, .slice a1 n1 c1, .slice b1 k1 d1]] u fun e w' => e = .returned (.tuple #[.int .i64 (hopsM m : Nat), .bool (isMail m)]) ∧ Below u.heap.size u w') := fun u hu => (HV1.out.below hu).calls [] (fun x hx hr => hx ▸ countHopsS_any 50 x u hr (by omega))
    have HCN : Hid (∀ u (b' : Option Addr) (k' d' : Nat), Below (w1.alloc (.cells #[.string s, .slice a1 n1 c1, .slice b1 k1 d1] 25)).heap.size (w1.alloc (.cells #[.string s, .slice a1 n1 c1, .slice b1 k1 d1] 25)) u → RdV 60 u s a1 n1 c1 b' k' d' ⟨m.frm, m.to, [] :: m.lines⟩ → Calls Tryd.prog 32 #[.agg #[.string s, .slice a1 n1 c1, .slice b' k' d']] u fun e w' => ∃ q, e = .returned (.tuple #[.int .i64 0, .bool q]) ∧ Below u.heap.size u w') := fun u b' k' d' hu hr => hr.calls [] (fun x hx hr => (countHops_any 60 x u (HEN.out.below hu) hr (by omega)).mono fun e w' ⟨he, hb⟩ => ⟨isMail x.m, by rw [he, hx, hops_empty]; rfl, hb⟩)
    have HK := Lib.hid (fun u hu => HK1.out.below (w' := u) hu)
    have HM0 : Hid (isMail m = false → ((hopsM m : Nat) : Int) = 0) := fun h => by unfold hopsM; rw [h]; rfl
    have HK0 : Hid ((0 : Int) ≤ ((hopsM m : Nat) : Int)) := by show _ ≤ _; omega
    generalize ((hopsM m : Nat) : Int) = K at *
    have hl1 : w1.heap.size < (w1.alloc (.cells #[.string s, .slice a1 n1 c1, .slice b1 k1 d1] 25)).heap.size := by simp
    go_wp2_with fail
    generalize (w1.alloc (.cells #[.string s, .slice a1 n1 c1, .slice b1 k1 d1] 25)) = W1 at *
    generalize w1.heap.size = G1 at *
    obtain ⟨y0, y1, y2⟩ := HK.out _ (Below.refl _ _)
    refine (HCI.out _ (Below.refl _ _)).mono ?_
    rintro e w2 ⟨rfl, hb2⟩
    clear y0 y1 y2
    obtain ⟨y0, y1, y2⟩ := HK.out _ hb2
    have ek : (K == K) = true := by simp
    have ek2 : (K != K) = false := by simp
    cases hq : isMail m with
    | false =>
      obtain rfl : K = 0 := HM0.out hq
      rw [hq] at HCS
      clear hq
      go_wp2_with fail
      refine (HCS.out _ hb2).mono ?_
      rintro e w3 ⟨rfl, hb3⟩
      go_wp2
      go_ret
      exact ⟨rfl, nx hbA (nx hb2 hb3)⟩
    | true =>
      rw [hq] at HCS
      clear hq
      go_wp2_with fail
      refine (HCS.out _ hb2).mono ?_
      rintro e w3 ⟨rfl, hb3⟩
      have hb13 := nx hb2 hb3
      clear y0 y1 y2
      obtain ⟨y0, y1, y2⟩ := HK.out _ hb13
      have hl3 : G1 < w3.heap.size := Nat.lt_of_lt_of_le hl1 hb13.size
      have hA4 : Below w3.heap.size w3 (w3.alloc (.cells #[.string s, .slice a1 n1 c1, .slice b1 k1 d1] 25)) := (Below.refl _ _).alloc (Nat.le_refl _) _
      have e4 : (w3.alloc (.cells #[.string s, .slice a1 n1 c1, .slice b1 k1 d1] 25)).heap.size = w3.heap.size + 1 := by simp
      have HF4 : Hid (MF3 ((w3.alloc (.cells #[.string s, .slice a1 n1 c1, .slice b1 k1 d1] 25)).alloc (.cells #[.string ⟨#[]⟩] 9)) w3.heap.size (.string s) (.slice a1 n1 c1) (.slice b1 k1 d1)) := (MF3.new w3 _ _ _ _).below ((Below.refl _ _).alloc (Nat.le_refl _) _)
      have HO4 : Hid (OwnL (w3.heap.size + 1) (.slice (some ⟨w3.heap.size + 1, 0, none⟩) 1 1) [[]] ((w3.alloc (.cells #[.string s, .slice a1 n1 c1, .slice b1 k1 d1] 25)).alloc (.cells #[.string ⟨#[]⟩] 9))) := by
        have h := own_row (w3.alloc (.cells #[.string s, .slice a1 n1 c1, .slice b1 k1 d1] 25)) [[]] #[.string ⟨#[]⟩] rfl (by simp)
        rw [e4] at h; exact h
      have hA5 : Below w3.heap.size w3 ((w3.alloc (.cells #[.string s, .slice a1 n1 c1, .slice b1 k1 d1] 25)).alloc (.cells #[.string ⟨#[]⟩] 9)) := nx hA4 ((Below.refl _ _).alloc (Nat.le_refl _) _)
      have e5 : ((w3.alloc (.cells #[.string s, .slice a1 n1 c1, .slice b1 k1 d1] 25)).alloc (.cells #[.string ⟨#[]⟩] 9)).heap.size = w3.heap.size + 1 + 1 := by simp
      have HR5 : Hid (RdL ((w3.alloc (.cells #[.string s, .slice a1 n1 c1, .slice b1 k1 d1] 25)).alloc (.cells #[.string ⟨#[]⟩] 9)) b1 k1 m.lines ∧ (b1 = none → d1 = 0)) := by
        obtain ⟨_, _, h3, _, h5, _⟩ := (HV1.out.below hb13).below hA5
        subst h3
        exact ⟨h5.1, h5.2.2⟩
      have hk50 : m.lines.length ≤ 50 := HSZ.out.2.2.2.1
      clear e4 hA4
      go_wp2_with (at_builtin; refine wpList_append_RL rfl _ _ rfl (w3.heap.size + 1) _ [[]] m.lines b1 k1 d1 rfl rfl HO4.out HR5.out.1 HR5.out.2 ?c2 ?c3 ?_)
      case c2 => simp
      case c3 => simp; omega
      intro v6 w6 hO6 hgr _
      have hb6 : Below (w3.heap.size + 1) ((w3.alloc (.cells #[.string s, .slice a1 n1 c1, .slice b1 k1 d1] 25)).alloc (.cells #[.string ⟨#[]⟩] 9)) w6 := grown_below HO4.out hgr (by rw [e5]; omega)
      have HF6 : Hid (MF3 w6 w3.heap.size (.string s) (.slice a1 n1 c1) (.slice b1 k1 d1)) := mf3_grown HF4.out hgr (fun q hq => by
        have hq' : some (w3.heap.size + 1) = some q := hq
        injection hq' with hq'
        omega)
      have HB36 : Hid (Below w3.heap.size w3 w6) := hA5.trans (hb6.mono (by omega))
      obtain ⟨a6, c6, hv6, _⟩ := hO6.readc
      rw [show (([] : List UInt8) :: m.lines).length = m.lines.length + 1 by simp] at hv6
      subst hv6
      have HO6 := Lib.hid hO6
      clear hO6 hgr hb6 hA5 e5 y0 y1 y2
      generalize hL6 : m.lines.length + 1 = L6 at *
      have HL6 := Lib.hid hL6
      clear hL6
      obtain ⟨⟨z0, z1, z2⟩, zf⟩ := HF6.out
      have HB7 : Hid (Below w3.heap.size w3 (w6.setCell ⟨w3.heap.size, 2, none⟩ (.slice a6 L6 c6))) := HB36.out.setCell (Nat.le_refl _) _
      have HB17 : Hid (Below W1.heap.size W1 (w6.setCell ⟨w3.heap.size, 2, none⟩ (.slice a6 L6 c6))) := nx hb13 HB7.out
      have HV7 : Hid (RdV 60 (w6.setCell ⟨w3.heap.size, 2, none⟩ (.slice a6 L6 c6)) s a1 n1 c1 a6 L6 c6 ⟨m.frm, m.to, [] :: m.lines⟩) := by
        obtain ⟨h1, h2, _, h4, _, p1, p2, p3, p4, p5⟩ := HV1.out.below HB17.out
        have ho := (HO6.out.off (g := w3.heap.size) (i := 2) (by omega) (.slice a6 L6 c6))
        have hl6 : L6 = m.lines.length + 1 := HL6.out.symm
        subst hl6
        exact ⟨h1, h2, rfl, h4, ho.rdc, by show m.frm.length ≤ 60; have : m.frm.length ≤ 50 := p1; omega, by show m.to.length ≤ 60; have : m.to.length ≤ 50 := p2; omega, fun x hx => by have : x.length ≤ 50 := p3 x hx; omega, by show m.lines.length + 1 ≤ 60; have : m.lines.length ≤ 50 := p4; omega, fun x hx => by
          rcases List.mem_cons.1 hx with rfl | hx
          · simp
          · have : x.length ≤ 50 := p5 x hx; omega⟩
      have HF7 := Lib.hid (HF6.out.set2 (.slice a6 L6 c6))
      have HYK : Hid (∀ u, Below (w6.setCell ⟨w3.heap.size, 2, none⟩ (.slice a6 L6 c6)).heap.size (w6.setCell ⟨w3.heap.size, 2, none⟩ (.slice a6 L6 c6)) u → MK3 u G1 (.string s) (.slice a1 n1 c1) (.slice b1 k1 d1)) := fun u hu => HK.out u (nx HB17.out hu)
      go_upto_region 10 with fail
      clear z0 z1 z2 zf
      have hl36 : w3.heap.size < (w6.setCell ⟨w3.heap.size, 2, none⟩ (.slice a6 L6 c6)).heap.size := lt_of_cell HF7.out.1.1
      clear HF6 HO6 HB36 HL6
      generalize w6.setCell ⟨w3.heap.size, 2, none⟩ (.slice a6 L6 c6) = w7 at *
      generalize w3.heap.size = X8 at *
      obtain ⟨⟨z0, z1, z2⟩, zf⟩ := HF7.out
      go_wp2_with fail
      refine (HCN.out _ _ _ _ HB17.out HV7.out).mono ?_
      rintro e w8 ⟨q8, rfl, hb8⟩
      obtain ⟨y0, y1, y2⟩ := HYK.out _ hb8
      have hk0 := HK0.out
      have hkl := HHL.out
      have hbx := nx hbA (nx HB17.out hb8)
      clear z0 z1 z2 zf
      cases q8
      · go_wp2
        go_ret
        exact ⟨rfl, hbx⟩
      · go_wp2
        go_ret
        exact ⟨rfl, hbx⟩
end Go.Proofs.YtccendchnndaiaaDoor
