/-
  The law of chapter 10 on parts of mails: its walk. For every input of the law: it returns true, and the input reads as it did. Conditions: none but the statement's own.
-/
import Derived.Test.YtdddmclhafbfoabDoorDrMaw
import Derived.Test.YtdddmclhafbfoabDoorLaw0
import Derived.Test.YtdddmclhafbfoabDoorMalU
import Derived.Test.YtdddmclhafbfoabDoorZip
import Derived.Deep.Cut
namespace Go.Proofs.YtdddmclhafbfoabDoor
open Go.ChangeShapes Go.WideShapes Go.ChangeAt Go.RowKit
open Go.ChangeMaps (open_string shut_string)

theorem RdC.take {w : World} {a : Option Addr} {c : Nat} {xs : List (List UInt8)} (h : RdC w a c xs) {k : Nat} (hk : k ≤ xs.length) : RdC w a c (xs.take k) := by
  have hl : (xs.take k).length = k := by rw [List.length_take]; omega
  refine ⟨⟨rfl, ?_⟩, by rw [hl]; have := h.2.1; omega, h.2.2⟩
  by_cases h0 : k = 0
  · exact .inl (by rw [hl]; exact h0)
  · rcases h.1.2 with e | ⟨b, off, e, hb, hc⟩
    · omega
    · exact .inr ⟨b, off, e, hb, fun i hi => by rw [hc i (by omega), List.getElem_take]⟩
theorem RdV.cut {M : Nat} {w : World} {s : ByteArray} {a b : Option Addr} {n c k d : Nat} {m : Ml} (h : RdV M w s a n c b k d m) {i j : Nat} (hi : i ≤ n) (hj : j ≤ k) : RdV M w s a i c b j d ⟨m.frm, m.to.take i, m.lines.take j⟩ := by
  obtain ⟨h1, rfl, rfl, h4, h5, z1, z2, z3, z4, z5⟩ := h
  dsimp only at z1 z2 z3 z4 z5
  exact ⟨h1, by rw [List.length_take]; omega, by rw [List.length_take]; omega, h4.take hi, h5.take hj, z1, by rw [List.length_take]; omega, fun x hx => z3 x (List.mem_of_mem_take hx), by rw [List.length_take]; omega, fun x hx => z5 x (List.mem_of_mem_take hx)⟩
theorem RdV.none {M : Nat} {w : World} {s : ByteArray} {a b a' : Option Addr} {n c k d : Nat} {m : Ml} (h : RdV M w s a n c b k d m) : RdV M w s a' 0 0 b k d ⟨m.frm, [], m.lines⟩ := by
  obtain ⟨h1, rfl, rfl, h4, h5, z1, z2, z3, z4, z5⟩ := h
  exact ⟨h1, rfl, rfl, ⟨⟨rfl, .inl rfl⟩, Nat.le_refl _, fun _ => rfl⟩, h5, z1, Nat.zero_le _, (fun x hx => by cases hx), z4, z5⟩
theorem isMail_none (f : List UInt8) (ls : List (List UInt8)) : isMail ⟨f, [], ls⟩ = false := by unfold isMail; simp
set_option maxRecDepth 100000 in
set_option maxHeartbeats 4000000 in
theorem fnMailPart_walk (a : Option Addr) (n c : Nat) (w : World) (en : Env w) (hc : Code w a n) (hnc : n ≤ c) (hm : c ≤ maxLen) :
    Calls Tryd.prog 3 #[.slice a n c] w fun e w' => e = .returned (.bool true) ∧ Below w.heap.size w w' := by
  have hm' := hm
  unfold maxLen at hm'
  by_cases hn : 1048576 < n
  · have hd : decide ((1048576 : Int) < n) = true := by simp; omega
    go_enter Tryd.func3, Tryd.ntmps3
    go_wp2
    go_ret
    exact ⟨rfl, Below.refl _ _⟩
  · have hd : decide ((1048576 : Int) < n) = false := by simp; omega
    go_enter Tryd.func3, Tryd.ntmps3
    go_wp2_with fail
    refine (drawMailValid_any a n c w hc hnc hm).mono ?_
    rintro e w1 ⟨s, a1, n1, c1, b1, k1, d1, m, rfl, hv, hb1⟩
    have hA1 : Below w1.heap.size w1 (w1.alloc (.cells #[.string s, .slice a1 n1 c1, .slice b1 k1 d1] 25)) := (Below.refl _ _).alloc (Nat.le_refl _) _
    have HK1 := Lib.hid (MK3.new w1 (.string s) (.slice a1 n1 c1) (.slice b1 k1 d1) 25)
    have HV1 := Lib.hid (hv.below hA1)
    have hbA := nx hb1 hA1
    have HEN := Lib.hid (en.below hbA)
    have HN : Hid (n1 = m.to.length ∧ k1 = m.lines.length) := ⟨hv.2.1, hv.2.2.1⟩
    have HSZ : Hid (SmallM 50 m) := hv.2.2.2.2.2
    clear hv hb1 hA1 hc en
    have HMV : Hid (∀ u, Below (w1.alloc (.cells #[.string s, .slice a1 n1 c1, .slice b1 k1 d1] 25)).heap.size (w1.alloc (.cells #[.string s, .slice a1 n1 c1, .slice b1 k1 d1] 25)) u → Calls Tryd.prog 8 #[.agg #[.string s, .slice a1 n1 c1, .slice b1 k1 d1]] u fun e w' => e = .returned (.bool (isMail m)) ∧ Below u.heap.size u w') := fun u hu => (HV1.out.below hu).calls [] (fun x hx hr => hx ▸ mailValid_any 50 x u (HEN.out.below hu) hr (by omega))
    have HMVS : Hid (∀ u, Below (w1.alloc (.cells #[.string s, .slice a1 n1 c1, .slice b1 k1 d1] 25)).heap.size (w1.alloc (.cells #[.string s, .slice a1 n1 c1, .slice b1 k1 d1] 25)) u → Calls Tryd.prog 9 #[.agg #[.string s, .slice a1 n1 c1, .slice b1 k1 d1]] u fun e w' => e = .returned (.bool (isMail m)) ∧ Below u.heap.size u w') := fun u hu => (HV1.out.below hu).calls [] (fun x hx hr => hx ▸ mailValidS_any 50 x u hr (by omega))
    have HK := Lib.hid (fun u hu => HK1.out.below (w' := u) hu)
    go_wp2_with fail
    generalize w1.alloc (.cells #[.string s, .slice a1 n1 c1, .slice b1 k1 d1] 25) = W1 at *
    have hk50 : k1 ≤ 50 := HN.out.2 ▸ HSZ.out.2.2.2.1
    obtain ⟨y0, y1, y2⟩ := HK.out _ (Below.refl _ _)
    refine (HMV.out _ (Below.refl _ _)).mono ?_
    rintro e w2 ⟨rfl, hb2⟩
    clear y0 y1 y2
    obtain ⟨y0, y1, y2⟩ := HK.out _ hb2
    cases hq : isMail m with
    | false =>
      rw [hq] at HMVS
      go_wp2_with fail
      refine (HMVS.out _ hb2).mono ?_
      rintro e w3 ⟨rfl, hb3⟩
      have hb13 := nx hb2 hb3
      clear y0 y1 y2
      obtain ⟨y0, y1, y2⟩ := HK.out _ hb13
      go_wp2_with fail
      refine (HMVS.out _ hb13).mono ?_
      rintro e w4 ⟨rfl, hb4⟩
      go_wp2
      go_ret
      exact ⟨rfl, nx hbA (nx hb13 hb4)⟩
    | true =>
      have hpos : 0 < n1 := HN.out.1 ▸ (isMail_iff.1 hq).2.1
      have HPT := Lib.hid (isMail_part hq (k1 / 2))
      rw [hq] at HMVS
      go_wp2_with fail
      refine (HMVS.out _ hb2).mono ?_
      rintro e w3 ⟨rfl, hb3⟩
      have hb13 := nx hb2 hb3
      clear y0 y1 y2
      obtain ⟨y0, y1, y2⟩ := HK.out _ hb13
      have hlK : w1.heap.size < w3.heap.size := lt_of_cell y0
      have hc1 : 1 ≤ c1 := by have := HV1.out.2.2.2.1.2.1; have := HN.out.1; show 1 ≤ c1; dsimp only at *; omega
      have hcd : k1 ≤ d1 := by have := HV1.out.2.2.2.2.1.2.1; have := HN.out.2; dsimp only at *; omega
      obtain ⟨ba, oa, hae⟩ : ∃ b off, a1 = some ⟨b, off, none⟩ := by
        rcases HV1.out.2.2.2.1.1.2 with e | ⟨b, off, e, _⟩
        · exfalso; have := HN.out.1; dsimp only at e; omega
        · exact ⟨b, off, e⟩
      subst hae
      clear hc1
      have hc1 : 1 ≤ c1 := by have := HV1.out.2.2.2.1.2.1; have := HN.out.1; dsimp only at *; omega
      have HVA : Hid (∀ u, Below w3.heap.size w3 u → RdV 50 u s (some ⟨ba, oa, none⟩) 1 c1 b1 (k1 / 2) d1 ⟨m.frm, m.to.take 1, m.lines.take (k1 / 2)⟩) := fun u hu => RdV.cut ((HV1.out.below hb13).below hu) hpos (Nat.div_le_self _ _)
      have HVB : Hid (∀ u (a' : Option Addr), Below w3.heap.size w3 u → RdV 50 u s a' 0 0 b1 k1 d1 ⟨m.frm, [], m.lines⟩) := fun u a' hu => RdV.none ((HV1.out.below hb13).below hu)
      have HEN3 := Lib.hid (HEN.out.below hb13)
      have HMA : Hid (∀ u, Below w3.heap.size w3 u → Calls Tryd.prog 8 #[.agg #[.string s, .slice (some ⟨ba, oa, none⟩) 1 c1, .slice b1 (k1 / 2 : Nat) d1]] u fun e w' => e = .returned (.bool true) ∧ Below u.heap.size u w') := fun u hu => (HVA.out u hu).calls [] (fun x hx hr => by
        have := mailValid_any 50 x u (HEN3.out.below hu) hr (by omega)
        rw [hx, HPT.out] at this; exact this)
      have HMB : Hid (∀ u (a' : Option Addr), Below w3.heap.size w3 u → Calls Tryd.prog 8 #[.agg #[.string s, .slice a' 0 0, .slice b1 k1 d1]] u fun e w' => e = .returned (.bool false) ∧ Below u.heap.size u w') := fun u a' hu => (HVB.out u a' hu).calls [] (fun x hx hr => by
        have := mailValid_any 50 x u (HEN3.out.below hu) hr (by omega)
        rw [hx, isMail_none] at this; exact this)
      have hbx := nx hbA hb13
      clear HVA HVB HPT HMVS HMV HEN3 HEN
      rcases b1 with _ | ⟨bb, ob, sb⟩
      · have hk0 : k1 = 0 ∧ d1 = 0 := by
          have h1 := HV1.out.2.2.2.2.1.2.2 rfl
          dsimp only at h1
          exact ⟨by omega, h1⟩
        obtain ⟨rfl, rfl⟩ := hk0
        have hA5 : Below w3.heap.size w3 (((w3.alloc (.cells #[.string s, .slice (some ⟨ba, oa, none⟩) 1 c1, .slice none 0 0] 25)).alloc (.cells #[.string s, .slice (some ⟨w3.heap.size + 1 + 1, 0, none⟩) 0 0, .slice none 0 0] 25)).alloc (.cells #[] 9)) := ((((Below.refl _ _).alloc (Nat.le_refl _) _).alloc (by simp) _).alloc (by simp; omega) _)
        have HK5 : Hid (MK3 (((w3.alloc (.cells #[.string s, .slice (some ⟨ba, oa, none⟩) 1 c1, .slice none 0 0] 25)).alloc (.cells #[.string s, .slice (some ⟨w3.heap.size + 1 + 1, 0, none⟩) 0 0, .slice none 0 0] 25)).alloc (.cells #[] 9)) (w3.heap.size + 1) (.string s) (.slice (some ⟨w3.heap.size + 1 + 1, 0, none⟩) 0 0) (.slice none 0 0)) := by
          have h := MK3.new (w3.alloc (.cells #[.string s, .slice (some ⟨ba, oa, none⟩) 1 c1, .slice none 0 0] 25)) (.string s) (.slice (some ⟨w3.heap.size + 1 + 1, 0, none⟩) 0 0) (.slice none 0 0) 25
          have e : (w3.alloc (.cells #[.string s, .slice (some ⟨ba, oa, none⟩) 1 c1, .slice none 0 0] 25)).heap.size = w3.heap.size + 1 := by simp
          rw [e] at h
          exact h.below ((Below.refl _ _).alloc (Nat.le_refl _) _)
        go_wp2_with fail
        refine (HMA.out _ hA5).mono ?_
        rintro e w5 ⟨rfl, hb5⟩
        have hb35 := nx hA5 hb5
        obtain ⟨x0, x1, x2⟩ := HK5.out.below hb5
        go_wp2_with fail
        refine (HMB.out _ _ hb35).mono ?_
        rintro e w6 ⟨rfl, hb6⟩
        go_wp2
        go_ret
        exact ⟨rfl, nx hbx (nx hb35 hb6)⟩
      · have hq1 : k1 / 2 ≤ d1 := by omega
        have hA5 : Below w3.heap.size w3 (((w3.alloc (.cells #[.string s, .slice (some ⟨ba, oa, none⟩) 1 c1, .slice (some ⟨bb, ob, sb⟩) (k1 / 2) d1] 25)).alloc (.cells #[.string s, .slice (some ⟨w3.heap.size + 1 + 1, 0, none⟩) 0 0, .slice (some ⟨bb, ob, sb⟩) k1 d1] 25)).alloc (.cells #[] 9)) := ((((Below.refl _ _).alloc (Nat.le_refl _) _).alloc (by simp) _).alloc (by simp; omega) _)
        have HK5 : Hid (MK3 (((w3.alloc (.cells #[.string s, .slice (some ⟨ba, oa, none⟩) 1 c1, .slice (some ⟨bb, ob, sb⟩) (k1 / 2) d1] 25)).alloc (.cells #[.string s, .slice (some ⟨w3.heap.size + 1 + 1, 0, none⟩) 0 0, .slice (some ⟨bb, ob, sb⟩) k1 d1] 25)).alloc (.cells #[] 9)) (w3.heap.size + 1) (.string s) (.slice (some ⟨w3.heap.size + 1 + 1, 0, none⟩) 0 0) (.slice (some ⟨bb, ob, sb⟩) k1 d1)) := by
          have h := MK3.new (w3.alloc (.cells #[.string s, .slice (some ⟨ba, oa, none⟩) 1 c1, .slice (some ⟨bb, ob, sb⟩) (k1 / 2) d1] 25)) (.string s) (.slice (some ⟨w3.heap.size + 1 + 1, 0, none⟩) 0 0) (.slice (some ⟨bb, ob, sb⟩) k1 d1) 25
          have e : (w3.alloc (.cells #[.string s, .slice (some ⟨ba, oa, none⟩) 1 c1, .slice (some ⟨bb, ob, sb⟩) (k1 / 2) d1] 25)).heap.size = w3.heap.size + 1 := by simp
          rw [e] at h
          exact h.below ((Below.refl _ _).alloc (Nat.le_refl _) _)
        go_wp2_with fail
        refine (HMA.out _ hA5).mono ?_
        rintro e w5 ⟨rfl, hb5⟩
        have hb35 := nx hA5 hb5
        obtain ⟨x0, x1, x2⟩ := HK5.out.below hb5
        go_wp2_with fail
        refine (HMB.out _ _ hb35).mono ?_
        rintro e w6 ⟨rfl, hb6⟩
        go_wp2
        go_ret
        exact ⟨rfl, nx hbx (nx hb35 hb6)⟩
end Go.Proofs.YtdddmclhafbfoabDoor
