/-
  Kinds, parsed: what the program's function returns. No statement is proved here.
-/
import Derived.Test.YtfheajfcepcepaaDoorKindP
namespace Go.Proofs.YtfheajfcepcepaaDoor
open Go.RowKit

def PKRet (o : Option Knd) (w : World) (e : Ending) (w' : World) : Prop := ∃ a c, e = .returned (.tuple #[kndV (o.getD knd0) a c, .bool o.isSome]) ∧ OwnF w.heap.size (.slice a (o.getD knd0).params.length c) (o.getD knd0).params w' ∧ Below w.heap.size w w'
theorem pkRet_none {o : Option Knd} {w w' : World} (h : o = none) (hb : Below w.heap.size w w') : PKRet o w (.returned (.tuple #[.agg #[.string ⟨#[]⟩, .string ⟨#[]⟩, .slice none 0 0], .bool false])) w' := by
  subst h; exact ⟨none, 0, rfl, OwnR.nil _ _ _ _ _, hb⟩
theorem pkRet_some {o : Option Knd} {k : Knd} {w w' : World} {m s : ByteArray} {a : Option Addr} {c : Nat} (h : o = some k) (hm : m = str k.main) (hs : s = str k.sub) (ho : OwnF w.heap.size (.slice a k.params.length c) k.params w') (hb : Below w.heap.size w w') : PKRet o w (.returned (.tuple #[.agg #[.string m, .string s, .slice a k.params.length c], .bool true])) w' := by
  subst h hm hs; exact ⟨a, c, rfl, ho, hb⟩
/-- A row with a slot of its own: what the slot's store does to it. -/
theorem ownF_off {K : Nat} {v : Value} {xs : List Fld} {u : World} (h : OwnF (K + 1) v xs u) (i : Nat) (x : Value) : OwnF (K + 1) v xs (u.setCell ⟨K, i, none⟩ x) :=
  OwnR.only h ((Only.refl (some K) u).setCell x) (fun q hq e => by injection e with e; have := (OwnR.lt h q hq).1; omega)
theorem ownF_offG {B g : Nat} {v : Value} {xs : List Fld} {u : World} (h : OwnF B v xs u) (hg : g < B) (i : Nat) (x : Value) : OwnF B v xs (u.setCell ⟨g, i, none⟩ x) :=
  OwnR.only h ((Only.refl (some g) u).setCell x) (fun q hq e => by injection e with e; have := (OwnR.lt h q hq).1; omega)
theorem ownL_slice2 {B : Nat} {v : Value} {xs : List (List UInt8)} {w : World} (h : OwnL B v xs w) : ∃ a c, v = .slice a xs.length c ∧ RdL w a xs.length xs ∧ xs.length ≤ c ∧ c ≤ maxLen := by
  obtain ⟨a, c, rfl, hr, _⟩ := h.read
  refine ⟨a, c, rfl, hr, ?_⟩
  rcases h.2 with ⟨hv, h0⟩ | ⟨g, cap, cur, hv, _, _, hq1, hq2, _⟩
  · injection hv with _ _ h3; unfold maxLen; omega
  · injection hv with _ _ h3; exact ⟨by omega, by omega⟩
set_option maxRecDepth 100000 in
set_option maxHeartbeats 4000000 in
theorem parseKind_any (s : ByteArray) (w : World) (tab : Tab w) (hs : s.size ≤ 1073741824) :
    Calls Tryd.prog 14 #[.string s] w (PKRet (parseK s.data.toList) w) := by
  obtain ⟨i0, hi, hz0, hz1, hz2⟩ := info_parts fInfo
  have hb0 : Below w.heap.size w (w.alloc (.cells #[.string ⟨#[]⟩, .string ⟨#[]⟩, .slice none 0 0] 25)) := (Below.refl _ _).alloc (Nat.le_refl _) _
  cases htx : isText s.data.toList
  · have HX := Lib.hid htx
    have HN := Lib.hid (parseK_no htx)
    clear htx
    go_enter Tryd.func14, Tryd.ntmps14
    go_wp2_with fail
    refine (textValid_any s _ (by unfold maxLen; omega)).mono ?_
    rintro e w1 ⟨rfl, rfl⟩
    rw [HX.out]
    go_wp2
    exact bodyPost_ret (v := .tuple #[.agg #[.string ⟨#[]⟩, .string ⟨#[]⟩, .slice none 0 0], .bool false]) (by simp [results, Tryd.results14, go_sem]) rfl (pkRet_none HN.out hb0)
  · have HX := Lib.hid htx
    have hs2 : s.size ≤ 200 := by have := text_len htx; rw [size_list] at this; exact this
    have HPX : Hid (∀ p ∈ partsU 59 s.data.toList, isText p = true) := fun p hp => partsU_text htx hp
    have HPN : Hid ((partsU 59 s.data.toList).length ≤ 201) := by
      show _ ≤ _
      have := (partsU_small 59 _ s.data.toList (Nat.le_refl _)).1; rw [size_list] at this; omega
    have HPK := Lib.hid (parseK_text htx)
    clear htx
    have hne := partsU_ne 59 s.data.toList
    cases hPS : partsU 59 s.data.toList with
    | nil => exact absurd hPS hne
    | cons h ps =>
    have HRK := Lib.hid ((parseK_text (l := s.data.toList) (by exact HX.out)).trans (readK_parts hPS))
    have HPS := Lib.hid hPS
    rw [hPS] at HPX HPN
    clear hPS hne HPK
    have hhl : (str h).size ≤ 200 := by rw [str_size]; exact text_len (HPX.out h (by simp))
    have hpn : ps.length ≤ 200 := by have := HPN.out; simp only [List.length_cons] at this; omega
    have HHX := Lib.hid (HPX.out h (by simp))
    have HPY : Hid (∀ p ∈ ps, isText p = true) := fun p hp => HPX.out p (by simp [hp])
    have htl := trimS_len h
    have HTR : Hid (∀ u : World, Calls Tryd.prog 37 #[.string (str h), .string ⟨#[32]⟩] u fun e w' => e = .returned (.string (str (trimS h))) ∧ Below u.heap.size u w') := fun u => by
      have := trim_any (str h) u (by omega)
      rw [str_list] at this; exact this
    have HLO : Hid (∀ u : World, Calls Tryd.prog 36 #[.string (str (trimS h))] u fun e w' => e = .returned (.string (str (low (trimS h)))) ∧ Below u.heap.size u w') := fun u => by
      have := lowerText_any (str (trimS h)) u (by rw [str_size] at hhl ⊢; omega)
      rw [lowS_str] at this; exact this
    have HCU : Hid (∀ u : World, Calls Tryd.prog 35 #[.string (str (low (trimS h))), .string ⟨#[47]⟩] u fun e w' => ∃ o, e = .returned (.tuple #[.string (str (mainK h).1), .string (str (mainK h).2), .bool o]) ∧ Below u.heap.size u w') := fun u => by
      have := cut2_any (str (low (trimS h))) 47 u (by rw [str_size] at hhl ⊢; rw [low_len]; omega)
      unfold Cut2R at this
      rw [str_list] at this
      exact this.mono fun e w' ⟨h1, m, h2⟩ => ⟨_, h1, by subst h2; exact below_drewN (Below.refl _ _) m⟩
    have hmk := cut2_sub 47 (low (trimS h))
    have hm1 : (str (mainK h).1).size ≤ 200 := by rw [str_size] at hhl ⊢; have := hmk.1.2; rw [low_len] at this; unfold mainK; omega
    have hm2 : (str (mainK h).2).size ≤ 200 := by rw [str_size] at hhl ⊢; have := hmk.2.2; rw [low_len] at this; unfold mainK; omega
    have HM1 : Hid ((str (mainK h).1).data.toList = (mainK h).1 ∧ (str (mainK h).2).data.toList = (mainK h).2) := ⟨str_list _, str_list _⟩
    have HKM : Hid (∀ fs : List Fld, mapP ps = some fs → parseK s.data.toList = okK ⟨(mainK h).1, (mainK h).2, fs⟩) := fun fs hf => by rw [HRK.out, hf]; rfl
    have HKN : Hid (mapP ps = none → parseK s.data.toList = none) := fun hf => by rw [HRK.out, hf]; rfl
    clear htl hmk HRK HPX
    generalize hLT : str (low (trimS h)) = LT at *
    generalize hTT : str (trimS h) = TT at *
    generalize hMM : str (mainK h).1 = MM at *
    generalize hSS : str (mainK h).2 = SS at *
    have HMM := Lib.hid hMM
    have HSS := Lib.hid hSS
    clear hLT hTT hMM hSS
    generalize hHS : str h = HS at *
    have HHS := Lib.hid hHS
    clear hHS
    go_enter Tryd.func14, Tryd.ntmps14
    go_wp2_with fail
    refine (textValid_any s _ (by unfold maxLen; omega)).mono ?_
    rintro e w1 ⟨rfl, rfl⟩
    rw [HX.out]
    go_wp2_with fail
    refine (splitUnquoted_any s 59 _ (by decide) (by omega)).mono ?_
    rintro e w1 ⟨v1, rfl, ho1, hb1⟩
    rw [HPS.out] at ho1
    obtain ⟨a1, d1, rfl, hr1, hc1, hc2⟩ := ownL_slice2 ho1
    rw [List.length_cons] at hr1 hc1
    obtain ⟨b, off, rfl, hbl, hcell⟩ := hr1.2.resolve_left (by omega)
    have hq0 := hcell 0 (by simp)
    rw [Nat.add_zero] at hq0
    replace hq0 : w1.cell? ⟨b, off, none⟩ = some (.string HS) := by rw [← HHS.out]; exact hq0
    have HC1 : Hid (∀ i, (hi : i < ps.length) → w1.cell? ⟨b, off + 1 + i, none⟩ = some (.string (str ps[i]))) := fun i hi => by
      have := hcell (i + 1) (by simp; omega)
      rw [show off + 1 + i = off + (i + 1) by omega]; exact this
    have hb01 := nx hb0 hb1
    have hl1 : w.heap.size < w1.heap.size := by have := hb1.size; simp at this; omega
    have HZ1 : Hid ((∀ i, w1.cell? ⟨w.heap.size, i, none⟩ = #[Value.string ⟨#[]⟩, .string ⟨#[]⟩, .slice none 0 0][i]?) ∧ ∀ i, w1.frozen? ⟨w.heap.size, i, none⟩ = false) := by
      obtain ⟨q1, q2, _⟩ := fresh1 hb1
      exact ⟨q1, q2⟩
    clear ho1 hr1 hcell
    rw [List.length_cons]
    go_wp2_with fail
    refine (HTR.out _).mono ?_
    rintro e w2 ⟨rfl, hb2⟩
    go_wp2_with fail
    refine (HLO.out _).mono ?_
    rintro e w3 ⟨rfl, hb3⟩
    go_wp2_with fail
    refine (HCU.out _).mono ?_
    rintro e w4 ⟨o4, rfl, hb4⟩
    have hb14 := nx (nx hb2 hb3) hb4
    have hl4 : w.heap.size < w4.heap.size := Nat.lt_of_lt_of_le hl1 hb14.size
    have hA4 : Below w4.heap.size w4 (w4.alloc (.cells #[.string MM, .string SS, .slice none 0 0] 25)) := (Below.refl _ _).alloc (Nat.le_refl _) _
    by_cases hd1 : d1 = 1
    · have hp0 : ps.length = 0 := by omega
      subst hd1
      clear hq0
      go_wp2_with fail
      have hbA0 := nx hb01 (nx hb14 hA4)
      generalize hWK : w4.alloc (.cells #[.string MM, .string SS, .slice none 0 0] 25) = WK at *
      have cK : ∀ i, WK.cell? ⟨w4.heap.size, i, none⟩ = #[Value.string MM, .string SS, .slice none 0 0][i]? := fun i => by
        rw [← hWK, World.cell?_alloc_at _ _ _ _ rfl]
      have fK : ∀ i, WK.frozen? ⟨w4.heap.size, i, none⟩ = false := fun i => by
        rw [← hWK, World.frozen?_alloc_at _ _ _ _ rfl]
      have hlK : w4.heap.size < WK.heap.size := by rw [← hWK]; simp
      obtain ⟨K, hK⟩ : ∃ K, K = w4.heap.size := ⟨_, rfl⟩
      rw [← hK] at cK fK hlK hl4 hA4
      have HbK : Hid (Below w1.heap.size w1 w4) := hb14
      have hblK : b < K := by rw [hK]; exact Nat.lt_of_lt_of_le hbl hb14.size
      have HCW : Hid (∀ u, Below K WK u → (∀ i, (hi : i < ps.length) → u.cell? ⟨b, off + 1 + i, none⟩ = some (.string (str ps[i]))) ∧ (∀ i, u.cell? ⟨w.heap.size, i, none⟩ = #[Value.string ⟨#[]⟩, .string ⟨#[]⟩, .slice none 0 0][i]?) ∧ (∀ i, u.frozen? ⟨w.heap.size, i, none⟩ = false) ∧ Below w.heap.size w u) := fun u hu => by
        have h4K : Below w1.heap.size w1 WK := nx hb14 (by rw [hK] at hA4; exact hA4)
        refine ⟨fun i hi => ?_, fun i => ?_, fun i => ?_, ?_⟩
        · rw [below_at hu hblK, below_at h4K hbl]; exact HC1.out i hi
        · rw [below_at hu hl4, below_at h4K hl1]; exact HZ1.out.1 i
        · rw [below_fz hu hl4, below_fz h4K hl1]; exact HZ1.out.2 i
        · exact hbA0.trans (hu.mono (Nat.le_of_lt hl4))
      rw [← hK]
      have hKw := hl4
      have HT0 : Hid (∀ u, Below K WK u → Tab u) := fun u hu => tab.below ((HCW.out u hu).2.2.2)
      clear hWK hK hb2 hb3 hb4 hb14 hA4 HC1 HZ1 hbA0 HbK hb01 hb1 hbl tab hb0 hl4
      go_loopw [35] (fun i wr => ∃ (k : Nat) (acc : List Fld) (a : Option Addr) (d : Nat), k ≤ ps.length ∧ i = .int .i64 k ∧ acc.length ≤ k ∧ readsK ps k acc ∧ (∀ x ∈ acc, SmallF 200 x) ∧ OwnF (K + 1) (.slice a acc.length d) acc wr ∧ wr.cell? ⟨K, 0, none⟩ = some (.string MM) ∧ wr.cell? ⟨K, 1, none⟩ = some (.string SS) ∧ wr.cell? ⟨K, 2, none⟩ = some (.slice a acc.length d) ∧ wr.frozen? ⟨K, 2, none⟩ = false ∧ Below K WK wr ∧ K < wr.heap.size) (fun i _ => ps.length - (intOf i).toNat)
      case atStart => exact ⟨0, [], none, 0, Nat.zero_le _, rfl, Nat.le_refl _, readsK_start ps, (fun x hx => by cases hx), OwnR.nil _ _ _ _ _, cK 0, cK 1, cK 2, fK 2, Below.refl _ _, hlK⟩
      case round =>
        obtain ⟨k, acc, a, d, hk, rfl, hal, hg, hsm, hown, k0, k1, k2, kf, hb, hKr⟩ := hrel
        have HG := Lib.hid hg
        have HSM := Lib.hid hsm
        clear hg hsm cK fK
        by_cases hlt : k < ps.length
        · omega
        · have hkn : k = ps.length := by omega
          have HMP := Lib.hid (readsK_end HG.out (by omega))
          have HKK := Lib.hid (HKM.out acc HMP.out)
          have hKV : Hid (∀ u, Below K WK u → RdF u a acc.length acc → Calls Tryd.prog 12 #[.agg #[.string MM, .string SS, .slice a acc.length d]] u fun e w' => e = .returned (.bool (isKnd ⟨(mainK h).1, (mainK h).2, acc⟩)) ∧ Below u.heap.size u w') := fun u hu hr => by
            have := kindValid_any MM SS a acc.length d acc u (HT0.out u hu) (by omega) (by omega) hr (by omega) (fun x hx => (HSM.out x hx).up (by omega))
            rw [HM1.out.1, HM1.out.2] at this; exact this
          have HOWN := Lib.hid hown
          obtain ⟨a0, d0, hv0, hrd, _, _⟩ := hown.read fldC_len
          injection hv0 with e1 _ e3
          subst e1 e3
          have HRD := Lib.hid hrd
          obtain ⟨_, cZ, fZ, hBZ⟩ := HCW.out _ hb
          have hlz : w.heap.size < wr.heap.size := Nat.lt_trans hKw hKr
          have hmk : MM = str (Knd.mk (mainK h).1 (mainK h).2 acc).main ∧ SS = str (Knd.mk (mainK h).1 (mainK h).2 acc).sub := ⟨HMM.out.symm, HSS.out.symm⟩
          have HMK := Lib.hid hmk
          clear hown hrd hmk hkn
          cases hkn : isKnd ⟨(mainK h).1, (mainK h).2, acc⟩
          · have HN : Hid (parseK s.data.toList = none) := by show _ = _; rw [HKK.out]; exact okK_no hkn
            rw [hkn] at hKV
            clear hkn
            go_wp2_with fail
            refine (hKV.out _ hb HRD.out).mono ?_
            rintro e w8 ⟨rfl, hb8⟩
            have cZ8 : ∀ i, w8.cell? ⟨w.heap.size, i, none⟩ = #[Value.string ⟨#[]⟩, .string ⟨#[]⟩, .slice none 0 0][i]? := fun i => (below_at hb8 hlz).trans (cZ i)
            have fZ8 : ∀ i, w8.frozen? ⟨w.heap.size, i, none⟩ = false := fun i => (below_fz hb8 hlz).trans (fZ i)
            clear cZ fZ
            go_wp2
            refine bodyPost_ret (v := .tuple #[.agg #[.string ⟨#[]⟩, .string ⟨#[]⟩, .slice none 0 0], .bool false]) (by simp [results, Tryd.results14, go_sem, cZ8]) rfl (pkRet_none HN.out ?_)
            exact ((((hBZ.trans (hb8.mono (Nat.le_of_lt hlz))).setCell (by simp) _).setCell (by simp) _).setCell (by simp) _)
          · have HN : Hid (parseK s.data.toList = some ⟨(mainK h).1, (mainK h).2, acc⟩) := by show _ = _; rw [HKK.out]; exact okK_yes hkn
            rw [hkn] at hKV
            clear hkn
            go_wp2_with fail
            refine (hKV.out _ hb HRD.out).mono ?_
            rintro e w8 ⟨rfl, hb8⟩
            have cZ8 : ∀ i, w8.cell? ⟨w.heap.size, i, none⟩ = #[Value.string ⟨#[]⟩, .string ⟨#[]⟩, .slice none 0 0][i]? := fun i => (below_at hb8 hlz).trans (cZ i)
            have fZ8 : ∀ i, w8.frozen? ⟨w.heap.size, i, none⟩ = false := fun i => (below_fz hb8 hlz).trans (fZ i)
            have k08 := (below_at hb8 hKr).trans k0
            have k18 := (below_at hb8 hKr).trans k1
            have k28 := (below_at hb8 hKr).trans k2
            have HO8 := Lib.hid (HOWN.out.keep hb8)
            have hlz8 : w.heap.size < w8.heap.size := Nat.lt_of_lt_of_le hlz hb8.size
            clear cZ fZ k0 k1 k2
            go_wp2
            refine bodyPost_ret (v := .tuple #[.agg #[.string MM, .string SS, .slice a acc.length d], .bool true]) (by simp [results, Tryd.results14, go_sem, cZ8]) rfl (pkRet_some HN.out HMK.out.1 HMK.out.2 ?_ ?_)
            · exact OwnR.base (ownF_offG (ownF_offG (ownF_offG HO8.out (by omega) 0 _) (by omega) 1 _) (by omega) 2 _) (by omega)
            · exact ((((hBZ.trans (hb8.mono (Nat.le_of_lt hlz))).setCell (by simp) _).setCell (by simp) _).setCell (by simp) _)
    · have hd2 : (0 : Int) < (d1 : Int) - 1 := by omega
      clear hq0
      go_wp2_with fail
      have hbA0 := nx hb01 (nx hb14 hA4)
      generalize hWK : w4.alloc (.cells #[.string MM, .string SS, .slice none 0 0] 25) = WK at *
      have cK : ∀ i, WK.cell? ⟨w4.heap.size, i, none⟩ = #[Value.string MM, .string SS, .slice none 0 0][i]? := fun i => by
        rw [← hWK, World.cell?_alloc_at _ _ _ _ rfl]
      have fK : ∀ i, WK.frozen? ⟨w4.heap.size, i, none⟩ = false := fun i => by
        rw [← hWK, World.frozen?_alloc_at _ _ _ _ rfl]
      have hlK : w4.heap.size < WK.heap.size := by rw [← hWK]; simp
      obtain ⟨K, hK⟩ : ∃ K, K = w4.heap.size := ⟨_, rfl⟩
      rw [← hK] at cK fK hlK hl4 hA4
      have HbK : Hid (Below w1.heap.size w1 w4) := hb14
      have hblK : b < K := by rw [hK]; exact Nat.lt_of_lt_of_le hbl hb14.size
      have HCW : Hid (∀ u, Below K WK u → (∀ i, (hi : i < ps.length) → u.cell? ⟨b, off + 1 + i, none⟩ = some (.string (str ps[i]))) ∧ (∀ i, u.cell? ⟨w.heap.size, i, none⟩ = #[Value.string ⟨#[]⟩, .string ⟨#[]⟩, .slice none 0 0][i]?) ∧ (∀ i, u.frozen? ⟨w.heap.size, i, none⟩ = false) ∧ Below w.heap.size w u) := fun u hu => by
        have h4K : Below w1.heap.size w1 WK := nx hb14 (by rw [hK] at hA4; exact hA4)
        refine ⟨fun i hi => ?_, fun i => ?_, fun i => ?_, ?_⟩
        · rw [below_at hu hblK, below_at h4K hbl]; exact HC1.out i hi
        · rw [below_at hu hl4, below_at h4K hl1]; exact HZ1.out.1 i
        · rw [below_fz hu hl4, below_fz h4K hl1]; exact HZ1.out.2 i
        · exact hbA0.trans (hu.mono (Nat.le_of_lt hl4))
      rw [← hK]
      have hKw := hl4
      have HT0 : Hid (∀ u, Below K WK u → Tab u) := fun u hu => tab.below ((HCW.out u hu).2.2.2)
      clear hWK hK hb2 hb3 hb4 hb14 hA4 HC1 HZ1 hbA0 HbK hb01 hb1 hbl tab hb0 hl4
      go_loopw [35] (fun i wr => ∃ (k : Nat) (acc : List Fld) (a : Option Addr) (d : Nat), k ≤ ps.length ∧ i = .int .i64 k ∧ acc.length ≤ k ∧ readsK ps k acc ∧ (∀ x ∈ acc, SmallF 200 x) ∧ OwnF (K + 1) (.slice a acc.length d) acc wr ∧ wr.cell? ⟨K, 0, none⟩ = some (.string MM) ∧ wr.cell? ⟨K, 1, none⟩ = some (.string SS) ∧ wr.cell? ⟨K, 2, none⟩ = some (.slice a acc.length d) ∧ wr.frozen? ⟨K, 2, none⟩ = false ∧ Below K WK wr ∧ K < wr.heap.size) (fun i _ => ps.length - (intOf i).toNat)
      case atStart => exact ⟨0, [], none, 0, Nat.zero_le _, rfl, Nat.le_refl _, readsK_start ps, (fun x hx => by cases hx), OwnR.nil _ _ _ _ _, cK 0, cK 1, cK 2, fK 2, Below.refl _ _, hlK⟩
      case round =>
        obtain ⟨k, acc, a, d, hk, rfl, hal, hg, hsm, hown, k0, k1, k2, kf, hb, hKr⟩ := hrel
        have HG := Lib.hid hg
        have HSM := Lib.hid hsm
        clear hg hsm cK fK
        by_cases hlt : k < ps.length
        · have hq := (HCW.out wr hb).1 k hlt
          have htp := HPY.out _ (List.getElem_mem hlt)
          have HTP := Lib.hid htp
          have hzp : (str ps[k]).size ≤ 200 := by rw [str_size]; exact text_len htp
          have HRP : Hid (∀ u, Below K WK u → Calls Tryd.prog 38 #[.string (str ps[k])] u (ParRet ps[k] u)) := fun u hu => by
            have := readParam_any (str ps[k]) u (HT0.out u hu) (by rw [str_list]; exact HTP.out)
            rw [str_list] at this; exact this
          have HBAD := Lib.hid (readsK_bad HG.out hlt)
          have HNXT : Hid (∀ f, readP ps[k] = some f → readsK ps (k + 1) (acc ++ [f]) ∧ SmallF 200 f) := fun f hf => ⟨readsK_next HG.out hlt hf, (readP_small hf).up (text_len HTP.out)⟩
          clear htp
          generalize hPK : ps[k] = pk at *
          clear hPK
          generalize str pk = PK at *
          go_wp2_with fail
          refine (HRP.out _ hb).mono ?_
          rintro e w5 ⟨rfl, hb5⟩
          have hl5 := hb5.size
          have hB5 : Below K WK w5 := hb.trans (hb5.mono (Nat.le_of_lt hKr))
          have k05 := (below_at hb5 hKr).trans k0
          have k15 := (below_at hb5 hKr).trans k1
          have k25 := (below_at hb5 hKr).trans k2
          have kf5 := (below_fz hb5 hKr).trans kf
          have hO5 := hown.keep hb5
          have hK5 : K < w5.heap.size := Nat.lt_of_lt_of_le hKr hl5
          have HO5 := Lib.hid hO5
          clear k0 k1 k2 kf hown hO5
          cases hrp : readP pk with
          | none =>
            have HN := Lib.hid (HKN.out (HBAD.out hrp))
            have HFV : Hid (fldV (parR pk) = .agg #[.string ⟨#[]⟩, .string ⟨#[]⟩]) := by show _ = _; unfold parR; rw [hrp]; rfl
            obtain ⟨_, cZ, fZ, hBZ⟩ := HCW.out _ hB5
            have hlz : w.heap.size < w5.heap.size := Nat.lt_trans hKw hK5
            rw [HFV.out]
            show _
            clear hrp HNXT HBAD
            go_wp2
            refine bodyPost_ret (v := .tuple #[.agg #[.string ⟨#[]⟩, .string ⟨#[]⟩, .slice none 0 0], .bool false]) (by simp [results, Tryd.results14, go_sem, cZ, World.cell?_alloc_lt, hlz]) rfl (pkRet_none HN.out ?_)
            first
              | exact ((((hBZ.alloc (by simp; omega) _).setCell (by simp) _).setCell (by simp) _).setCell (by simp) _)
              | exact ((((hBZ.setCell (by simp) _).setCell (by simp) _).setCell (by simp) _).alloc (by simp; omega) _)
          | some f =>
            obtain ⟨hgn, hsf⟩ := HNXT.out f hrp
            have HGN := Lib.hid hgn
            have HSF := Lib.hid hsf
            have HFV : Hid (fldV (parR pk) = .agg #[.string (str f.name), .string (str f.val)]) := by show _ = _; unfold parR; rw [hrp]; rfl
            have hown1 := HO5.out
            unfold OwnF OwnR at hown1
            rw [HFV.out]
            clear hrp HNXT HBAD hgn hsf
            go_wp2_with (at_builtin; refine wpList_append_own _ rfl _ _ 23 rfl (K + 1) 45 i0 (.agg #[.string ⟨#[]⟩, .string ⟨#[]⟩]) 2 32 Tryd.underlying23 hi hz0 hz1 hz2 rfl (by decide) _ _ _ rfl (World.ownsRow.alloc (World.ownsRow.alloc hown1 _) _) ⟨w5.heap.size + 1, 0, none⟩ 1 1 (fldC f) rfl rfl ?c1 ?c2 ?c3 ?c4 ?c5 ?_)
            case c1 => intro u v hu; rw [add0, World.cell?_alloc_at _ _ _ _ (by simp)]; simpa [fldC] using hu
            case c2 => intro u hu; simp [fldC] at hu; rcases hu with rfl | rfl <;> rfl
            case c3 => unfold maxLen; omega
            case c4 => omega
            case c5 => simp; omega
            intro v' w7 hown' hgrow _
            have hO7 := OwnR.snoc hown'
            have hb7 : Below (K + 1) w5 w7 := (((Below.refl _ _).alloc (by omega) _).alloc (by simp; omega) _).grown hgrow (by simp; omega) (fun k hk => (World.ownsRow.lt hown1 k hk).1)
            have hB7 : Below K WK w7 := hB5.trans (hb7.mono (by omega))
            have k07 := (below_at hb7 (by omega)).trans k05
            have k17 := (below_at hb7 (by omega)).trans k15
            have k27 := (below_at hb7 (by omega)).trans k25
            have kf7 := (below_fz hb7 (by omega)).trans kf5
            have hK7 : K < w7.heap.size := Nat.lt_of_lt_of_le hK5 hb7.size
            clear hown1 hown' hgrow hb7 k05 k15 k25 kf5
            obtain ⟨ys, hys⟩ : ∃ ys, ys = acc ++ [f] := ⟨_, rfl⟩
            have hyl : ys.length ≤ k + 1 := by rw [hys]; simp; omega
            have HYS : Hid (∀ x ∈ ys, SmallF 200 x) := fun x hx => by
              rw [hys] at hx
              rcases List.mem_append.1 hx with h | h
              · exact HSM.out x h
              · rw [List.mem_singleton.1 h]; exact HSF.out
            rw [← hys] at hO7 HGN
            have HO7 := Lib.hid hO7
            obtain ⟨a', d', rfl, _, _, _⟩ := hO7.read fldC_len
            have HO8 := Lib.hid (ownF_off HO7.out 2 (.slice a' ys.length d'))
            clear hys hO7
            go_wp2
            go_roundw
            case rel => exact ⟨k + 1, ys, a', d', by omega, by go_num, hyl, HGN.out, HYS.out, HO8.out, (cell_off (by omega) _).trans k07, (cell_off (by omega) _).trans k17, cell_same k27 _, (World.frozen?_setCell _ _ _ _).trans kf7, hB7.setCell (Nat.le_refl _) _, by simpa using hK7⟩
            case measure => simp [intOf]; omega
        · have hkn : k = ps.length := by omega
          have HMP := Lib.hid (readsK_end HG.out (by omega))
          have HKK := Lib.hid (HKM.out acc HMP.out)
          have hKV : Hid (∀ u, Below K WK u → RdF u a acc.length acc → Calls Tryd.prog 12 #[.agg #[.string MM, .string SS, .slice a acc.length d]] u fun e w' => e = .returned (.bool (isKnd ⟨(mainK h).1, (mainK h).2, acc⟩)) ∧ Below u.heap.size u w') := fun u hu hr => by
            have := kindValid_any MM SS a acc.length d acc u (HT0.out u hu) (by omega) (by omega) hr (by omega) (fun x hx => (HSM.out x hx).up (by omega))
            rw [HM1.out.1, HM1.out.2] at this; exact this
          have HOWN := Lib.hid hown
          obtain ⟨a0, d0, hv0, hrd, _, _⟩ := hown.read fldC_len
          injection hv0 with e1 _ e3
          subst e1 e3
          have HRD := Lib.hid hrd
          obtain ⟨_, cZ, fZ, hBZ⟩ := HCW.out _ hb
          have hlz : w.heap.size < wr.heap.size := Nat.lt_trans hKw hKr
          have hmk : MM = str (Knd.mk (mainK h).1 (mainK h).2 acc).main ∧ SS = str (Knd.mk (mainK h).1 (mainK h).2 acc).sub := ⟨HMM.out.symm, HSS.out.symm⟩
          have HMK := Lib.hid hmk
          clear hown hrd hmk hkn
          cases hkn : isKnd ⟨(mainK h).1, (mainK h).2, acc⟩
          · have HN : Hid (parseK s.data.toList = none) := by show _ = _; rw [HKK.out]; exact okK_no hkn
            rw [hkn] at hKV
            clear hkn
            go_wp2_with fail
            refine (hKV.out _ hb HRD.out).mono ?_
            rintro e w8 ⟨rfl, hb8⟩
            have cZ8 : ∀ i, w8.cell? ⟨w.heap.size, i, none⟩ = #[Value.string ⟨#[]⟩, .string ⟨#[]⟩, .slice none 0 0][i]? := fun i => (below_at hb8 hlz).trans (cZ i)
            have fZ8 : ∀ i, w8.frozen? ⟨w.heap.size, i, none⟩ = false := fun i => (below_fz hb8 hlz).trans (fZ i)
            clear cZ fZ
            go_wp2
            refine bodyPost_ret (v := .tuple #[.agg #[.string ⟨#[]⟩, .string ⟨#[]⟩, .slice none 0 0], .bool false]) (by simp [results, Tryd.results14, go_sem, cZ8]) rfl (pkRet_none HN.out ?_)
            exact ((((hBZ.trans (hb8.mono (Nat.le_of_lt hlz))).setCell (by simp) _).setCell (by simp) _).setCell (by simp) _)
          · have HN : Hid (parseK s.data.toList = some ⟨(mainK h).1, (mainK h).2, acc⟩) := by show _ = _; rw [HKK.out]; exact okK_yes hkn
            rw [hkn] at hKV
            clear hkn
            go_wp2_with fail
            refine (hKV.out _ hb HRD.out).mono ?_
            rintro e w8 ⟨rfl, hb8⟩
            have cZ8 : ∀ i, w8.cell? ⟨w.heap.size, i, none⟩ = #[Value.string ⟨#[]⟩, .string ⟨#[]⟩, .slice none 0 0][i]? := fun i => (below_at hb8 hlz).trans (cZ i)
            have fZ8 : ∀ i, w8.frozen? ⟨w.heap.size, i, none⟩ = false := fun i => (below_fz hb8 hlz).trans (fZ i)
            have k08 := (below_at hb8 hKr).trans k0
            have k18 := (below_at hb8 hKr).trans k1
            have k28 := (below_at hb8 hKr).trans k2
            have HO8 := Lib.hid (HOWN.out.keep hb8)
            have hlz8 : w.heap.size < w8.heap.size := Nat.lt_of_lt_of_le hlz hb8.size
            clear cZ fZ k0 k1 k2
            go_wp2
            refine bodyPost_ret (v := .tuple #[.agg #[.string MM, .string SS, .slice a acc.length d], .bool true]) (by simp [results, Tryd.results14, go_sem, cZ8]) rfl (pkRet_some HN.out HMK.out.1 HMK.out.2 ?_ ?_)
            · exact OwnR.base (ownF_offG (ownF_offG (ownF_offG HO8.out (by omega) 0 _) (by omega) 1 _) (by omega) 2 _) (by omega)
            · exact ((((hBZ.trans (hb8.mono (Nat.le_of_lt hlz))).setCell (by simp) _).setCell (by simp) _).setCell (by simp) _)
end Go.Proofs.YtfheajfcepcepaaDoor
