/-
  Parts joined: what the model's function returns; fresh boundaries. No statement is proved here.
-/
import Derived.Test.YtdoclfbfhlgejadPartS
namespace Go.Proofs.Ytdoclfbfhlgejad
open Go.RowKit

theorem linesRet_noneE {o : Option (List (List UInt8))} {w w' : World} (h : o = none) (hb : Below w.heap.size w w') : LinesRet o w (.returned (.tuple #[.slice (some ⟨w'.heap.size, 0, none⟩) 0 0, .bool false])) (w'.alloc (.cells #[] 9)) := by
  subst h; exact ⟨_, rfl, (OwnL.empty w').base hb.size, hb.alloc hb.size _⟩
theorem linesRet_noneO {o : Option (List (List UInt8))} {w w' : World} {v : Value} (h : o = none) (ho : OwnL w.heap.size v [] w') (hb : Below w.heap.size w w') : LinesRet o w (.returned (.tuple #[v, .bool false])) w' := by
  subst h; exact ⟨v, rfl, ho, hb⟩
set_option maxRecDepth 100000 in
set_option maxHeartbeats 4000000 in
theorem joinPartsS_any (a : Option Addr) (n c : Nat) (ps : List (List (List UInt8))) (s : ByteArray) (w : World) (hr : RdSS w a n ps) (hn : n ≤ 1048576) (hps : sumP ps ≤ 4000000) (hs : s.size ≤ 1073741824) :
    Calls Try.prog 15 #[.slice a n c, .string s] w (LinesRet (joinP ps s.data.toList) w) := by
  obtain ⟨hl, hr2⟩ := hr
  have HLEN := Lib.hid hl
  have HR := Lib.hid hr2
  have hbA : Below w.heap.size w (w.alloc (.cells #[] 9)) := (Below.refl _ _).alloc (Nat.le_refl _) _
  have HE : Hid (OwnL w.heap.size (.slice (some ⟨w.heap.size, 0, none⟩) 0 0) [] (w.alloc (.cells #[] 9))) := OwnL.empty w
  clear hl hr2
  cases hv : isBnd s.data.toList
  · have HP := Lib.hid (joinP_no (ps := ps) hv)
    have HV := Lib.hid hv
    clear hv
    go_enter Try.func15, Try.ntmps15
    go_wp2_with fail
    refine (l7Boundary_any s _ hs).mono ?_
    rintro e w1 ⟨rfl, rfl⟩
    rw [HV.out]
    go_wp2
    go_ret2
    exact linesRet_noneO HP.out HE.out hbA
  · have hz := bnd_size hv
    have HV := Lib.hid hv
    by_cases h0 : n = 0
    · have HP : Hid (joinP ps s.data.toList = none) := by show _ = _; rw [List.length_eq_zero_iff.1 (HLEN.out.trans h0), joinP_nil]
      subst h0
      clear hv hz
      go_enter Try.func15, Try.ntmps15
      go_wp2_with fail
      refine (l7Boundary_any s _ hs).mono ?_
      rintro e w1 ⟨rfl, rfl⟩
      rw [HV.out]
      go_wp2
      go_ret2
      exact linesRet_noneO HP.out HE.out hbA
    have HPN : Hid (ps ≠ []) := by show _ ≠ _; intro e; exact h0 (by rw [← HLEN.out, e]; rfl)
    have e0 : ((n : Int) == 0) = false := by rw [beq_eq_false_iff_ne]; omega
    have HS4 := Lib.hid hps
    have HB := Lib.hid (beg_str s)
    have HB2 : Hid ((⟨#[45, 45]⟩ : ByteArray) ++ s ++ ⟨#[45, 45]⟩ = str (endL s.data.toList)) := by show _ = _; rw [HB.out]; exact end_str s
    have HBL : Hid (((⟨#[45, 45]⟩ : ByteArray) ++ s).data.toList = begL s.data.toList) := by show _ = _; rw [HB.out, str_list]
    have HBL2 : Hid (((⟨#[45, 45]⟩ : ByteArray) ++ s ++ ⟨#[45, 45]⟩).data.toList = endL s.data.toList) := by show _ = _; rw [HB2.out, str_list]
    have z2 : (⟨#[45, 45]⟩ : ByteArray).size = 2 := rfl
    obtain ⟨b, off, rfl, hbl, hcell⟩ := HR.out.resolve_left h0
    have HC := Lib.hid hcell
    have hs6 : s.size ≤ 1000000 := by omega
    clear hv hps hcell h0
    go_enter Try.func15, Try.ntmps15
    go_wp2_with fail
    refine (l7Boundary_any s _ hs).mono ?_
    rintro e w1 ⟨rfl, rfl⟩
    rw [HV.out]
    go_wp2_with fail
    go_loopw [6, 7] (fun v i wr => ∃ (k : Nat), k ≤ n ∧ i = .int .i64 k ∧ (∀ j, j < k → (hj : j < ps.length) → freeB s.data.toList ps[j] = true) ∧ OwnL w.heap.size v (partsL s.data.toList (ps.take k)) wr ∧ Below w.heap.size w wr) (fun _ i _ => n - (intOf i).toNat)
    case atStart => exact ⟨0, Nat.zero_le _, rfl, (fun j hj => by omega), HE.out, hbA⟩
    case round =>
      obtain ⟨k, hk, rfl, hall, ho, hb⟩ := hrel
      have HALL := Lib.hid hall
      have HO := Lib.hid ho
      have hbs := hb.size
      have hpl := partsL_len s.data.toList (ps.take k)
      have hpt := sumP_take ps k
      have hs4 := HS4.out
      have hlen4 : (partsL s.data.toList (ps.take k)).length ≤ 4000000 := by omega
      clear hall hpl hpt hs4 ho
      by_cases hlt : k < n
      · have hkx : k < ps.length := by rw [HLEN.out]; exact hlt
        obtain ⟨a5, c5, q0, hd5, hac5, hnc5⟩ := HC.out k hkx
        have HQ0 := Lib.hid q0
        rw [← below_at hb hbl] at q0
        have hpk : ps[k].length ≤ 4000000 := by have := sumP_mem (List.getElem_mem hkx); have := HS4.out; omega
        have HSU := Lib.hid (partsL_succ s.data.toList ps k hkx)
        have HPT : Hid ((partsL s.data.toList (ps.take k)).length + 1 + ps[k].length ≤ 4000000) := by
          have h1 := partsL_len s.data.toList (ps.take (k + 1))
          have h2 := sumP_take ps (k + 1)
          have h3 := HS4.out
          show _ ≤ _
          rw [HSU.out, List.length_append, List.length_append, List.length_singleton] at h1
          omega
        have HD5 := Lib.hid hd5
        have hps1 := HPT.out
        obtain ⟨P, hP⟩ : ∃ P, P = partsL s.data.toList (ps.take k) := ⟨_, rfl⟩
        have HPP := Lib.hid hP
        rw [← hP] at HO hlen4 hps1
        obtain ⟨p, hp⟩ : ∃ p, p = ps[k] := ⟨_, rfl⟩
        have HPK := Lib.hid hp
        rw [← hp] at hpk hps1 q0 HQ0 hnc5 HD5
        clear hd5 hac5 hP hp
        obtain ⟨a6, c6, rfl, _, _, _, hnc6⟩ := HO.out.readc
        have HA : Hid (OwnL w.heap.size (.slice a6 P.length c6) P (wr.alloc (.cells #[.string ((⟨#[45, 45]⟩ : ByteArray) ++ s)] 9))) := HO.out.keep ((Below.refl _ _).alloc (Nat.le_refl _) _)
        go_wp2_with (at_builtin; refine wpList_append_1L rfl _ _ rfl w.heap.size _ P ((⟨#[45, 45]⟩ : ByteArray) ++ s) wr.heap.size rfl rfl (by rw [World.cell?_alloc_at _ _ _ _ rfl]; rfl) HA.out ?c2 ?c3 ?_)
        case c2 => first | omega | (simp; omega)
        case c3 => omega
        intro v4 w4 hO4 hgr4 _
        have hb4 : Below w.heap.size w w4 := (hb.alloc hbs _).grown hgr4 (by simp; omega) (fun g hg => (HA.out.lt g hg).1)
        have HO4 : Hid (OwnL w.heap.size v4 (P ++ [begL s.data.toList]) w4) := by show OwnL _ _ _ _; rw [← HBL.out]; exact hO4
        clear hO4 hgr4
        go_wp2_with fail
        obtain ⟨wo, rfl⟩ : ∃ wo : World, wo = wr := ⟨_, rfl⟩
        go_loopw [6, 8] (fun v i wq => ∃ (j : Nat), j ≤ p.length ∧ i = .int .i64 j ∧ (∀ t, t < j → (ht : t < p.length) → looksB s.data.toList p[t] = false) ∧ OwnL w.heap.size v (P ++ [begL s.data.toList] ++ p.take j) wq ∧ Below w.heap.size w wq) (fun _ i _ => p.length - (intOf i).toNat)
        case atStart => exact ⟨0, Nat.zero_le _, rfl, (fun t ht => by omega), by rw [List.take_zero, List.append_nil]; exact HO4.out, hb4⟩
        case round =>
          obtain ⟨j, hj, rfl, hfr, ho, hb⟩ := hrel
          have HFR := Lib.hid hfr
          have HO5 := Lib.hid ho
          have hbs5 := hb.size
          clear hfr ho q0
          have q0 : wr.cell? ⟨b, off + k, none⟩ = some (.slice a5 p.length c5) := by rw [below_at hb hbl]; exact HQ0.out
          obtain ⟨P2, hP2⟩ : ∃ P2, P2 = P ++ [begL s.data.toList] ++ p.take j := ⟨_, rfl⟩
          have hP2l : P2.length ≤ 4000000 := by rw [hP2, List.length_append, List.length_append, List.length_singleton, List.length_take]; omega
          have HP2 := Lib.hid hP2
          rw [← hP2] at HO5
          clear hP2
          obtain ⟨a7, c7, rfl, _, _, _, hnc7⟩ := HO5.out.readc
          by_cases hjl : j < p.length
          · obtain ⟨b2, off2, ha5, hbl2, hc2⟩ := HD5.out.2.resolve_left (by omega)
            subst ha5
            have q1 : wr.cell? ⟨b2, off2 + j, none⟩ = some (.string (str p[j])) := by rw [below_at hb hbl2]; exact hc2 j hjl
            have HTK := Lib.hid (List.take_succ_eq_append_getElem hjl)
            have HFB : Hid (looksB s.data.toList p[j] = true → freeB s.data.toList p = false) := fun h => freeB_f hjl h
            obtain ⟨x, hx⟩ : ∃ x, x = p[j] := ⟨_, rfl⟩
            have HX := Lib.hid hx
            rw [← hx] at q1 HTK HFB
            clear hc2 hx
            cases hlo : looksB s.data.toList x
            · have HLO := Lib.hid hlo
              have HLC : Hid (∀ u, Calls Try.prog 25 #[.string (str x), .string s] u fun e w' => e = .returned (.bool false) ∧ u = w') := fun u => by have := l7Looks_any x s u hs6; rw [hlo] at this; exact this
              have HXS : Hid ((str x).data.toList = x) := str_list x
              clear hlo
              obtain ⟨X, hX⟩ : ∃ X, X = str x := ⟨_, rfl⟩
              rw [← hX] at q1 HLC HXS
              clear hX
              go_wp2_with fail
              refine (HLC.out _).mono ?_
              rintro e w5 ⟨rfl, rfl⟩
              have HA5 : Hid (OwnL w.heap.size (.slice a7 P2.length c7) P2 (wr.alloc (.cells #[.string X] 9))) := HO5.out.keep ((Below.refl _ _).alloc (Nat.le_refl _) _)
              go_wp2_with (at_builtin; refine wpList_append_1L rfl _ _ rfl w.heap.size _ P2 X wr.heap.size rfl rfl (by rw [World.cell?_alloc_at _ _ _ _ rfl]; rfl) HA5.out ?c2 ?c3 ?_)
              case c2 => first | omega | (simp; omega)
              case c3 => omega
              intro v6 w6 hO6 hgr6 _
              have hb6 : Below w.heap.size w w6 := (hb.alloc hbs5 _).grown hgr6 (by simp; omega) (fun g hg => (HA5.out.lt g hg).1)
              have HN : Hid (OwnL w.heap.size v6 (P ++ [begL s.data.toList] ++ p.take (j + 1)) w6) := by
                show OwnL _ _ _ _
                rw [HTK.out, ← List.append_assoc, ← HP2.out, ← HXS.out]; exact hO6
              clear hO6 hgr6
              go_wp2
              go_roundw
              case rel => exact ⟨j + 1, by omega, by go_num, (fun t ht htl => by
                by_cases e : t = j
                · subst e; have := HLO.out; rw [HX.out] at this; exact this
                · exact HFR.out t (by omega) htl), HN.out, hb6⟩
              case measure => simp [intOf]; omega
            · have HP : Hid (joinP ps s.data.toList = none) := by
                have h1 := HFB.out hlo
                rw [HPK.out] at h1
                exact joinP_bad (okParts_bad hkx h1)
              have HLC : Hid (∀ u, Calls Try.prog 25 #[.string (str x), .string s] u fun e w' => e = .returned (.bool true) ∧ u = w') := fun u => by have := l7Looks_any x s u hs6; rw [hlo] at this; exact this
              clear hlo
              obtain ⟨X, hX⟩ : ∃ X, X = str x := ⟨_, rfl⟩
              rw [← hX] at q1 HLC
              clear hX
              go_wp2_with fail
              refine (HLC.out _).mono ?_
              rintro e w5 ⟨rfl, rfl⟩
              go_wp2
              go_ret2
              exact linesRet_noneE HP.out hb
          · have hjp : j = p.length := by omega
            have HN : Hid (P2 = partsL s.data.toList (ps.take (k + 1))) := by
              show _ = _
              rw [HP2.out, HSU.out, ← HPP.out, ← HPK.out, hjp, List.take_length]
            have HFK : Hid (freeB s.data.toList p = true) := freeB_t (fun t ht => HFR.out t (by omega) ht)
            clear hjp
            go_wp2
            go_roundw
            case rel => exact ⟨k + 1, by omega, by go_num, (fun t ht htl => by
              by_cases e : t = k
              · subst e; rw [← HPK.out]; exact HFK.out
              · exact HALL.out t (by omega) htl), by rw [← HN.out]; exact HO5.out, hb⟩
            case measure => simp [intOf]; omega
      · have hkn : k = ps.length := by rw [HLEN.out]; omega
        have HT : Hid (ps.take k = ps) := by show _ = _; rw [hkn, List.take_length]
        rw [HT.out] at HO hlen4
        have HP : Hid (joinP ps s.data.toList = some (partsL s.data.toList ps ++ [endL s.data.toList])) := by
          show _ = _
          exact joinP_yes HV.out HPN.out (okParts_good fun j hj => HALL.out j (by omega) hj)
        clear hkn
        obtain ⟨P, hP⟩ : ∃ P, P = partsL s.data.toList ps := ⟨_, rfl⟩
        rw [← hP] at HO hlen4 HP
        clear hP
        obtain ⟨a6, c6, rfl, _, _, _, hnc6⟩ := HO.out.readc
        have HA : Hid (OwnL w.heap.size (.slice a6 P.length c6) P (wr.alloc (.cells #[.string ((⟨#[45, 45]⟩ : ByteArray) ++ s ++ ⟨#[45, 45]⟩)] 9))) := HO.out.keep ((Below.refl _ _).alloc (Nat.le_refl _) _)
        go_wp2_with (at_builtin; refine wpList_append_1L rfl _ _ rfl w.heap.size _ P ((⟨#[45, 45]⟩ : ByteArray) ++ s ++ ⟨#[45, 45]⟩) wr.heap.size rfl rfl (by rw [World.cell?_alloc_at _ _ _ _ rfl]; rfl) HA.out ?c2 ?c3 ?_)
        case c2 => first | omega | (simp; omega)
        case c3 => omega
        intro v4 w4 hO4 hgr4 _
        have hb4 : Below w.heap.size w w4 := (hb.alloc hbs _).grown hgr4 (by simp; omega) (fun g hg => (HA.out.lt g hg).1)
        go_wp2
        go_ret2
        exact linesRet_some HP.out (by rw [← HBL2.out]; exact hO4) hb4
end Go.Proofs.Ytdoclfbfhlgejad
