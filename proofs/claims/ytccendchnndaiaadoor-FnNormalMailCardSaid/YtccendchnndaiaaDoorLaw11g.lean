/-
  The law of chapter 11 on normal mails: its walk. For every input of the law: it returns true, and the input reads as it did. Conditions: none but the statement's own.
-/
import Derived.Test.YtccendchnndaiaaDoorDrGw
import Derived.Test.YtccendchnndaiaaDoorLaw0
import Derived.Test.YtccendchnndaiaaDoorZip
import Derived.Test.YtccendchnndaiaaDoorQuietB
import Derived.Deep.QuietTactic
import Derived.BigQuiet
namespace Go.Proofs.YtccendchnndaiaaDoor
open Go.ChangeShapes Go.WideShapes Go.ChangeAt Go.RowKit
open Go.ChangeMaps (open_string shut_string)

set_option maxRecDepth 100000 in
set_option maxHeartbeats 8000000 in
theorem fnNormalMail_walk (a : Option Addr) (n c : Nat) (w : World) (en : Env w) (hc : Code w a n) (hnc : n ≤ c) (hm : c ≤ maxLen) :
    Calls Tryd.prog 3 #[.slice a n c] w fun e w' => e = .returned (.bool true) ∧ Below w.heap.size w w' := by
  have hm' := hm
  unfold maxLen at hm'
  by_cases hn : 1048576 < n
  · have hd : decide ((1048576 : Int) < n) = true := by simp; omega
    go_enter Tryd.func3, Tryd.ntmps3
    go_wp2
    go_ret
    exact ⟨rfl, Below.refl _ _⟩
  · have hd : decide ((1048576 : Int) < n) = false := by simp; omega
    go_enter Tryd.func3, Tryd.ntmps3
    go_wp2_with fail
    refine (drawNormalMail_any a n c w hc hnc hm).mono ?_
    rintro e w1 ⟨s, a1, n1, c1, b1, k1, d1, m, rfl, hv, hb1⟩
    have hA1 : Below w1.heap.size w1 (w1.alloc (.cells #[.string s, .slice a1 n1 c1, .slice b1 k1 d1] 25)) := (Below.refl _ _).alloc (Nat.le_refl _) _
    have HK1 := Lib.hid (MK3.new w1 (.string s) (.slice a1 n1 c1) (.slice b1 k1 d1) 25)
    have HV1 := Lib.hid (hv.below hA1)
    have hbA := nx hb1 hA1
    have HEN := Lib.hid (en.below hbA)
    have HSZ : Hid (SmallM 50 m) := hv.2.2.2.2.2
    clear hv hb1 hA1 hc en
    have HNI : Hid (∀ u, Below (w1.alloc (.cells #[.string s, .slice a1 n1 c1, .slice b1 k1 d1] 25)).heap.size (w1.alloc (.cells #[.string s, .slice a1 n1 c1, .slice b1 k1 d1] 25)) u → Calls Tryd.prog 13 #[.agg #[.string s, .slice a1 n1 c1, .slice b1 k1 d1]] u (NrmW (normO m) (isMail m) u)) := fun u hu => (HV1.out.below hu).calls [] (fun x hx hr => (normalMail_any 50 x u (HEN.out.below hu) hr (by omega)).mono fun e w' hh => by rw [hx] at hh; exact nrmRet_w hh (HSZ.out.up (by omega)))
    have HNS : Hid (∀ u, Below (w1.alloc (.cells #[.string s, .slice a1 n1 c1, .slice b1 k1 d1] 25)).heap.size (w1.alloc (.cells #[.string s, .slice a1 n1 c1, .slice b1 k1 d1] 25)) u → Calls Tryd.prog 14 #[.agg #[.string s, .slice a1 n1 c1, .slice b1 k1 d1]] u (NrmW (normO m) (isMail m) u)) := fun u hu => (HV1.out.below hu).calls [] (fun x hx hr => (normalMailS_any 50 x u hr (by omega)).mono fun e w' hh => by rw [hx] at hh; exact nrmRet_w hh (HSZ.out.up (by omega)))
    have HMS : Hid (∀ (m' : Ml) u (s : ByteArray) (a : Option Addr) (n c : Nat) (b : Option Addr) (k d : Nat) (s' : ByteArray) (a' : Option Addr) (n' c' : Nat) (b' : Option Addr) (k' d' : Nat), RdV 1048576 u s a n c b k d m' → RdV 1048576 u s' a' n' c' b' k' d' m' → Calls Tryd.prog 15 #[.agg #[.string s, .slice a n c, .slice b k d], .agg #[.string s', .slice a' n' c', .slice b' k' d']] u fun e w' => e = .returned (.bool true) ∧ Below u.heap.size u w') := fun m' u _ _ _ _ _ _ _ _ _ _ _ _ _ _ h h' => h.calls2 h' (fun x y hx hy h1 h2 => by
      have := mailSame_any 1048576 x y u h1 h2 (by unfold maxLen; omega)
      rw [hx, hy, decide_eq_true rfl] at this; exact this)
    have HK := Lib.hid (fun u hu => HK1.out.below (w' := u) hu)
    have hl1 : w1.heap.size < (w1.alloc (.cells #[.string s, .slice a1 n1 c1, .slice b1 k1 d1] 25)).heap.size := by simp
    unfold NrmW at HNI HNS
    go_wp2_with fail
    generalize w1.alloc (.cells #[.string s, .slice a1 n1 c1, .slice b1 k1 d1] 25) = W1 at *
    generalize w1.heap.size = G1 at *
    obtain ⟨y0, y1, y2⟩ := HK.out _ (Below.refl _ _)
    refine (HNI.out _ (Below.refl _ _)).mono ?_
    rintro e w2 ⟨s2, a2, n2, c2, b2, k2, d2, rfl, hd2, hb2⟩
    have hA2 : Below w2.heap.size w2 (w2.alloc (.cells #[.string s2, .slice a2 n2 c2, .slice b2 k2 d2] 25)) := (Below.refl _ _).alloc (Nat.le_refl _) _
    have HK2 := Lib.hid (MK3.new w2 (.string s2) (.slice a2 n2 c2) (.slice b2 k2 d2) 25)
    have HD2 := Lib.hid (hd2.below hA2)
    have hb12 := nx hb2 hA2
    clear y0 y1 y2 hd2 hb2 hA2
    obtain ⟨y0, y1, y2⟩ := HK.out _ hb12
    have hl2 := lt_of_cell HK2.out.1
    go_wp2_with fail
    generalize w2.alloc (.cells #[.string s2, .slice a2 n2 c2, .slice b2 k2 d2] 25) = W2 at *
    generalize w2.heap.size = K2 at *
    refine (HNS.out _ hb12).mono ?_
    rintro e w3 ⟨s3, a3, n3, c3, b3, k3, d3, rfl, hd3, hb3⟩
    have hA3 : Below w3.heap.size w3 (w3.alloc (.cells #[.string s3, .slice a3 n3 c3, .slice b3 k3 d3] 25)) := (Below.refl _ _).alloc (Nat.le_refl _) _
    have HK3 := Lib.hid (MK3.new w3 (.string s3) (.slice a3 n3 c3) (.slice b3 k3 d3) 25)
    have HD3 := Lib.hid (hd3.below hA3)
    have HB23 : Hid (Below W2.heap.size W2 (w3.alloc (.cells #[.string s3, .slice a3 n3 c3, .slice b3 k3 d3] 25))) := nx hb3 hA3
    have HK23 := Lib.hid (HK2.out.below HB23.out)
    have HD23 := Lib.hid (HD2.out.below HB23.out)
    have HB13 : Hid (Below W1.heap.size W1 (w3.alloc (.cells #[.string s3, .slice a3 n3 c3, .slice b3 k3 d3] 25))) := nx hb12 HB23.out
    have hl3 := lt_of_cell HK3.out.1
    clear y0 y1 y2 hd3 hb3 hA3
    obtain ⟨z0, z1, z2⟩ := HK23.out
    go_wp2_with fail
    generalize w3.alloc (.cells #[.string s3, .slice a3 n3 c3, .slice b3 k3 d3] 25) = W3 at *
    generalize w3.heap.size = K3 at *
    refine (HMS.out _ _ _ _ _ _ _ _ _ _ _ _ _ _ _ _ HD23.out HD3.out).mono ?_
    rintro e w4 ⟨rfl, hb4⟩
    have HB4 := Lib.hid hb4
    clear z0 z1 z2 hb4
    have hq1 : ∀ q : Bool, (q != q) = false := fun q => by simp
    have hq2 : ∀ q : Bool, (q == q) = true := fun q => by simp
    have hql := hq1 (isMail m)
    have hqe := hq2 (isMail m)
    cases hq : isMail m with
    | false =>
      rw [hq] at hql hqe
      obtain ⟨z0, z1, z2⟩ := HK23.out.below HB4.out
      obtain ⟨x0, x1, x2⟩ := HK3.out.below HB4.out
      clear hq
      go_wp2_with fail
      refine (HMS.out _ _ _ _ _ _ _ _ _ _ _ _ _ _ _ _ (HD23.out.below HB4.out) (HD3.out.below HB4.out)).mono ?_
      rintro e w5 ⟨rfl, hb5⟩
      go_wp2
      go_ret
      exact ⟨rfl, nx hbA (nx HB13.out (nx HB4.out hb5))⟩
    | true =>
      rw [hq] at hql hqe
      have hNM : normO m = normM m := normO_yes hq
      have HMN := Lib.hid (norm_mail hq)
      have HTW := Lib.hid (normO_twice hq)
      have HCN : Hid (∀ t ∈ m.to, (normM m).to.count t = 1) := fun t ht => cnt_norm ht
      have HFR : Hid ((normM m).frm = m.frm ∧ (normM m).lines = m.lines) := ⟨rfl, rfl⟩
      rw [hNM] at HD23 HD3
      have HSN : Hid (SmallM 50 (normM m)) := by show SmallM _ _; rw [← hNM]; exact normO_small HSZ.out
      generalize normM m = NM at *
      clear hq hNM HNS HNI HD3 HK3 HD2 HK2
      have HYK : Hid (∀ u, Below w4.heap.size w4 u → MK3 u G1 (.string s) (.slice a1 n1 c1) (.slice b1 k1 d1) ∧ MK3 u K2 (.string s2) (.slice a2 n2 c2) (.slice b2 k2 d2)) := fun u hu => ⟨HK.out u (nx HB13.out (nx HB4.out hu)), HK23.out.below (nx HB4.out hu)⟩
      have HVM : Hid (∀ u, Below w4.heap.size w4 u → RdV 50 u s a1 n1 c1 b1 k1 d1 m) := fun u hu => HV1.out.below (nx HB13.out (nx HB4.out hu))
      have HVX : Hid (∀ u, Below w4.heap.size w4 u → RdV 1048576 u s2 a2 n2 c2 b2 k2 d2 NM) := fun u hu => HD23.out.below (nx HB4.out hu)
      have HE4 : Hid (∀ u, Below w4.heap.size w4 u → Env u) := fun u hu => HEN.out.below (nx HB13.out (nx HB4.out hu))
      have hbx := nx hbA (nx HB13.out HB4.out)
      clear HK HK23 HD23 HV1 HEN HB13 HB23 HB4
      have hn1 : n1 ≤ 50 := (HVM.out _ (Below.refl _ _)).2.1 ▸ HSZ.out.2.1
      have hn2 : n2 ≤ 50 := (HVX.out _ (Below.refl _ _)).2.1 ▸ HSN.out.2.1
      obtain ⟨⟨y0, y1, y2⟩, z0, z1, z2⟩ := HYK.out _ (Below.refl _ _)
      go_wp2_with fail
      go_loopw [8] (fun i wr => ∃ k : Nat, k ≤ n1 ∧ i = .int .i64 k ∧ Below w4.heap.size w4 wr) (fun i _ => n1 - (intOf i).toNat)
      case atStart => exact ⟨0, Nat.zero_le _, rfl, Below.refl _ _⟩
      case round =>
        clear y0 y1 y2 z0 z1 z2
        obtain ⟨k, hk, rfl, hb⟩ := hrel
        obtain ⟨⟨y0, y1, y2⟩, z0, z1, z2⟩ := HYK.out _ hb
        by_cases hlt : k < n1
        · have hkx : k < m.to.length := by rw [← (HVM.out _ hb).2.1]; exact hlt
          obtain ⟨bb, off, rfl, hbl, hcell⟩ := (HVM.out _ hb).2.2.2.1.1.2.resolve_left (by show ¬ m.to.length = 0; omega)
          dsimp only at hcell
          have hc1 : wr.cell? ⟨bb, off + k, none⟩ = some (.string (str m.to[k])) := hcell k hkx
          have HTC := Lib.hid (HCN.out _ (List.getElem_mem hkx))
          have hkn : (k : Int) < (n1 : Int) := by omega
          have hk0 : (0 : Int) ≤ (k : Int) := by omega
          have HPC : Hid (∀ u, Below wr.heap.size wr u → u.cell? ⟨bb, off + k, none⟩ = some (.string (str m.to[k]))) := fun u hu => (below_at hu hbl).trans hc1
          clear hcell hc1
          generalize hT : m.to[k] = T at *
          clear hT
          have HB := Lib.hid hb
          go_wp2_with fail
          go_loopw [9, 10] (fun v i wi => ∃ j : Nat, j ≤ n2 ∧ i = .int .i64 j ∧ v = .int .i64 (((NM.to.take j).count T : Nat) : Int) ∧ (NM.to.take j).count T ≤ j ∧ Below wr.heap.size wr wi) (fun _ i _ => n2 - (intOf i).toNat)
          case atStart => exact ⟨0, Nat.zero_le _, rfl, by simp, by simp, Below.refl _ _⟩
          case round =>
            clear y0 y1 y2 z0 z1 z2
            obtain ⟨j, hj, rfl, rfl, hcj, hbi⟩ := hrel
            have hb0i := nx HB.out hbi
            obtain ⟨⟨y0, y1, y2⟩, z0, z1, z2⟩ := HYK.out _ hb0i
            by_cases hjt : j < n2
            · have hjx : j < NM.to.length := by rw [← (HVX.out _ hb0i).2.1]; exact hjt
              obtain ⟨b5, o5, rfl, hbl5, hcell5⟩ := (HVX.out _ hb0i).2.2.2.1.1.2.resolve_left (by show ¬ NM.to.length = 0; omega)
              dsimp only at hcell5
              have hc5 : wr.cell? ⟨b5, o5 + j, none⟩ = some (.string (str NM.to[j])) := hcell5 j hjx
              have hjn : (j : Int) < (n2 : Int) := by omega
              have hj0 : (0 : Int) ≤ (j : Int) := by omega
              have HCS := Lib.hid (count_step (t := T) hjx)
              have zc0 : ∀ y : BelowT wr, y.val.cell? ⟨b5, o5 + j, none⟩ = some (.string (str NM.to[j])) := fun y => (below_at y.below hbl5).trans hc5
              have zc1 : ∀ y : BelowT wr, y.val.cell? ⟨bb, off + k, none⟩ = some (.string (str T)) := fun y => HPC.out _ (nx hbi y.below)
              have zc2 := fun (y : BelowT wr) => (HYK.out _ (nx hb0i y.below)).1.2.1
              have zc3 := fun (y : BelowT wr) => (HYK.out _ (nx hb0i y.below)).2.2.1
              have hed := beq_dec (str NM.to[j]) (str T)
              have HEQ : Hid (decide (str NM.to[j] = str T) = decide (NM.to[j] = T)) := by
                show _ = _
                exact decide_eq_decide.2 ⟨fun h => by rw [← str_list NM.to[j], h, str_list], fun h => by rw [h]⟩
              rw [HEQ.out] at hed
              clear hcell5 hc5
              generalize (NM.to.take j).count T = C at *
              cases hdj : decide (NM.to[j] = T)
              · have HNX : Hid (C = (NM.to.take (j + 1)).count T) := by show _ = _; rw [HCS.out, if_neg (of_decide_eq_false hdj)]; rfl
                rw [hdj] at hed
                clear hdj HEQ
                generalize str NM.to[j] = p5 at *
                generalize str T = pT at *
                go_wp2_with fail
                refine wp_region_quietB (W := wr) (by kernel_rfl) (by kernel_rfl) (Below.refl _ _) ?_
                repeat (go_big_quiet_step (fail))
                refine wpQuiet_nil ?_
                intro wz hwz
                obtain ⟨x9, rfl⟩ := hwz
                have hb9 := nx hbi x9.below
                clear zc0 zc1 zc2 zc3 y0 y1 y2 z0 z1 z2
                generalize x9.val = w9 at *
                go_wp2
                go_roundw
                case rel => exact ⟨j + 1, by omega, by go_num, by rw [← HNX.out], by rw [← HNX.out]; omega, hb9⟩
                case measure => simp [intOf]; omega
              · have HNX : Hid (C + 1 = (NM.to.take (j + 1)).count T) := by show _ = _; rw [HCS.out, if_pos (of_decide_eq_true hdj)]
                rw [hdj] at hed
                clear hdj HEQ
                generalize str NM.to[j] = p5 at *
                generalize str T = pT at *
                go_wp2_with fail
                refine wp_region_quietB (W := wr) (by kernel_rfl) (by kernel_rfl) (Below.refl _ _) ?_
                repeat (go_big_quiet_step (fail))
                refine wpQuiet_nil ?_
                intro wz hwz
                obtain ⟨x9, rfl⟩ := hwz
                have hb9 := nx hbi x9.below
                clear zc0 zc1 zc2 zc3 y0 y1 y2 z0 z1 z2
                generalize x9.val = w9 at *
                go_wp2
                go_roundw
                case rel => exact ⟨j + 1, by omega, by go_num, by rw [← HNX.out]; go_num, by rw [← HNX.out]; omega, hb9⟩
                case measure => simp [intOf]; omega
            · have HC1 : Hid ((NM.to.take j).count T = 1) := by show _ = _; rw [List.take_of_length_le (by rw [← (HVX.out _ hb0i).2.1]; omega)]; exact HTC.out
              rw [HC1.out] at *
              go_wp2
              go_roundw
              case rel => exact ⟨k + 1, by omega, by go_num, hb0i⟩
              case measure => simp [intOf]; omega
        · have HNN : Hid (∀ u, Below w4.heap.size w4 u → Calls Tryd.prog 13 #[.agg #[.string s2, .slice a2 n2 c2, .slice b2 k2 d2]] u (NrmW NM true u)) := fun u hu => (HVX.out u hu).calls [] (fun x hx hr => (normalMail_any 1048576 x u (HE4.out u hu) hr (by omega)).mono fun e w' hh => by
            rw [hx] at hh
            have h := nrmRet_w hh (HSN.out.up (by omega))
            rw [HTW.out, HMN.out] at h; exact h)
          have HMV : Hid (∀ u, Below w4.heap.size w4 u → Calls Tryd.prog 16 #[.agg #[.string s2, .slice a2 n2 c2, .slice b2 k2 d2]] u fun e w' => e = .returned (.bool true) ∧ Below u.heap.size u w') := fun u hu => (HVX.out u hu).calls [] (fun x hx hr => by
            have := mailValid_any 1048576 x u (HE4.out u hu) hr (by omega)
            rw [hx, HMN.out] at this; exact this)
          have HMT : Hid (∀ u, Below w4.heap.size w4 u → Calls Tryd.prog 17 #[.slice b2 k2 d2, .slice b1 k1 d1] u fun e w' => e = .returned (.bool true) ∧ Below u.heap.size u w') := fun u hu => by
            obtain ⟨_, _, rfl, _, h5, _⟩ := HVX.out u hu
            obtain ⟨_, _, rfl, _, g5, _⟩ := HVM.out u hu
            have g5' := g5.1
            have h5' := h5.1
            dsimp only at g5' h5'
            have hz := HSZ.out.2.2.2.1
            rw [HFR.out.2] at h5' ⊢
            have := mwTexts_any b2 b1 m.lines.length d2 m.lines.length d1 m.lines m.lines u h5' g5' (by unfold maxLen; omega) (by unfold maxLen; omega)
            rw [decide_eq_true (rfl : m.lines = m.lines)] at this; exact this
          have HSS : Hid (s2 = s) := by show _ = _; rw [(HVX.out _ hb).1, (HVM.out _ hb).1, HFR.out.1]
          have hse : (s2.toList == s.toList) = true := by rw [HSS.out]; simp
          unfold NrmW at HNN
          go_wp2_with fail
          refine (HNN.out _ hb).mono ?_
          rintro e w6 ⟨s6, a6, n6, c6, b6, k6, d6, rfl, hd6, hb6⟩
          have hA6 : Below w6.heap.size w6 (w6.alloc (.cells #[.string s6, .slice a6 n6 c6, .slice b6 k6 d6] 25)) := (Below.refl _ _).alloc (Nat.le_refl _) _
          have HK6 := Lib.hid (MK3.new w6 (.string s6) (.slice a6 n6 c6) (.slice b6 k6 d6) 25)
          have HD6 := Lib.hid (hd6.below hA6)
          have hb7 := nx hb (nx hb6 hA6)
          clear hd6 hb6 hA6 y0 y1 y2 z0 z1 z2
          obtain ⟨⟨y0, y1, y2⟩, z0, z1, z2⟩ := HYK.out _ hb7
          go_wp2_with fail
          generalize w6.alloc (.cells #[.string s6, .slice a6 n6 c6, .slice b6 k6 d6] 25) = W6 at *
          generalize w6.heap.size = K6 at *
          refine (HMV.out _ hb7).mono ?_
          rintro e w8 ⟨rfl, hb8⟩
          have hb08 := nx hb7 hb8
          clear y0 y1 y2 z0 z1 z2
          obtain ⟨⟨y0, y1, y2⟩, z0, z1, z2⟩ := HYK.out _ hb08
          obtain ⟨x0, x1, x2⟩ := HK6.out.below hb8
          go_wp2_with fail
          refine (HMS.out _ _ _ _ _ _ _ _ _ _ _ _ _ _ _ _ (HD6.out.below hb8) (HVX.out _ hb08)).mono ?_
          rintro e w10 ⟨rfl, hb10⟩
          have hb010 := nx hb08 hb10
          clear y0 y1 y2 z0 z1 z2 x0 x1 x2
          obtain ⟨⟨y0, y1, y2⟩, z0, z1, z2⟩ := HYK.out _ hb010
          go_wp2_with fail
          refine (HMT.out _ hb010).mono ?_
          rintro e w11 ⟨rfl, hb11⟩
          go_wp2
          go_ret
          exact ⟨rfl, nx hbx (nx hb010 hb11)⟩
end Go.Proofs.YtccendchnndaiaaDoor
