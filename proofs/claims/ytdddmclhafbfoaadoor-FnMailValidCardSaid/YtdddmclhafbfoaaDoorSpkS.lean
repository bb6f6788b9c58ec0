/-
  Mails spoken: what the model's function returns. No statement is proved here.
-/
import Derived.Test.YtdddmclhafbfoaaDoorStu
import Derived.Test.YtdddmclhafbfoaaDoorMalT
namespace Go.Proofs.YtdddmclhafbfoaaDoor
open Go.RowKit

theorem all_badD {xs : List (List UInt8)} {k : Nat} (h : k < xs.length) (hp : isText (dotL xs[k]) = false) : (xs.map dotL).all isText = false := by
  rw [List.all_eq_false]; exact ⟨dotL xs[k], List.mem_map.2 ⟨_, List.getElem_mem h, rfl⟩, by simp [hp]⟩
theorem all_goodD {xs : List (List UInt8)} {n : Nat} (hn : xs.length ≤ n) (h : ∀ j, j < n → (h' : j < xs.length) → isText (dotL xs[j]) = true) : (xs.map dotL).all isText = true := by
  rw [List.all_eq_true]; intro x hx
  obtain ⟨y, hy, rfl⟩ := List.mem_map.1 hx
  obtain ⟨j, hj, rfl⟩ := List.getElem_of_mem hy
  exact h j (by omega) hj
theorem dotL_way (l : List UInt8) : ((str l).toList.isEmpty = true ∧ dotL l = l) ∨ ((str l).toList.isEmpty = false ∧ 0 < (str l).size ∧ ((∃ h : 0 < (str l).size, (str l)[0] = 46) ∧ str (dotL l) = (ByteArray.mk #[46]) ++ str l ∨ (∃ h : 0 < (str l).size, (str l)[0] ≠ 46) ∧ dotL l = l)) := by
  cases l with
  | nil => exact .inl ⟨isEmp_t rfl, rfl⟩
  | cons x xs =>
    have hp : 0 < (str (x :: xs)).size := by rw [str_size]; simp
    have hx : (str (x :: xs))[0] = x := str_at _ 0 hp
    refine .inr ⟨isEmp_f (by simp), hp, ?_⟩
    by_cases ha : x = 46
    · exact .inl ⟨⟨hp, hx.trans ha⟩, (dotL_sum _ (by rw [ha]; rfl)).symm⟩
    · exact .inr ⟨⟨hp, fun e => ha (hx.symm.trans e)⟩, by unfold dotL; rw [if_neg (by simpa using ha)]⟩
theorem dotq_t {c : UInt8} (h : c = 46) : ((c.toNat : Int) == 46) = true := by rw [h]; rfl
theorem dotq_f {c : UInt8} (h : c ≠ 46) : ((c.toNat : Int) == 46) = false := by
  rw [beq_eq_false_iff_ne]; intro e; exact h (UInt8.toNat_inj.1 (by have : (46 : UInt8).toNat = 46 := rfl; omega))
set_option maxRecDepth 100000 in
set_option maxHeartbeats 2000000 in
theorem speakMailS_any (M : Nat) (x : MlA) (w : World) (h1 : RdM M w x) (hM : M ≤ 1073741000) :
    Calls Tryd.prog 19 #[mlV x] w (SpkRet (speakM x.m) w) := by
  have hA0 : ∀ o, Below w.heap.size w (w.alloc o) := fun o => (Below.refl _ _).alloc (Nat.le_refl _) o
  have H0 : Hid (∀ u, Below w.heap.size w u → Calls Tryd.prog 10 #[mlV x] u fun e w' => e = .returned (.bool (isMail x.m)) ∧ Below u.heap.size u w') := fun u hb => mailValidS_any M x u (h1.below hb) hM
  obtain ⟨m, a1, c1, b1, d1⟩ := x
  obtain ⟨⟨p1, _, _⟩, ⟨p2, _, _⟩, _⟩ := h1
  dsimp only at *
  have P1 := Lib.hid p1
  have P2 := Lib.hid p2
  clear p1 p2
  cases hv : isMail m
  · have HN : Hid (speakM m = none) := speak_no hv
    rw [hv] at H0
    unfold mlV at *
    dsimp only at *
    generalize m.to.length = n1 at *
    generalize m.lines.length = n3 at *
    generalize str m.frm = s1 at *
    go_enter Tryd.func19, Tryd.ntmps19
    go_wp2_with fail
    refine (H0.out _ (hA0 _)).mono ?_
    rintro e w1 ⟨rfl, hb1⟩
    have hb01 := nx (hA0 _) hb1
    go_wp2
    go_ret2
    exact spkRet_none HN.out ((OwnL.empty w1).base hb01.size) (hb01.alloc hb01.size _)
  · obtain ⟨hd, h0, h30⟩ := isMail_iff.1 hv
    obtain ⟨hf, h10, hto, h31, hln⟩ := isDraft_iff.1 hd
    have HTO := Lib.hid hto
    have HLN := Lib.hid hln
    have HG : Hid ((m.lines.map dotL).all isText = true → speakM m = some (speakL m ++ [[46]])) := speak_good hv
    have HB : Hid ((m.lines.map dotL).all isText = false → speakM m = none) := speak_bad
    have HFS := Lib.hid (fromL_sum m.frm)
    have z0 : (str m.frm).size ≤ 71 := by rw [str_size]; exact isSend_len hf
    have HZ0 : Hid (m.frm.length ≤ 71) := isSend_len hf
    have z1 : (ByteArray.mk #[77, 65, 73, 76, 32, 70, 82, 79, 77, 58, 60]).size = 11 := rfl
    have z2 : (ByteArray.mk #[62]).size = 1 := rfl
    have z3 : (ByteArray.mk #[82, 67, 80, 84, 32, 84, 79, 58, 60]).size = 9 := rfl
    rw [hv] at H0
    unfold mlV at *
    dsimp only at *
    clear hv hd hf hto hln
    have HX := Lib.hid (MK3.new w (.string (str m.frm)) (.slice a1 m.to.length c1) (.slice b1 m.lines.length d1) 25)
    have hA := hA0 (.cells #[.string (str m.frm), .slice a1 m.to.length c1, .slice b1 m.lines.length d1] 25)
    have HS1 : Hid (spk1 m 0 = [fromL m.frm]) := by show _ = _; unfold spk1; simp
    have hl1 : w.heap.size < (w.alloc (.cells #[.string (str m.frm), .slice a1 m.to.length c1, .slice b1 m.lines.length d1] 25)).heap.size := by simp
    generalize hn1 : m.to.length = n1 at *
    generalize hn3 : m.lines.length = n3 at *
    have HE1 := Lib.hid hn1
    have HE3 := Lib.hid hn3
    clear hn1 hn3
    generalize str m.frm = s1 at *
    go_enter Tryd.func19, Tryd.ntmps19
    go_wp2_with fail
    refine (H0.out _ hA).mono ?_
    rintro e w1 ⟨rfl, hb1⟩
    have hb01 := nx hA hb1
    have HX1 := Lib.hid (HX.out.below hb1)
    have hlw : w.heap.size < w1.heap.size := Nat.lt_of_lt_of_le hl1 hb1.size
    obtain ⟨y0, y1, y2⟩ := HX1.out
    clear H0 hA0
    go_upto_region 4 with fail
    rw [HFS.out]
    have HO2 : Hid (OwnL w1.heap.size (.slice (some ⟨w1.heap.size, 0, none⟩) 1 1) (spk1 m 0) (w1.alloc (.cells #[.string (str (fromL m.frm))] 9))) := by
      show OwnL _ _ _ _
      rw [HS1.out]; exact own_row w1 [fromL m.frm] _ rfl (by simp)
    have hb2 : Below w1.heap.size w1 (w1.alloc (.cells #[.string (str (fromL m.frm))] 9)) := (Below.refl _ _).alloc (Nat.le_refl _) _
    have hW2 : w1.heap.size ≤ (w1.alloc (.cells #[.string (str (fromL m.frm))] 9)).heap.size := hb2.size
    generalize w1.alloc (.cells #[.string (str (fromL m.frm))] 9) = w2 at *
    clear y0 y1 y2 HFS HS1
    obtain ⟨y0, y1, y2⟩ := HX1.out.below hb2
    go_wp2_with fail
    go_loopw [4, 5] (fun v i wr => ∃ k : Nat, k ≤ n1 ∧ i = .int .i64 k ∧ OwnL w1.heap.size v (spk1 m k) wr ∧ Below w1.heap.size w1 wr) (fun _ i _ => n1 - (intOf i).toNat)
    case atStart => exact ⟨0, Nat.zero_le _, rfl, HO2.out, hb2⟩
    case round =>
      clear y0 y1 y2 hb2 HO2 hW2
      obtain ⟨k, hk, rfl, hown, hb⟩ := hrel
      have HO := Lib.hid hown
      clear hown
      obtain ⟨a3, c3, rfl, _, _, _, _⟩ := HO.out.readc
      obtain ⟨y0, y1, y2⟩ := HX1.out.below hb
      have hsz := hb.size
      have hacc := spk1_len m k
      by_cases hlt : k < n1
      · have hkx : k < m.to.length := by have := HE1.out; omega
        obtain ⟨b, off, rfl, hbl, hcell⟩ := P1.out.2.resolve_left (by omega)
        have hc1 : wr.cell? ⟨b, off + k, none⟩ = some (.string (str m.to[k])) := by rw [below_at (nx hb01 hb) hbl]; exact hcell k hkx
        have z4 : (str m.to[k]).size ≤ 71 := by rw [str_size]; exact isPath_len (HTO.out _ (List.getElem_mem hkx))
        have HRS : Hid (82 :: 67 :: 80 :: 84 :: 32 :: 84 :: 79 :: 58 :: 60 :: ((str m.to[k]).data.toList ++ [62]) = rcptL m.to[k]) := by show _ = _; rw [str_list]; rfl
        have HST := Lib.hid (spk1_step hkx)
        have HLN1 : Hid ((spk1 m k).length ≤ 20) := by show _ ≤ _; have := HE1.out; omega
        clear hcell hacc
        generalize rcptL m.to[k] = nxt at *
        generalize str m.to[k] = z at *
        generalize spk1 m k = acc at *
        have HO2 : Hid (OwnL w1.heap.size (.slice a3 acc.length c3) acc (wr.alloc (.cells #[.string ((ByteArray.mk #[82, 67, 80, 84, 32, 84, 79, 58, 60]) ++ z ++ (ByteArray.mk #[62]))] 9))) := HO.out.keep ((Below.refl _ _).alloc (Nat.le_refl _) _)
        go_wp2_with (at_builtin; refine wpList_append_1L rfl _ _ rfl w1.heap.size _ acc _ wr.heap.size rfl rfl (cell_one _ _ _) HO2.out ?c2 ?c3 ?_)
        case c2 => simp; omega
        case c3 => have := HLN1.out; omega
        intro v' w3 hO3 hgr _
        have hb3 : Below w1.heap.size w1 w3 := (hb.alloc hsz _).grown hgr (by simp; omega) (fun g hg => (HO2.out.lt g hg).1)
        rw [HRS.out, HST.out] at hO3
        have HO3 := Lib.hid hO3
        clear hO3 hgr
        go_wp2
        go_roundw
        case rel => exact ⟨k + 1, by omega, by go_num, HO3.out, hb3⟩
        case measure => simp [intOf]; omega
      · have HST := Lib.hid (spk1_end (m := m) (k := k) (by have := HE1.out; omega))
        have HLN1 : Hid ((spk1 m k).length ≤ 20) := by show _ ≤ _; have := HE1.out; omega
        clear hacc
        generalize spk1 m k = acc at *
        have HO2 : Hid (OwnL w1.heap.size (.slice a3 acc.length c3) acc (wr.alloc (.cells #[.string (ByteArray.mk #[68, 65, 84, 65])] 9))) := HO.out.keep ((Below.refl _ _).alloc (Nat.le_refl _) _)
        go_wp2_with (at_builtin; refine wpList_append_1L rfl _ _ rfl w1.heap.size _ acc _ wr.heap.size rfl rfl (cell_one _ _ _) HO2.out ?d2 ?d3 ?_)
        case d2 => simp; omega
        case d3 => have := HLN1.out; omega
        intro v4 w4 hO4 hgr4 _
        have hb4 : Below w1.heap.size w1 w4 := (hb.alloc hsz _).grown hgr4 (by simp; omega) (fun g hg => (HO2.out.lt g hg).1)
        have hO4' : OwnL w1.heap.size v4 (acc ++ [dataL]) w4 := hO4
        rw [HST.out] at hO4'
        have HO4 := Lib.hid hO4'
        clear hO4 hgr4 hO4' HO2 HO HST HLN1 y0 y1 y2 hb hsz hlt hk
        obtain ⟨y0, y1, y2⟩ := HX1.out.below hb4
        go_wp2_with fail
        go_loopw [4, 6] (fun v i w5 => ∃ k : Nat, k ≤ n3 ∧ (∀ j, j < k → (h : j < m.lines.length) → isText (dotL m.lines[j]) = true) ∧ i = .int .i64 k ∧ OwnL w1.heap.size v (spk2 m k) w5 ∧ Below w1.heap.size w1 w5) (fun _ i _ => n3 - (intOf i).toNat)
        case atStart => exact ⟨0, Nat.zero_le _, (fun j h => by omega), rfl, HO4.out, hb4⟩
        case round =>
          clear y0 y1 y2 hb4 HO4
          obtain ⟨k2, hk, hall, rfl, hown, hb⟩ := hrel
          have HALL := Lib.hid hall
          clear hall
          obtain ⟨y0, y1, y2⟩ := HX1.out.below hb
          have HO := Lib.hid hown
          clear hown
          obtain ⟨a5, c5, rfl, hr5, _, _, _⟩ := HO.out.readc
          have HR5 := Lib.hid hr5
          clear hr5
          have hsz := hb.size
          have hacc := spk2_len m k2
          by_cases hlt : k2 < n3
          · have hkx : k2 < m.lines.length := by have := HE3.out; omega
            obtain ⟨b, off, rfl, hbl, hcell⟩ := P2.out.2.resolve_left (by omega)
            have hc1 : wr.cell? ⟨b, off + k2, none⟩ = some (.string (str m.lines[k2])) := by rw [below_at (nx hb01 hb) hbl]; exact hcell k2 hkx
            have hz5 : m.lines[k2].length ≤ 200 := by have := HLN.out _ (List.getElem_mem hkx); unfold isText at this; simp at this; exact this.1
            have HTX2 : Hid (∀ u, Calls Tryd.prog 38 #[.string (str (dotL m.lines[k2]))] u fun e w' => e = .returned (.bool (isText (dotL m.lines[k2]))) ∧ u = w') := fun u => by
              have := textValidS_any (str (dotL m.lines[k2])) u (by rw [str_size, dotL_len]; unfold maxLen; split <;> omega)
              rw [str_list] at this; exact this
            have HST := Lib.hid (spk2_step hkx)
            have HLN1 : Hid ((spk2 m k2).length ≤ 50) := by show _ ≤ _; have := HE3.out; have := HE1.out; omega
            have hxz : (str m.lines[k2]).size ≤ 200 := by rw [str_size]; exact hz5
            have z9 : (ByteArray.mk #[46]).size = 1 := rfl
            have hway := dotL_way m.lines[k2]
            clear hcell hacc hz5
            cases ht : isText (dotL m.lines[k2])
            · have HBD : Hid (speakM m = none) := HB.out (all_badD hkx ht)
              rw [ht] at HTX2
              clear ht HST
              rcases hway with ⟨g1, g2⟩ | ⟨g1, g2, ⟨⟨_, g3⟩, g4⟩ | ⟨⟨_, g3⟩, g4⟩⟩
              · rw [g2] at HTX2
                clear g2
                generalize str m.lines[k2] = z at *
                generalize spk2 m k2 = acc at *
                go_wp2_with fail
                refine (HTX2.out _).mono ?_
                rintro e w6 ⟨rfl, rfl⟩
                go_wp2
                go_ret2
                exact spkRet_none HBD.out ((OwnL.empty wr).base (nx hb01 hb).size) ((nx hb01 hb).alloc (nx hb01 hb).size _)
              · rw [g4] at HTX2
                have e3 := dotq_t g3
                clear g3 g4
                generalize str m.lines[k2] = z at *
                generalize spk2 m k2 = acc at *
                go_wp2_with fail
                refine (HTX2.out _).mono ?_
                rintro e w6 ⟨rfl, rfl⟩
                go_wp2
                go_ret2
                exact spkRet_none HBD.out ((OwnL.empty wr).base (nx hb01 hb).size) ((nx hb01 hb).alloc (nx hb01 hb).size _)
              · rw [g4] at HTX2
                have e3 := dotq_f g3
                clear g3 g4
                generalize str m.lines[k2] = z at *
                generalize spk2 m k2 = acc at *
                go_wp2_with fail
                refine (HTX2.out _).mono ?_
                rintro e w6 ⟨rfl, rfl⟩
                go_wp2
                go_ret2
                exact spkRet_none HBD.out ((OwnL.empty wr).base (nx hb01 hb).size) ((nx hb01 hb).alloc (nx hb01 hb).size _)
            · have HALN : Hid (∀ j, j < k2 + 1 → (h : j < m.lines.length) → isText (dotL m.lines[j]) = true) := fun j h h' => by
                by_cases e : j = k2
                · subst e; exact ht
                · exact HALL.out j (by omega) h'
              rw [ht] at HTX2
              clear ht
              have HZL : Hid ((str m.lines[k2]).data.toList = m.lines[k2]) := str_list _
              have HZD : Hid ((str (dotL m.lines[k2])).data.toList = dotL m.lines[k2]) := str_list _
              rcases hway with ⟨g1, g2⟩ | ⟨g1, g2, ⟨⟨_, g3⟩, g4⟩ | ⟨⟨_, g3⟩, g4⟩⟩
              · rw [g2] at HTX2 HST
                have HYZ : Hid (spk2 m k2 ++ [(str m.lines[k2]).data.toList] = spk2 m (k2 + 1)) := by show _ = _; rw [HZL.out]; exact HST.out
                clear g2 HST HZL HZD
                generalize str m.lines[k2] = z at *
                generalize spk2 m k2 = acc at *
                go_wp2_with fail
                refine (HTX2.out _).mono ?_
                rintro e w6 ⟨rfl, rfl⟩
                go_wp2_with (at_builtin; refine wpList_append_1L rfl _ _ rfl w1.heap.size _ acc _ wr.heap.size rfl rfl (cell_one _ _ _) (HO.out.keep ((Below.refl _ _).alloc (Nat.le_refl _) _)) ?e2 ?e3 ?_)
                case e2 => simp; omega
                case e3 => have := HLN1.out; omega
                intro v' w3 hO3 hgr _
                have hb3 : Below w1.heap.size w1 w3 := (hb.alloc hsz _).grown hgr (by simp; omega) (fun g hg => (HO.out.lt g hg).1)
                first
                  | rw [HYZ.out] at hO3
                  | rw [HYW.out] at hO3
                have HO3 := Lib.hid hO3
                clear hO3 hgr
                go_wp2
                go_roundw
                case rel => exact ⟨k2 + 1, by omega, HALN.out, by go_num, HO3.out, hb3⟩
                case measure => simp [intOf]; omega
              · rw [g4] at HTX2
                have e3 := dotq_t g3
                have HYZ : Hid (spk2 m k2 ++ [((ByteArray.mk #[46]) ++ (str m.lines[k2])).data.toList] = spk2 m (k2 + 1)) := by show _ = _; rw [← g4, HZD.out]; exact HST.out
                have HYW : Hid (spk2 m k2 ++ [46 :: (str m.lines[k2]).data.toList] = spk2 m (k2 + 1)) := by
                  show _ = _
                  have := HYZ.out
                  rw [Joins.data_append] at this; exact this
                clear g3 g4 HST HZL HZD
                generalize str m.lines[k2] = z at *
                generalize spk2 m k2 = acc at *
                go_wp2_with fail
                refine (HTX2.out _).mono ?_
                rintro e w6 ⟨rfl, rfl⟩
                go_wp2_with (at_builtin; refine wpList_append_1L rfl _ _ rfl w1.heap.size _ acc _ wr.heap.size rfl rfl (cell_one _ _ _) (HO.out.keep ((Below.refl _ _).alloc (Nat.le_refl _) _)) ?e2 ?e3 ?_)
                case e2 => simp; omega
                case e3 => have := HLN1.out; omega
                intro v' w3 hO3 hgr _
                have hb3 : Below w1.heap.size w1 w3 := (hb.alloc hsz _).grown hgr (by simp; omega) (fun g hg => (HO.out.lt g hg).1)
                first
                  | rw [HYZ.out] at hO3
                  | rw [HYW.out] at hO3
                have HO3 := Lib.hid hO3
                clear hO3 hgr
                go_wp2
                go_roundw
                case rel => exact ⟨k2 + 1, by omega, HALN.out, by go_num, HO3.out, hb3⟩
                case measure => simp [intOf]; omega
              · rw [g4] at HTX2 HST
                have e3 := dotq_f g3
                have HYZ : Hid (spk2 m k2 ++ [(str m.lines[k2]).data.toList] = spk2 m (k2 + 1)) := by show _ = _; rw [HZL.out]; exact HST.out
                clear g3 g4 HST HZL HZD
                generalize str m.lines[k2] = z at *
                generalize spk2 m k2 = acc at *
                go_wp2_with fail
                refine (HTX2.out _).mono ?_
                rintro e w6 ⟨rfl, rfl⟩
                go_wp2_with (at_builtin; refine wpList_append_1L rfl _ _ rfl w1.heap.size _ acc _ wr.heap.size rfl rfl (cell_one _ _ _) (HO.out.keep ((Below.refl _ _).alloc (Nat.le_refl _) _)) ?e2 ?e3 ?_)
                case e2 => simp; omega
                case e3 => have := HLN1.out; omega
                intro v' w3 hO3 hgr _
                have hb3 : Below w1.heap.size w1 w3 := (hb.alloc hsz _).grown hgr (by simp; omega) (fun g hg => (HO.out.lt g hg).1)
                first
                  | rw [HYZ.out] at hO3
                  | rw [HYW.out] at hO3
                have HO3 := Lib.hid hO3
                clear hO3 hgr
                go_wp2
                go_roundw
                case rel => exact ⟨k2 + 1, by omega, HALN.out, by go_num, HO3.out, hb3⟩
                case measure => simp [intOf]; omega
          · have HST := Lib.hid (spk2_end (m := m) (k := k2) (by have := HE3.out; omega))
            have HLN1 : Hid ((spk2 m k2).length ≤ 50) := by show _ ≤ _; have := HE3.out; have := HE1.out; omega
            have HGG : Hid (speakM m = some (speakL m ++ [[46]])) := HG.out (all_goodD (by have := HE3.out; omega) HALL.out)
            clear hacc
            rw [← HST.out] at HGG
            generalize spk2 m k2 = acc at *
            have HO6 : Hid (OwnL w1.heap.size (.slice a5 acc.length c5) acc (wr.alloc (.cells #[.string (ByteArray.mk #[46])] 9))) := HO.out.keep ((Below.refl _ _).alloc (Nat.le_refl _) _)
            go_wp2_with (at_builtin; refine wpList_append_1L rfl _ _ rfl w1.heap.size _ acc _ wr.heap.size rfl rfl (cell_one _ _ _) HO6.out ?f2 ?f3 ?_)
            case f2 => simp; omega
            case f3 => have := HLN1.out; omega
            intro v7 w7 hO7 hgr7 _
            have hb7 : Below w1.heap.size w1 w7 := (hb.alloc hsz _).grown hgr7 (by simp; omega) (fun g hg => (HO6.out.lt g hg).1)
            have HO7 : Hid (OwnL w1.heap.size v7 (acc ++ [[46]]) w7) := hO7
            clear hO7 hgr7
            go_wp2
            go_ret2
            exact spkRet_some HGG.out (HO7.out.base (by omega)) (nx hb01 hb7)
end Go.Proofs.YtdddmclhafbfoaaDoor
