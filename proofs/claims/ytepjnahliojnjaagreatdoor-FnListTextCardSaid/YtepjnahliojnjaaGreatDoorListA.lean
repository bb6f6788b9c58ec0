/-
  Lists of addresses: what the program's functions return. No statement is proved here.
-/
import Derived.Test.YtepjnahliojnjaaGreatDoorParse2
import Derived.Test.YtepjnahliojnjaaGreatDoorAdrV
namespace Go.Proofs.YtepjnahliojnjaaGreatDoor
open Go.RowKit

theorem fmtL_long {xs : List Adr} (h : 10 < xs.length) : fmtL xs = [] := by
  unfold fmtL; rw [if_neg]; simp only [Bool.and_eq_true, decide_eq_true_eq]; omega
theorem fmtL_bad {xs : List Adr} {k : Nat} (h : k < xs.length) (hx : isAdr xs[k] = false) : fmtL xs = [] := by
  unfold fmtL; rw [if_neg]; simp only [Bool.and_eq_true, List.all_eq_true]; intro hc
  have := hc.1.1 _ (List.getElem_mem h); rw [hx] at this; cases this
theorem fmtL_all {xs : List Adr} (h : ∀ j, (hj : j < xs.length) → isAdr xs[j] = true) (hl : xs.length ≤ 10) : fmtL xs = (if (joinC (xs.map fmtA)).length ≤ 200 then joinC (xs.map fmtA) else []) := by
  have ha : ∀ a ∈ xs, isAdr a = true := fun a ha => by obtain ⟨j, hj, rfl⟩ := List.getElem_of_mem ha; exact h j hj
  have he : xs.map fmtA = xs.map fmtT := List.map_congr_left fun a h => fmtA_val (ha a h)
  unfold fmtL fmtAll
  rw [he]
  by_cases hq : (joinC (xs.map fmtT)).length ≤ 200
  · rw [if_pos hq, if_pos]; simp only [Bool.and_eq_true, decide_eq_true_eq, List.all_eq_true]; exact ⟨⟨ha, hl⟩, hq⟩
  · rw [if_neg hq, if_neg]; simp only [Bool.and_eq_true, decide_eq_true_eq]; omega
theorem map_take_succ {β : Type} (g : Adr → β) (xs : List Adr) (k : Nat) (h : k < xs.length) : (xs.take (k + 1)).map g = (xs.take k).map g ++ [g xs[k]] := by
  rw [List.take_succ_eq_append_getElem h, List.map_append]; rfl
set_option maxRecDepth 100000 in
set_option maxHeartbeats 1000000 in
theorem formatList_any (a : Option Addr) (n c : Nat) (xs : List Adr) (w : World) (en : Env w) (hr : RdA w a n xs) (hn : n ≤ 1073741824) (hx : ∀ x ∈ xs, SmallA 1073741000 x) :
    Calls Tryz.prog 5 #[.slice a n c] w fun e w' => e = .returned (.string (str (fmtL xs))) ∧ Below w.heap.size w w' := by
  obtain ⟨i0, hi, hz0, hz1, hz2⟩ := info_parts sInfo
  obtain ⟨hl, hr2⟩ := hr
  have HLEN := Lib.hid hl
  have HR := Lib.hid hr2
  have HX := Lib.hid hx
  clear hl hr2 hx
  by_cases h10 : 10 < n
  · have d1 : decide ((10 : Int) < n) = true := by simp; omega
    have HN := Lib.hid (fmtL_long (xs := xs) (by rw [HLEN.out]; exact h10))
    go_enter Tryz.func5, Tryz.ntmps5
    go_wp2
    go_ret
    exact ⟨ret_str (by rw [HN.out]; rfl), Below.refl _ _⟩
  · have d1 : decide ((10 : Int) < n) = false := by simp; omega
    go_enter Tryz.func5, Tryz.ntmps5
    go_wp2_with fail
    go_loopw [3, 12] (fun v i wr => ∃ (k : Nat) (acc : List (List UInt8)), k ≤ n ∧ i = .int .i64 k ∧ acc.length ≤ k ∧ acc = (xs.take k).map fmtA ∧ OwnL w.heap.size v acc wr ∧ Below w.heap.size w wr ∧ ∀ j, j < k → (hj : j < xs.length) → isAdr xs[j] = true) (fun _ i _ => n - (intOf i).toNat)
    case atStart => exact ⟨0, [], Nat.zero_le _, rfl, Nat.le_refl _, rfl, OwnL.nil _ _, Below.refl _ _, fun j h => by omega⟩
    case round =>
      obtain ⟨k, acc, hk, rfl, hacl, hacc, hown, hb, hall⟩ := hrel
      have HA := Lib.hid hall
      have HACC := Lib.hid hacc
      clear hall hacc
      by_cases hlt : k < n
      · have hkx : k < xs.length := by rw [HLEN.out]; exact hlt
        obtain ⟨b, off, rfl, hbl, hcell⟩ := HR.out.resolve_left (by omega)
        obtain ⟨q0, q1, q2⟩ := RdR.adr hcell hkx
        rw [← below_at hb hbl] at q0 q1 q2
        obtain ⟨z0, z1, z2⟩ := HX.out _ (List.getElem_mem hkx)
        rw [← str_size] at z0 z1 z2
        have HAD : Hid (adr (str xs[k].name) (str xs[k].loc) (str xs[k].dom) = xs[k]) := adr_str xs[k]
        have hbA := hb.alloc hb.size (.cells #[.string (str xs[k].name), .string (str xs[k].loc), .string (str xs[k].dom)] 36)
        have hbA0 : Below wr.heap.size wr (wr.alloc (.cells #[.string (str xs[k].name), .string (str xs[k].loc), .string (str xs[k].dom)] 36)) := (Below.refl _ _).alloc (Nat.le_refl _) _
        clear hcell
        cases hv : isAdr xs[k]
        · have HN := Lib.hid (fmtL_bad hkx hv)
          have HV : Hid (isAdr (adr (str xs[k].name) (str xs[k].loc) (str xs[k].dom)) = false) := by show _ = _; rw [HAD.out]; exact hv
          generalize str xs[k].name = s0 at *
          generalize str xs[k].loc = s1 at *
          generalize str xs[k].dom = s2 at *
          clear hv
          go_wp2_with fail
          refine (addressValid_any s0 s1 s2 _ (en.below hbA) (by omega) (by omega) (by omega)).mono ?_
          rintro e w1 ⟨rfl, hb1⟩
          rw [HV.out]
          go_wp2
          go_ret
          exact ⟨ret_str (by rw [HN.out]; rfl), nx hbA hb1⟩
        · have HV : Hid (isAdr (adr (str xs[k].name) (str xs[k].loc) (str xs[k].dom)) = true) := by show _ = _; rw [HAD.out]; exact hv
          have HT := Lib.hid (map_take_succ fmtA xs k hkx)
          have HVK := Lib.hid hv
          have hown0 := hown.keep hbA0
          generalize str xs[k].name = s0 at *
          generalize str xs[k].loc = s1 at *
          generalize str xs[k].dom = s2 at *
          clear hv
          go_wp2_with fail
          refine (addressValid_any s0 s1 s2 _ (en.below hbA) (by omega) (by omega) (by omega)).mono ?_
          rintro e w1 ⟨rfl, hb1⟩
          rw [HV.out]
          have hown1 := hown0.keep hb1
          obtain ⟨hc, hf⟩ := bcell hb1
          have hbA1 := nx hbA hb1
          go_wp2_with fail
          refine (formatAddress_any s0 s1 s2 _ (en.below hbA1) (by omega) (by omega) (by omega)).mono ?_
          rintro e w2 ⟨rfl, hb2⟩
          have hown2 := hown1.keep hb2
          have hbA2 := nx hbA1 hb2
          have hfs : (str (fmtA (adr s0 s1 s2))).size ≤ 157 := by rw [str_size]; exact fmtA_len _
          have HFK : Hid ((str (fmtA (adr s0 s1 s2))).data.toList = fmtA xs[k]) := by show _ = _; rw [str_list, HAD.out]
          generalize str (fmtA (adr s0 s1 s2)) = ft at *
          unfold OwnL at hown2
          have hbs := hbA2.size
          go_wp2_with (at_builtin; refine wpList_append_own _ rfl _ _ 34 rfl w.heap.size 9 i0 (.string ⟨#[]⟩) 1 16 Tryz.underlying34 hi hz0 hz1 hz2 rfl (by decide) _ _ _ rfl (hown2.alloc _) ⟨w2.heap.size, 0, none⟩ 1 1 [.string ft] rfl rfl ?c1 ?c2 ?c3 ?c4 ?c5 ?_)
          case c1 =>
            intro u v hj
            match u, hj with
            | 0, hj => simp at hj; subst hj; simp [Addr.add]
          case c2 => intro u hu; simp at hu; subst hu; rfl
          case c3 => unfold maxLen; omega
          case c4 => omega
          case c5 => simp; omega
          intro v' w3 hown' hgrow _
          have hO3 := own_snoc hown'
          have HNA : Hid (acc ++ [ft.data.toList] = (xs.take (k + 1)).map fmtA) := by show _ = _; rw [HT.out, HACC.out, HFK.out]
          have hb3 : Below w.heap.size w2 w3 := ((Below.refl _ _).alloc (by omega) _).grown hgrow (by simp; omega) (fun k hk => (hown2.lt k hk).1)
          go_wp2
          go_roundw
          case rel => exact ⟨k + 1, _, by omega, by go_num, by simp; omega, HNA.out, hO3, hbA2.trans hb3, fun j hj hjx => by
            by_cases e : j = k
            · subst e; exact HVK.out
            · exact HA.out j (by omega) hjx⟩
          case measure => simp [intOf]; omega
      · have hkn : k = xs.length := by rw [HLEN.out]; omega
        have HE := Lib.hid (fmtL_all (xs := xs) (fun j hj => HA.out j (by omega) hj) (by rw [HLEN.out]; omega))
        have HAX : Hid (acc = xs.map fmtA) := by show _ = _; rw [HACC.out, hkn, List.take_length]
        have hlen : acc.length ≤ 10 := by omega
        obtain ⟨a2, c2, rfl, hr2, hm2⟩ := hown.read
        have hnc : acc.length ≤ c2 := by
          rcases hown.2 with ⟨hv, h0⟩ | ⟨g, cap, cur, hv, _, _, hn, _⟩
          · omega
          · injection hv with _ _ h3; omega
        have HJC : Hid (Lib.join acc (⟨#[44, 32]⟩ : ByteArray).data.toList = joinC (xs.map fmtA)) := by show _ = _; rw [← HAX.out]; exact join_comma _
        have HJ : Hid ((Lib.join acc (⟨#[44, 32]⟩ : ByteArray).data.toList).length ≤ 140737488355328) := by
          show _ ≤ _
          rw [HJC.out, ← HAX.out]
          have := joinC_len 157 (xs.map fmtA) (fun x hx => by obtain ⟨y, _, rfl⟩ := List.mem_map.1 hx; exact fmtA_len y)
          rw [← HAX.out] at this
          have h3 : acc.length * 159 ≤ 10 * 159 := Nat.mul_le_mul_right _ hlen
          omega
        clear hkn
        go_wp2_with fail
        refine (join_any a2 _ c2 acc ⟨#[44, 32]⟩ _ hr2 hnc (by omega) HJ.out).mono ?_
        rintro e w4 ⟨rfl, hb4⟩
        rw [HJC.out]
        have hjl := str_size (joinC (xs.map fmtA))
        by_cases hq : (joinC (xs.map fmtA)).length ≤ 200
        · have hqi : ¬ ((200 : Int) < (str (joinC (xs.map fmtA))).size) := by omega
          have HF : Hid (fmtL xs = joinC (xs.map fmtA)) := by show _ = _; rw [HE.out, if_pos hq]
          clear hjl hq
          go_wp2
          go_ret
          exact ⟨ret_str (by rw [HF.out]), nx hb hb4⟩
        · have hqi : ((200 : Int) < (str (joinC (xs.map fmtA))).size) := by omega
          have HF : Hid (fmtL xs = []) := by show _ = _; rw [HE.out, if_neg hq]
          clear hjl hq
          go_wp2
          go_ret
          exact ⟨ret_str (by rw [HF.out]; rfl), nx hb hb4⟩
end Go.Proofs.YtepjnahliojnjaaGreatDoor
