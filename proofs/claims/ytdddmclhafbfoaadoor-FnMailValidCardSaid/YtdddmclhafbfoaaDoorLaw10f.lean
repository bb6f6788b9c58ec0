/-
  The law of chapter 10 on valid mails and what is spoken: its walk. For every input of the law: it returns true, and the input reads as it did. Conditions: none but the statement's own.
-/
import Derived.Test.YtdddmclhafbfoaaDoorDrMaw
import Derived.Test.YtdddmclhafbfoaaDoorLaw0
import Derived.Test.YtdddmclhafbfoaaDoorSpk
import Derived.Test.YtdddmclhafbfoaaDoorSpkS
import Derived.Test.YtdddmclhafbfoaaDoorMalT
namespace Go.Proofs.YtdddmclhafbfoaaDoor
open Go.ChangeShapes Go.WideShapes Go.ChangeAt Go.RowKit
open Go.ChangeMaps (open_string shut_string)

/-- A line that is too long with a point more. -/
def longB (l : List UInt8) : Bool := decide (l.length = 200) && decide (l.head? = some 46)
theorem speak_long (m : Ml) : (speakM m).isSome = (isMail m && !m.lines.any longB) := by
  unfold speakM
  cases h : isMail m with
  | false => rfl
  | true =>
    obtain ⟨h1, _, _⟩ := isMail_iff.1 h
    obtain ⟨_, _, _, _, h5⟩ := isDraft_iff.1 h1
    have e : (m.lines.map dotL).all isText = !m.lines.any longB := by
      rw [List.all_map, List.not_any_eq_all_not]
      apply Bool.eq_iff_iff.2
      rw [List.all_eq_true, List.all_eq_true]
      have key : ∀ x ∈ m.lines, (isText ∘ dotL) x = !longB x := fun x hx => dotL_text (h5 x hx)
      exact ⟨fun hh x hx => by rw [← key x hx]; exact hh x hx, fun hh x hx => by rw [key x hx]; exact hh x hx⟩
    rw [e, Bool.true_and]
    cases m.lines.any longB <;> rfl
theorem any_take {P : List UInt8 → Bool} {xs : List (List UInt8)} {k : Nat} (h : k < xs.length) : (xs.take (k + 1)).any P = ((xs.take k).any P || P xs[k]) := by
  rw [List.take_succ_eq_append_getElem h, List.any_append]; simp
theorem head_str {l : List UInt8} (h : 0 < (str l).size) : l.head? = some ((str l)[0]) := by
  cases l with
  | nil => rw [str_size] at h; cases h
  | cons x xs => show some x = _; rw [str_at]; rfl
theorem eqd_t {c : UInt8} (h : c = 46) : ((c.toNat : Int) == 46) = true := by rw [h]; rfl
theorem eqd_f {c : UInt8} (h : c ≠ 46) : ((c.toNat : Int) == 46) = false := by
  rw [beq_eq_false_iff_ne]; intro e; exact h (UInt8.toNat_inj.1 (by have : (46 : UInt8).toNat = 46 := rfl; omega))
set_option maxRecDepth 100000 in
set_option maxHeartbeats 4000000 in
theorem fnMailValid_walk (a : Option Addr) (n c : Nat) (w : World) (en : Env w) (hc : Code w a n) (hnc : n ≤ c) (hm : c ≤ maxLen) :
    Calls Tryd.prog 3 #[.slice a n c] w fun e w' => e = .returned (.bool true) ∧ Below w.heap.size w w' := by
  have hm' := hm
  unfold maxLen at hm'
  by_cases hn : 1048576 < n
  · have hd : decide ((1048576 : Int) < n) = true := by simp; omega
    go_enter Tryd.func3, Tryd.ntmps3
    go_wp2
    go_ret
    exact ⟨rfl, Below.refl _ _⟩
  · have hd : decide ((1048576 : Int) < n) = false := by simp; omega
    go_enter Tryd.func3, Tryd.ntmps3
    go_wp2_with fail
    refine (drawMailValid_any a n c w hc hnc hm).mono ?_
    rintro e w1 ⟨s, a1, n1, c1, b1, k1, d1, m, rfl, hv, hb1⟩
    have hA1 : Below w1.heap.size w1 (w1.alloc (.cells #[.string s, .slice a1 n1 c1, .slice b1 k1 d1] 25)) := (Below.refl _ _).alloc (Nat.le_refl _) _
    have HK1 := Lib.hid (MK3.new w1 (.string s) (.slice a1 n1 c1) (.slice b1 k1 d1) 25)
    have HV1 := Lib.hid (hv.below hA1)
    have hbA := nx hb1 hA1
    have HEN := Lib.hid (en.below hbA)
    have HN : Hid (n1 = m.to.length ∧ k1 = m.lines.length) := ⟨hv.2.1, hv.2.2.1⟩
    have HSZ : Hid (SmallM 50 m) := hv.2.2.2.2.2
    clear hv hb1 hA1 hc en
    have HMV : Hid (∀ u, Below (w1.alloc (.cells #[.string s, .slice a1 n1 c1, .slice b1 k1 d1] 25)).heap.size (w1.alloc (.cells #[.string s, .slice a1 n1 c1, .slice b1 k1 d1] 25)) u → Calls Tryd.prog 8 #[.agg #[.string s, .slice a1 n1 c1, .slice b1 k1 d1]] u fun e w' => e = .returned (.bool (isMail m)) ∧ Below u.heap.size u w') := fun u hu => (HV1.out.below hu).calls [] (fun x hx hr => hx ▸ mailValid_any 50 x u (HEN.out.below hu) hr (by omega))
    have HMVS : Hid (∀ u, Below (w1.alloc (.cells #[.string s, .slice a1 n1 c1, .slice b1 k1 d1] 25)).heap.size (w1.alloc (.cells #[.string s, .slice a1 n1 c1, .slice b1 k1 d1] 25)) u → Calls Tryd.prog 10 #[.agg #[.string s, .slice a1 n1 c1, .slice b1 k1 d1]] u fun e w' => e = .returned (.bool (isMail m)) ∧ Below u.heap.size u w') := fun u hu => (HV1.out.below hu).calls [] (fun x hx hr => hx ▸ mailValidS_any 50 x u hr (by omega))
    have HSP : Hid (∀ u, Below (w1.alloc (.cells #[.string s, .slice a1 n1 c1, .slice b1 k1 d1] 25)).heap.size (w1.alloc (.cells #[.string s, .slice a1 n1 c1, .slice b1 k1 d1] 25)) u → Calls Tryd.prog 9 #[.agg #[.string s, .slice a1 n1 c1, .slice b1 k1 d1]] u (SpkRet (speakM m) u)) := fun u hu => (HV1.out.below hu).calls [] (fun x hx hr => hx ▸ speakMail_any 50 x u (HEN.out.below hu) hr (by omega))
    have HK := Lib.hid (fun u hu => HK1.out.below (w' := u) hu)
    go_wp2_with fail
    generalize w1.alloc (.cells #[.string s, .slice a1 n1 c1, .slice b1 k1 d1] 25) = W1 at *
    have HSQ := Lib.hid (speak_long m)
    have hk50 : k1 ≤ 50 := HN.out.2 ▸ HSZ.out.2.2.2.1
    generalize isMail m = q at *
    obtain ⟨y0, y1, y2⟩ := HK.out _ (Below.refl _ _)
    refine (HMV.out _ (Below.refl _ _)).mono ?_
    rintro e w2 ⟨rfl, hb2⟩
    clear y0 y1 y2
    obtain ⟨y0, y1, y2⟩ := HK.out _ hb2
    go_wp2_with fail
    refine (HSP.out _ hb2).mono ?_
    rintro e w3 ⟨v3, rfl, _, hb3⟩
    have hb13 := nx hb2 hb3
    clear y0 y1 y2
    obtain ⟨y0, y1, y2⟩ := HK.out _ hb13
    rw [HSQ.out]
    clear HSQ HSP HMV
    have hqq : (q != q) = false := by simp
    cases q
    · go_wp2_with fail
      refine (HMVS.out _ hb13).mono ?_
      rintro e w4 ⟨rfl, hb4⟩
      have hb14 := nx hb13 hb4
      clear y0 y1 y2
      obtain ⟨y0, y1, y2⟩ := HK.out _ hb14
      go_wp2_with fail
      go_loopw [7, 8] (fun lv i w5 => ∃ k : Nat, k ≤ k1 ∧ i = .int .i64 k ∧ lv = .bool ((m.lines.take k).any longB) ∧ Below W1.heap.size W1 w5) (fun _ i _ => k1 - (intOf i).toNat)
      case atStart => exact ⟨0, Nat.zero_le _, rfl, by simp, hb14⟩
      case round =>
        clear y0 y1 y2
        obtain ⟨k, hk, rfl, rfl, hb⟩ := hrel
        obtain ⟨y0, y1, y2⟩ := HK.out _ hb
        by_cases hlt : k < k1
        · have hkx : k < m.lines.length := by have := HN.out.2; omega
          obtain ⟨b, off, hba, hbl, hcell⟩ := (HV1.out.below hb).2.2.2.2.1.1.2.resolve_left (by show ¬ m.lines.length = 0; omega)
          dsimp only at hba hcell
          subst hba
          have hc1 : wr.cell? ⟨b, off + k, none⟩ = some (.string (str m.lines[k])) := hcell k hkx
          have HTK := Lib.hid (any_take (P := longB) hkx)
          have hz : (str m.lines[k]).size = m.lines[k].length := str_size _
          have hzb : m.lines[k].length ≤ 50 := HSZ.out.2.2.2.2 _ (List.getElem_mem hkx)
          have HLB : Hid (longB m.lines[k] = false) := by show _ = _; unfold longB; rw [decide_eq_false (by omega)]; rfl
          have d2 : (((str m.lines[k]).size : Int) == 200) = false := by rw [beq_eq_false_iff_ne]; omega
          clear hcell hz hzb
          generalize str m.lines[k] = z at *
          generalize (m.lines.take k).any longB = lv at *
          have HNX : Hid (lv = (m.lines.take (k + 1)).any longB) := by show _ = _; rw [HTK.out, HLB.out, Bool.or_false]
          cases lv
          · go_wp2
            go_roundw
            case rel => exact ⟨k + 1, by omega, by go_num, by rw [← HNX.out], hb⟩
            case measure => simp [intOf]; omega
          · go_wp2
            go_roundw
            case rel => exact ⟨k + 1, by omega, by go_num, by rw [← HNX.out], hb⟩
            case measure => simp [intOf]; omega
        · have HT : Hid ((m.lines.take k).any longB = m.lines.any longB) := by show _ = _; rw [List.take_of_length_le (by have := HN.out.2; omega)]
          rw [HT.out]
          generalize m.lines.any longB = lb at *
          cases lb
          · go_wp2
            go_ret
            exact ⟨rfl, nx hbA hb⟩
          · go_wp2
            go_ret
            exact ⟨rfl, nx hbA hb⟩
    · go_wp2_with fail
      refine (HMVS.out _ hb13).mono ?_
      rintro e w4 ⟨rfl, hb4⟩
      have hb14 := nx hb13 hb4
      clear y0 y1 y2
      obtain ⟨y0, y1, y2⟩ := HK.out _ hb14
      generalize hLB : m.lines.any longB = lb at *
      cases lb
      · go_wp2_with fail
        go_loopw [7, 8] (fun lv i w5 => ∃ k : Nat, k ≤ k1 ∧ i = .int .i64 k ∧ lv = .bool ((m.lines.take k).any longB) ∧ Below W1.heap.size W1 w5) (fun _ i _ => k1 - (intOf i).toNat)
        case atStart => exact ⟨0, Nat.zero_le _, rfl, by simp, hb14⟩
        case round =>
          clear y0 y1 y2
          obtain ⟨k, hk, rfl, rfl, hb⟩ := hrel
          obtain ⟨y0, y1, y2⟩ := HK.out _ hb
          by_cases hlt : k < k1
          · have hkx : k < m.lines.length := by have := HN.out.2; omega
            obtain ⟨b, off, hba, hbl, hcell⟩ := (HV1.out.below hb).2.2.2.2.1.1.2.resolve_left (by show ¬ m.lines.length = 0; omega)
            dsimp only at hba hcell
            subst hba
            have hc1 : wr.cell? ⟨b, off + k, none⟩ = some (.string (str m.lines[k])) := hcell k hkx
            have HTK := Lib.hid (any_take (P := longB) hkx)
            have hz : (str m.lines[k]).size = m.lines[k].length := str_size _
            have hzb : m.lines[k].length ≤ 50 := HSZ.out.2.2.2.2 _ (List.getElem_mem hkx)
            have HLB : Hid (longB m.lines[k] = false) := by show _ = _; unfold longB; rw [decide_eq_false (by omega)]; rfl
            have d2 : (((str m.lines[k]).size : Int) == 200) = false := by rw [beq_eq_false_iff_ne]; omega
            clear hcell hz hzb
            generalize str m.lines[k] = z at *
            generalize (m.lines.take k).any longB = lv at *
            have HNX : Hid (lv = (m.lines.take (k + 1)).any longB) := by show _ = _; rw [HTK.out, HLB.out, Bool.or_false]
            cases lv
            · go_wp2
              go_roundw
              case rel => exact ⟨k + 1, by omega, by go_num, by rw [← HNX.out], hb⟩
              case measure => simp [intOf]; omega
            · go_wp2
              go_roundw
              case rel => exact ⟨k + 1, by omega, by go_num, by rw [← HNX.out], hb⟩
              case measure => simp [intOf]; omega
          · have HT : Hid ((m.lines.take k).any longB = m.lines.any longB) := by show _ = _; rw [List.take_of_length_le (by have := HN.out.2; omega)]
            rw [HT.out]
            rw [hLB]
            go_wp2
            go_ret
            exact ⟨rfl, nx hbA hb⟩
      · go_wp2_with fail
        go_loopw [7, 8] (fun lv i w5 => ∃ k : Nat, k ≤ k1 ∧ i = .int .i64 k ∧ lv = .bool ((m.lines.take k).any longB) ∧ Below W1.heap.size W1 w5) (fun _ i _ => k1 - (intOf i).toNat)
        case atStart => exact ⟨0, Nat.zero_le _, rfl, by simp, hb14⟩
        case round =>
          clear y0 y1 y2
          obtain ⟨k, hk, rfl, rfl, hb⟩ := hrel
          obtain ⟨y0, y1, y2⟩ := HK.out _ hb
          by_cases hlt : k < k1
          · have hkx : k < m.lines.length := by have := HN.out.2; omega
            obtain ⟨b, off, hba, hbl, hcell⟩ := (HV1.out.below hb).2.2.2.2.1.1.2.resolve_left (by show ¬ m.lines.length = 0; omega)
            dsimp only at hba hcell
            subst hba
            have hc1 : wr.cell? ⟨b, off + k, none⟩ = some (.string (str m.lines[k])) := hcell k hkx
            have HTK := Lib.hid (any_take (P := longB) hkx)
            have hz : (str m.lines[k]).size = m.lines[k].length := str_size _
            have hzb : m.lines[k].length ≤ 50 := HSZ.out.2.2.2.2 _ (List.getElem_mem hkx)
            have HLB : Hid (longB m.lines[k] = false) := by show _ = _; unfold longB; rw [decide_eq_false (by omega)]; rfl
            have d2 : (((str m.lines[k]).size : Int) == 200) = false := by rw [beq_eq_false_iff_ne]; omega
            clear hcell hz hzb
            generalize str m.lines[k] = z at *
            generalize (m.lines.take k).any longB = lv at *
            have HNX : Hid (lv = (m.lines.take (k + 1)).any longB) := by show _ = _; rw [HTK.out, HLB.out, Bool.or_false]
            cases lv
            · go_wp2
              go_roundw
              case rel => exact ⟨k + 1, by omega, by go_num, by rw [← HNX.out], hb⟩
              case measure => simp [intOf]; omega
            · go_wp2
              go_roundw
              case rel => exact ⟨k + 1, by omega, by go_num, by rw [← HNX.out], hb⟩
              case measure => simp [intOf]; omega
          · have HT : Hid ((m.lines.take k).any longB = m.lines.any longB) := by show _ = _; rw [List.take_of_length_le (by have := HN.out.2; omega)]
            rw [HT.out]
            rw [hLB]
            go_wp2
            go_ret
            exact ⟨rfl, nx hbA hb⟩
end Go.Proofs.YtdddmclhafbfoaaDoor
