/-
  Lists of words: what the verifier's functions that split return. No statement is proved here.
-/
import Derived.Test.YtjnpkmenlecdmabDoorSplit
namespace Go.Proofs.YtjnpkmenlecdmabDoor
open Go.RowKit

theorem goesS_space {s : ByteArray} {k : Nat} {acc : List (List UInt8)} (h : goesS s k acc) (hk : k < s.size) (hc : s[k] = 32) : goesS s (k + 1) acc := by
  unfold goesS at h ⊢; rw [h, drop_at s k hk, hc, splitW_space]
/-- What splitting leaves: the words, and whether all stands so. -/
def WordsRet (s : ByteArray) (w : World) (e : Ending) (w' : World) : Prop := ∃ v, e = .returned (.tuple #[v, .bool (splitW s.data.toList).isSome]) ∧ OwnL w.heap.size v ((splitW s.data.toList).getD []) w' ∧ Below w.heap.size w w'
theorem wordsRet_none {s : ByteArray} {w w' : World} (h : splitW s.data.toList = none) (hb : Below w.heap.size w w') : WordsRet s w (.returned (.tuple #[.slice (some ⟨w'.heap.size, 0, none⟩) 0 0, .bool false])) (w'.alloc (.cells #[] 9)) :=
  ⟨_, by rw [h]; rfl, by rw [h]; exact (OwnL.empty w').base hb.size, hb.alloc hb.size _⟩
theorem wordsRet_some {s : ByteArray} {w w' : World} {v : Value} {xs : List (List UInt8)} (h : splitW s.data.toList = some xs) (ho : OwnL w.heap.size v xs w') (hb : Below w.heap.size w w') : WordsRet s w (.returned (.tuple #[v, .bool true])) w' :=
  ⟨v, by rw [h]; rfl, by rw [h]; exact ho, hb⟩
set_option maxRecDepth 100000 in
set_option maxHeartbeats 8000000 in
theorem l1Words_any (s : ByteArray) (w : World) (hs : s.size ≤ 1073741824) :
    Calls Tryd.prog 39 #[.string s] w (WordsRet s w) := by
  obtain ⟨i0, hi, hz0, hz1, hz2⟩ := info_parts sInfo
  go_enter Tryd.func39, Tryd.ntmps39
  go_wp2_with fail
  go_loopw [4, 5] (fun v i wr => ∃ (k : Nat) (acc : List (List UInt8)), k ≤ s.size ∧ i = .int .i64 k ∧ acc.length ≤ k ∧ goesS s k acc ∧ OwnL w.heap.size v acc wr ∧ Below w.heap.size w wr) (fun _ i _ => s.size - (intOf i).toNat)
  case atStart => exact ⟨0, [], Nat.zero_le _, rfl, Nat.zero_le _, goesS_start s, OwnL.empty w, (Below.refl _ _).alloc (Nat.le_refl _) _⟩
  case round =>
    obtain ⟨k, acc, hk, rfl, hal, hg, hown, hb⟩ := hrel
    have HG := Lib.hid hg
    clear hg
    by_cases hlt : k < s.size
    · by_cases hc32 : s[k] = 32
      · have HN := Lib.hid (goesS_space HG.out hlt hc32)
        have e1 := beq_t hc32 (n := 32) rfl
        clear hc32
        go_wp2
        go_roundw
        case rel => exact ⟨k + 1, acc, by omega, by go_num, by omega, HN.out, hown, hb⟩
        case measure => simp [intOf]; omega
      · have e1 := beq_f hc32 (n := 32) rfl
        have HC := Lib.hid hc32
        clear hc32
        by_cases h34 : s[k] = 34
        · have HW : Hid (wordAt (s.data.toList.drop k) = (readQ (s.data.toList.drop (k + 1))).map fun x => (x.1, (s.data.toList.drop (k + 1)).length + 1 - x.2.length)) := by
            show _ = _
            rw [drop_at s k hlt, h34, wordAt_cons, if_pos rfl]
          have e2 := beq_t h34 (n := 34) rfl
          clear h34
          go_wp2_with fail
          refine (l1Read_any s k _ hlt hs).mono ?_
          rintro e w1 ⟨hy, hno, rfl⟩
          cases hr : readQ (s.data.toList.drop (k + 1))
          · obtain rfl := hno hr
            have HR : Hid (splitW s.data.toList = none) := by show _ = _; exact goesS_none HG.out hlt HC.out (by rw [HW.out, hr]; rfl)
            clear hy hno hr
            go_wp2
            go_ret2
            exact wordsRet_none HR.out hb
          · rename_i x
            obtain ⟨t, r⟩ := x
            obtain rfl := hy t r hr
            have hbd := readQ_bound _ _ _ hr
            rw [List.length_drop, size_list] at hbd
            obtain ⟨j, hjd⟩ : ∃ j, s.size - r.length = k + j := ⟨s.size - r.length - k, by omega⟩
            have HS : Hid (wordAt (s.data.toList.drop k) = some (t, j)) := by
              show _ = _
              rw [HW.out, hr, List.length_drop, size_list]
              simp only [Option.map_some]
              congr 2; omega
            have hj1 : 1 ≤ j ∧ k + j ≤ s.size := by omega
            rw [hjd]
            clear hy hno hr hbd hjd
            have e3 : (((k + j : Nat) : Int) == (k : Int)) = false := by rw [beq_eq_false_iff_ne]; omega
            have hneg : decide (((k + j : Nat) : Int) < 0) = false := by simp; omega
            have hown1 := hown
            unfold OwnL at hown1
            by_cases hj : k + j < s.size
            · by_cases h32 : s[k + j] = 32
              · have HN := Lib.hid (goesS_word HG.out hlt HC.out HS.out (.inr ⟨hj, h32⟩))
                have e6 : ((s[k + j].toNat : Int) != 32) = false := by rw [h32]; rfl
                clear h32
                go_wp2_with (at_builtin; refine wpList_append_own _ rfl _ _ 22 rfl w.heap.size 9 i0 (.string ⟨#[]⟩) 1 16 Tryd.underlying22 hi hz0 hz1 hz2 rfl (by decide) _ _ _ rfl (hown1.alloc _) ⟨wr.heap.size, 0, none⟩ 1 1 [.string (str t)] rfl rfl ?q11 ?q12 ?q13 ?q14 ?q15 ?_)
                case q11 =>
                  intro u v hj
                  match u, hj with
                  | 0, hj => simp at hj; subst hj; simp [Addr.add]
                case q12 => intro u hu; simp at hu; subst hu; rfl
                case q13 => unfold maxLen; omega
                case q14 => omega
                case q15 => have := hb.size; simp; omega
                intro v' w2 hown' hgrow _
                have hO2 : OwnL w.heap.size v' (acc ++ [t]) w2 := by unfold OwnL; simpa [strV] using hown'
                have hb3 : Below w.heap.size w w2 := (hb.alloc (by have := hb.size; omega) _).grown hgrow (by have := hb.size; simp; omega) (fun k hk => (hown1.lt k hk).1)
                go_wp2
                go_roundw
                case rel => exact ⟨k + j, _, by omega, by go_num, by simp; omega, HN.out, hO2, hb3⟩
                case measure => simp [intOf]; omega
              · have HR := Lib.hid (goesS_stuck HG.out hlt HC.out HS.out hj h32)
                have e6 : ((s[k + j].toNat : Int) != 32) = true := by rw [bne_iff_ne]; intro e; exact h32 (UInt8.toNat_inj.1 (by simp; omega))
                clear h32
                go_wp2
                go_ret2
                exact wordsRet_none HR.out hb
            · have HN := Lib.hid (goesS_word HG.out hlt HC.out HS.out (.inl (by omega)))
              go_wp2_with (at_builtin; refine wpList_append_own _ rfl _ _ 22 rfl w.heap.size 9 i0 (.string ⟨#[]⟩) 1 16 Tryd.underlying22 hi hz0 hz1 hz2 rfl (by decide) _ _ _ rfl (hown1.alloc _) ⟨wr.heap.size, 0, none⟩ 1 1 [.string (str t)] rfl rfl ?q16 ?q17 ?q18 ?q19 ?q110 ?_)
              case q17 => rfl
              case q18 => unfold maxLen; omega
              case q19 => omega
              case q110 => have := hb.size; simp; omega
              intro v' w2 hown' hgrow _
              have hO2 : OwnL w.heap.size v' (acc ++ [t]) w2 := by unfold OwnL; simpa [strV] using hown'
              have hb3 : Below w.heap.size w w2 := (hb.alloc (by have := hb.size; omega) _).grown hgrow (by have := hb.size; simp; omega) (fun k hk => (hown1.lt k hk).1)
              go_wp2
              go_roundw
              case rel => exact ⟨k + j, _, by omega, by go_num, by simp; omega, HN.out, hO2, hb3⟩
              case measure => simp [intOf]; omega
        · have HW : Hid (wordAt (s.data.toList.drop k) = if run atomB (s.data.toList.drop k) = 0 then none else some ((s.data.toList.drop k).take (run atomB (s.data.toList.drop k)), run atomB (s.data.toList.drop k))) := by
            show _ = _
            have := drop_at s k hlt
            rw [this, wordAt_cons, if_neg h34]
          have e2 := beq_f h34 (n := 34) rfl
          have hrl := run_le atomB (s.data.toList.drop k)
          rw [List.length_drop, size_list] at hrl
          clear h34
          go_wp2_with fail
          obtain ⟨wo, rfl⟩ : ∃ wo : World, wo = wr := ⟨_, rfl⟩
          go_loop [5] (fun i => ∃ k2 : Nat, k ≤ k2 ∧ k2 ≤ s.size ∧ i = .int .i64 k2 ∧ atomTo s k = atomTo s k2) (fun i => s.size - (intOf i).toNat)
          case atStart => exact ⟨k, Nat.le_refl _, by omega, rfl, rfl⟩
          case round =>
            obtain ⟨k2, hk2, hk3, rfl, he⟩ := hrel
            have HE0 := Lib.hid he
            clear he
            by_cases hlt2 : k2 < s.size
            · have hr := run_at atomB s k2 hlt2
              cases ha : atomB s[k2]
              · have HE : Hid (atomTo s k = k2) := by rw [ha] at hr; show _ = _; rw [HE0.out]; unfold atomTo; rw [hr]; simp
                have HB := Lib.hid ha
                clear ha hr
                go_wp2_with fail
                refine (l1Atom_any s[k2] _).mono ?_
                rintro e w1 ⟨rfl, rfl⟩
                rw [HB.out]
                have HK : Hid (run atomB (s.data.toList.drop k) = k2 - k) := by show _ = _; have := HE.out; unfold atomTo at this; omega
                by_cases hz : k2 = k
                · have HR : Hid (splitW s.data.toList = none) := by show _ = _; exact goesS_none HG.out hlt HC.out (by rw [HW.out, HK.out, if_pos (by omega)])
                  have e3 : ((k2 : Int) == (k : Int)) = true := by rw [beq_iff_eq]; omega
                  go_wp2
                  go_ret2
                  exact wordsRet_none HR.out hb
                · obtain ⟨j, hjd⟩ : ∃ j, k2 = k + j := ⟨k2 - k, by omega⟩
                  subst hjd
                  obtain ⟨t, htd⟩ : ∃ t, t = (s.data.toList.drop k).take j := ⟨_, rfl⟩
                  have HS : Hid (wordAt (s.data.toList.drop k) = some (t, j)) := by
                    show _ = _
                    rw [HW.out, HK.out, if_neg (by omega), show k + j - k = j by omega, htd]
                  have HX : Hid (s.extract k (k + j) = str t) := by
                    show _ = _
                    apply bytes_ext; rw [Lib.extract_data, str_list, show k + j - k = j by omega, htd]
                  have e3 : (((k : Int) + (j : Int)) == (k : Int)) = false := by rw [beq_eq_false_iff_ne]; omega
                  have hj1 : 1 ≤ j ∧ k + j ≤ s.size := by omega
                  clear htd
                  have hown1 := hown
                  unfold OwnL at hown1
                  have hj : k + j < s.size := by omega
                  by_cases h32 : s[k + j] = 32
                  · have HN := Lib.hid (goesS_word HG.out hlt HC.out HS.out (.inr ⟨hj, h32⟩))
                    have e6 : ((s[k + j].toNat : Int) != 32) = false := by rw [h32]; rfl
                    clear h32
                    go_wp2_with (at_builtin; refine wpList_append_own _ rfl _ _ 22 rfl w.heap.size 9 i0 (.string ⟨#[]⟩) 1 16 Tryd.underlying22 hi hz0 hz1 hz2 rfl (by decide) _ _ _ rfl (hown1.alloc _) ⟨wo.heap.size, 0, none⟩ 1 1 [.string (s.extract k (k + j))] rfl rfl ?q21 ?q22 ?q23 ?q24 ?q25 ?_)
                    case q21 =>
                      intro u v hj
                      match u, hj with
                      | 0, hj => simp at hj; subst hj; simp [Addr.add]
                    case q22 => intro u hu; simp at hu; subst hu; rfl
                    case q23 => unfold maxLen; omega
                    case q24 => omega
                    case q25 => have := hb.size; simp; omega
                    intro v' w2 hown' hgrow _
                    have hO2 : OwnL w.heap.size v' (acc ++ [t]) w2 := by unfold OwnL; simpa [strV, HX.out] using hown'
                    have hb3 : Below w.heap.size w w2 := (hb.alloc (by have := hb.size; omega) _).grown hgrow (by have := hb.size; simp; omega) (fun k hk => (hown1.lt k hk).1)
                    go_wp2
                    go_roundw
                    case rel => exact ⟨k + j, _, by omega, by go_num, by simp; omega, HN.out, hO2, hb3⟩
                    case measure => simp [intOf]; omega
                  · have HR := Lib.hid (goesS_stuck HG.out hlt HC.out HS.out hj h32)
                    have e6 : ((s[k + j].toNat : Int) != 32) = true := by rw [bne_iff_ne]; intro e; exact h32 (UInt8.toNat_inj.1 (by simp; omega))
                    clear h32
                    go_wp2
                    go_ret2
                    exact wordsRet_none HR.out hb
              · have HR : Hid (atomTo s k = atomTo s (k2 + 1)) := by rw [ha] at hr; show _ = _; rw [HE0.out]; unfold atomTo; rw [hr]; simp; omega
                have HB := Lib.hid ha
                clear ha hr
                go_wp2_with fail
                refine (l1Atom_any s[k2] _).mono ?_
                rintro e w1 ⟨rfl, rfl⟩
                rw [HB.out]
                go_wp2
                go_round
                case rel => exact ⟨k2 + 1, by omega, by omega, by go_num, HR.out⟩
                case measure => simp [intOf]; omega
            · have HE : Hid (atomTo s k = k2) := by show _ = _; rw [HE0.out]; unfold atomTo; rw [run_out _ _ _ (by omega)]; rfl
              have HK : Hid (run atomB (s.data.toList.drop k) = k2 - k) := by show _ = _; have := HE.out; unfold atomTo at this; omega
              have hz : k2 ≠ k := by omega
              obtain ⟨j, hjd⟩ : ∃ j, k2 = k + j := ⟨k2 - k, by omega⟩
              subst hjd
              obtain ⟨t, htd⟩ : ∃ t, t = (s.data.toList.drop k).take j := ⟨_, rfl⟩
              have HS : Hid (wordAt (s.data.toList.drop k) = some (t, j)) := by
                show _ = _
                rw [HW.out, HK.out, if_neg (by omega), show k + j - k = j by omega, htd]
              have HX : Hid (s.extract k (k + j) = str t) := by
                show _ = _
                apply bytes_ext; rw [Lib.extract_data, str_list, show k + j - k = j by omega, htd]
              have e3 : (((k : Int) + (j : Int)) == (k : Int)) = false := by rw [beq_eq_false_iff_ne]; omega
              have hj1 : 1 ≤ j ∧ k + j ≤ s.size := by omega
              clear htd
              have hown1 := hown
              unfold OwnL at hown1
              have hj : ¬ k + j < s.size := by omega
              have HN := Lib.hid (goesS_word HG.out hlt HC.out HS.out (.inl (by omega)))
              go_wp2_with (at_builtin; refine wpList_append_own _ rfl _ _ 22 rfl w.heap.size 9 i0 (.string ⟨#[]⟩) 1 16 Tryd.underlying22 hi hz0 hz1 hz2 rfl (by decide) _ _ _ rfl (hown1.alloc _) ⟨wo.heap.size, 0, none⟩ 1 1 [.string (s.extract k (k + j))] rfl rfl ?q36 ?q37 ?q38 ?q39 ?q310 ?_)
              case q37 => rfl
              case q38 => unfold maxLen; omega
              case q39 => omega
              case q310 => have := hb.size; simp; omega
              intro v' w2 hown' hgrow _
              have hO2 : OwnL w.heap.size v' (acc ++ [t]) w2 := by unfold OwnL; simpa [strV, HX.out] using hown'
              have hb3 : Below w.heap.size w w2 := (hb.alloc (by have := hb.size; omega) _).grown hgrow (by have := hb.size; simp; omega) (fun k hk => (hown1.lt k hk).1)
              go_wp2
              go_roundw
              case rel => exact ⟨k + j, _, by omega, by go_num, by simp; omega, HN.out, hO2, hb3⟩
              case measure => simp [intOf]; omega
    · have HR := Lib.hid (goesS_end HG.out (by omega))
      go_wp2
      go_ret2
      exact wordsRet_some HR.out hown hb
theorem splitRet_mk {s : ByteArray} {w w' : World} {v : Value} (h : fullW s.data.toList = splitW s.data.toList) (ho : OwnL w.heap.size v ((splitW s.data.toList).getD []) w') (hb : Below w.heap.size w w') : SplitRet s w (.returned (.tuple #[v, .bool (splitW s.data.toList).isSome])) w' :=
  ⟨v, by unfold spO; rw [h], by unfold spL; rw [h]; exact ho, hb⟩
set_option maxRecDepth 100000 in
set_option maxHeartbeats 1000000 in
theorem splitWordsS_any (s : ByteArray) (w : World) (hs : s.size ≤ 1073741824) :
    Calls Tryd.prog 10 #[.string s] w (SplitRet s w) := by
  cases htx : isText s.data.toList
  · have HF := Lib.hid (fullW_no htx)
    have HX := Lib.hid htx
    clear htx
    go_enter Tryd.func10, Tryd.ntmps10
    go_wp2_with fail
    refine (textValidS_any s _ (by unfold maxLen; omega)).mono ?_
    rintro e w1 ⟨rfl, rfl⟩
    rw [HX.out]
    go_wp2
    go_ret2
    exact splitRet_none HF.out (OwnL.empty _) ((Below.refl _ _).alloc (Nat.le_refl _) _)
  · have HF := Lib.hid (fullW_text htx)
    have HX := Lib.hid htx
    clear htx
    go_enter Tryd.func10, Tryd.ntmps10
    go_wp2_with fail
    refine (textValidS_any s _ (by unfold maxLen; omega)).mono ?_
    rintro e w1 ⟨rfl, rfl⟩
    rw [HX.out]
    go_wp2_with fail
    refine (l1Words_any s _ hs).mono ?_
    rintro e w1 ⟨v, rfl, ho, hb⟩
    go_wp2
    go_ret2
    exact splitRet_mk HF.out ho hb
end Go.Proofs.YtjnpkmenlecdmabDoor
