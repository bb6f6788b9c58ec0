/-
  Lists of words: what the program's functions that join return. No statement is proved here.
-/
import Derived.Test.YtjnpkmenlecdmabDoorSplit
namespace Go.Proofs.YtjnpkmenlecdmabDoor
open Go.RowKit

theorem joinAll_succ (xs : List (List UInt8)) (k : Nat) (h : k < xs.length) : joinAll (xs.take (k + 1)) = if k = 0 then quoteW xs[k] else joinAll (xs.take k) ++ 32 :: quoteW xs[k] := by
  rw [List.take_succ_eq_append_getElem h, joinAll_snoc]
  by_cases hk : k = 0
  · subst hk; simp
  · rw [if_neg hk, if_neg (by intro e; have h2 : (xs.take k).length = 0 := (by rw [e]; rfl); rw [List.length_take] at h2; omega)]
theorem joinW_bad {xs : List (List UInt8)} {k : Nat} (h : k < xs.length) (hx : isText xs[k] = false) : joinW xs = [] := by
  unfold joinW
  rw [if_neg]
  rw [Bool.and_eq_true, List.all_eq_true]
  intro hc
  have := hc.1 _ (List.getElem_mem h)
  rw [hx] at this; cases this
theorem joinW_long {xs : List (List UInt8)} {k : Nat} (h : 200 < (joinAll (xs.take k)).length) : joinW xs = [] := by
  unfold joinW
  rw [if_neg]
  rw [Bool.and_eq_true, decide_eq_true_eq]
  intro hc
  have := joinAll_take xs k
  omega
theorem joinW_all {xs : List (List UInt8)} (h : ∀ j, (hj : j < xs.length) → isText xs[j] = true) (hl : (joinAll xs).length ≤ 200) : joinW xs = joinAll xs := by
  unfold joinW
  rw [if_pos]
  rw [Bool.and_eq_true, decide_eq_true_eq, List.all_eq_true]
  refine ⟨fun x hx => ?_, hl⟩
  obtain ⟨j, hj, rfl⟩ := List.getElem_of_mem hx
  exact h j hj
theorem take_full {α : Type} (xs : List α) : xs.take xs.length = xs := List.take_length
set_option maxRecDepth 100000 in
set_option maxHeartbeats 4000000 in
theorem joinWords_any (a : Option Addr) (n c : Nat) (xs : List (List UInt8)) (w : World) (tab : Tab w) (hr : RdL w a n xs) (hn : n ≤ 1073741824) (hx : ∀ j, (h : j < xs.length) → xs[j].length ≤ 1073741824) :
    Calls Tryd.prog 18 #[.slice a n c] w fun e w' => e = .returned (.string (str (joinW xs))) ∧ Below w.heap.size w w' := by
  obtain ⟨hlen, hr2⟩ := hr
  by_cases h0 : n = 0
  · subst h0
    have hxs : xs = [] := List.length_eq_zero_iff.1 hlen
    subst hxs
    clear hr2 hx hlen
    go_enter Tryd.func18, Tryd.ntmps18
    go_wp2_with fail
    go_loopw [8] (fun i wr => i = .int .i64 0 ∧ Below w.heap.size w wr ∧ Bld w.heap.size w.heap.size [] wr) (fun _ _ => 0)
    case atStart => exact ⟨rfl, (Below.refl _ _).alloc (Nat.le_refl _) _, bld_fresh w⟩
    case round =>
      obtain ⟨rfl, hb, hB⟩ := hrel
      go_wp2_with fail
      refine (bString_any _ _ _ _ hB).mono ?_
      rintro e w1 ⟨rfl, hb1⟩
      go_wp2
      go_ret
      exact ⟨rfl, hb.trans hb1⟩
  · obtain ⟨b, off, rfl, hbl, hcell⟩ := hr2.resolve_left h0
    have HCELL := Lib.hid hcell
    have HLEN := Lib.hid hlen
    have HXX := Lib.hid hx
    clear hr2 h0 hcell hlen hx
    go_enter Tryd.func18, Tryd.ntmps18
    go_wp2_with fail
    go_loopw [8] (fun i wr => ∃ k : Nat, k ≤ n ∧ i = .int .i64 k ∧ Below w.heap.size w wr ∧ Bld w.heap.size w.heap.size (joinAll (xs.take k)) wr ∧ (joinAll (xs.take k)).length ≤ 200 ∧ (∀ j, j < k → (hj : j < xs.length) → isText xs[j] = true)) (fun i _ => n - (intOf i).toNat)
    case atStart => exact ⟨0, Nat.zero_le _, rfl, (Below.refl _ _).alloc (Nat.le_refl _) _, bld_fresh w, by simp [joinAll], fun j h => by omega⟩
    case round =>
      obtain ⟨k, hk, rfl, hb, hB, hjl, hall⟩ := hrel
      have HALL := Lib.hid hall
      clear hall
      by_cases hlt : k < n
      · have hkx : k < xs.length := by rw [HLEN.out]; exact hlt
        have hc1 : wr.cell? ⟨b, off + k, none⟩ = some (.string (str xs[k])) := by rw [below_at hb hbl]; exact HCELL.out k hkx
        have hxl := HXX.out k hkx
        have hsz := str_size xs[k]
        have HJ := Lib.hid (joinAll_succ xs k hkx)
        cases htx : isText xs[k]
        · have HR := Lib.hid (joinW_bad hkx htx)
          have HX := Lib.hid htx
          clear htx
          go_wp2_with fail
          refine (textValid_any _ _ (by unfold maxLen; omega)).mono ?_
          rintro e w1 ⟨rfl, rfl⟩
          rw [str_list, HX.out]
          go_wp2
          go_ret
          exact ⟨ret_str (by rw [HR.out]; rfl), hb⟩
        · have HX := Lib.hid htx
          have hql := quoteW_len xs[k]
          rw [← str_size] at hql
          clear htx
          go_wp2_with fail
          refine (textValid_any _ _ (by unfold maxLen; omega)).mono ?_
          rintro e w1 ⟨rfl, rfl⟩
          rw [str_list, HX.out]
          by_cases hk0 : k = 0
          · have d0 : ¬ 0 < k := by omega
            have HJ2 : Hid (joinAll (xs.take k) ++ quoteW xs[k] = joinAll (xs.take (k + 1))) := by
              show _ = _
              rw [HJ.out, if_pos hk0]; subst hk0; rfl
            clear hk0
            go_wp2_with fail
            refine (quoteWord_any _ _ (tab.below hb) (by omega)).mono ?_
            rintro e w2 ⟨rfl, hb2⟩
            rw [str_list]
            go_wp2_with fail
            refine (writeString_any _ _ _ _ _ (hB.keep hb2) (by omega)).mono ?_
            rintro e w3 ⟨rfl, hB3, hb3⟩
            rw [str_list, HJ2.out] at hB3
            go_wp2_with fail
            refine (bLen_any _ _ _ _ hB3).mono ?_
            rintro e w4 ⟨rfl, rfl⟩
            have hb5 := (nx hb hb2).trans hb3
            by_cases h200 : 200 < (joinAll (xs.take (k + 1))).length
            · have HR := Lib.hid (joinW_long h200)
              have d2 : decide ((200 : Int) < ((joinAll (xs.take (k + 1))).length : Int)) = true := by simp; omega
              clear h200
              go_wp2
              go_ret
              exact ⟨ret_str (by rw [HR.out]; rfl), hb5⟩
            · have d2 : decide ((200 : Int) < ((joinAll (xs.take (k + 1))).length : Int)) = false := by simp; omega
              have HL := Lib.hid (Nat.le_of_not_lt h200)
              clear h200
              go_wp2
              go_roundw
              case rel => exact ⟨k + 1, by omega, by go_num, hb5, hB3, HL.out, fun j h hj => by
                by_cases e : j = k
                · subst e; exact HX.out
                · exact HALL.out j (by omega) hj⟩
              case measure => simp [intOf]; omega
          · have d0 : 0 < k := by omega
            have HJ2 : Hid (joinAll (xs.take k) ++ [32] ++ quoteW xs[k] = joinAll (xs.take (k + 1))) := by
              show _ = _
              rw [HJ.out, if_neg hk0]; simp
            clear hk0
            go_wp2_with fail
            refine (writeByte_any _ _ _ 32 _ hB (by omega)).mono ?_
            rintro e w1 ⟨rfl, hB1, hb1⟩
            have hb1' := hb.trans hb1
            go_wp2_with fail
            refine (quoteWord_any _ _ (tab.below hb1') (by omega)).mono ?_
            rintro e w2 ⟨rfl, hb2⟩
            rw [str_list]
            go_wp2_with fail
            refine (writeString_any _ _ _ _ _ (hB1.keep hb2) (by simp only [List.length_append, List.length_singleton]; omega)).mono ?_
            rintro e w3 ⟨rfl, hB3, hb3⟩
            rw [str_list, HJ2.out] at hB3
            go_wp2_with fail
            refine (bLen_any _ _ _ _ hB3).mono ?_
            rintro e w4 ⟨rfl, rfl⟩
            have hb5 := (nx hb1' hb2).trans hb3
            by_cases h200 : 200 < (joinAll (xs.take (k + 1))).length
            · have HR := Lib.hid (joinW_long h200)
              have d2 : decide ((200 : Int) < ((joinAll (xs.take (k + 1))).length : Int)) = true := by simp; omega
              clear h200
              go_wp2
              go_ret
              exact ⟨ret_str (by rw [HR.out]; rfl), hb5⟩
            · have d2 : decide ((200 : Int) < ((joinAll (xs.take (k + 1))).length : Int)) = false := by simp; omega
              have HL := Lib.hid (Nat.le_of_not_lt h200)
              clear h200
              go_wp2
              go_roundw
              case rel => exact ⟨k + 1, by omega, by go_num, hb5, hB3, HL.out, fun j h hj => by
                by_cases e : j = k
                · subst e; exact HX.out
                · exact HALL.out j (by omega) hj⟩
              case measure => simp [intOf]; omega
      · have hkn : k = xs.length := by rw [HLEN.out]; omega
        have HT : Hid (joinAll (xs.take k) = joinAll xs) := by show _ = _; rw [hkn, take_full]
        have HR : Hid (joinW xs = joinAll xs) := by
          show _ = _
          exact joinW_all (fun j hj => HALL.out j (by omega) hj) (by rw [← HT.out]; exact hjl)
        rw [HT.out] at hB
        clear hkn
        go_wp2_with fail
        refine (bString_any _ _ _ _ hB).mono ?_
        rintro e w1 ⟨rfl, hb1⟩
        go_wp2
        go_ret
        exact ⟨ret_str (by rw [HR.out]), hb.trans hb1⟩
theorem joinAll_low (xs : List (List UInt8)) : ∀ k, k ≤ xs.length → (∀ j, j < k → (hj : j < xs.length) → isText xs[j] = true) → 2 * k ≤ (joinAll (xs.take k)).length + 1
  | 0, _, _ => by omega
  | k + 1, hk, h => by
    have ih := joinAll_low xs k (by omega) (fun j hj hj2 => h j (by omega) hj2)
    have hq := List.length_pos_iff.2 (quoteW_ne (h k (by omega) (by omega)))
    rw [joinAll_succ xs k (by omega)]
    by_cases hk0 : k = 0
    · subst hk0; rw [if_pos rfl]; omega
    · rw [if_neg hk0]; simp only [List.length_append, List.length_cons]; omega
set_option maxRecDepth 100000 in
set_option maxHeartbeats 4000000 in
theorem joinWordsS_any (a : Option Addr) (n c : Nat) (xs : List (List UInt8)) (w : World) (hr : RdL w a n xs) (hn : n ≤ 1073741824) (hx : ∀ j, (h : j < xs.length) → xs[j].length ≤ 1073741824) :
    Calls Tryd.prog 16 #[.slice a n c] w fun e w' => e = .returned (.string (str (joinW xs))) ∧ Below w.heap.size w w' := by
  obtain ⟨hlen, hr2⟩ := hr
  by_cases h0 : n = 0
  · subst h0
    have hxs : xs = [] := List.length_eq_zero_iff.1 hlen
    subst hxs
    clear hr2 hx hlen
    go_enter Tryd.func16, Tryd.ntmps16
    go_wp2_with fail
    go_loop [3, 4] (fun v i => i = .int .i64 0 ∧ v = .string ⟨#[]⟩) (fun _ _ => 0)
    case atStart => exact ⟨rfl, rfl⟩
    case round =>
      obtain ⟨rfl, rfl⟩ := hrel
      go_wp2
      go_ret
      exact ⟨rfl, Below.refl _ _⟩
  · obtain ⟨b, off, rfl, hbl, hcell⟩ := hr2.resolve_left h0
    have HCELL := Lib.hid hcell
    have HLEN := Lib.hid hlen
    have HXX := Lib.hid hx
    clear hr2 h0 hcell hlen hx
    go_enter Tryd.func16, Tryd.ntmps16
    go_wp2_with fail
    go_loopw [3, 4] (fun v i wr => ∃ (k : Nat) (o : ByteArray), k ≤ n ∧ i = .int .i64 k ∧ v = .string o ∧ o.data.toList = joinAll (xs.take k) ∧ o.size ≤ 200 ∧ Below w.heap.size w wr ∧ (∀ j, j < k → (hj : j < xs.length) → isText xs[j] = true)) (fun _ i _ => n - (intOf i).toNat)
    case atStart => exact ⟨0, _, Nat.zero_le _, rfl, rfl, rfl, by decide, Below.refl _ _, fun j h => by omega⟩
    case round =>
      obtain ⟨k, o, hk, rfl, rfl, hol, hos, hb, hall⟩ := hrel
      have HOL := Lib.hid hol
      have HALL := Lib.hid hall
      have hlow := joinAll_low xs k (by rw [HLEN.out]; exact hk) hall
      rw [← hol, size_list] at hlow
      have d9 : decide ((k : Int) ≤ 200) = true := by simp; omega
      clear hall hol
      by_cases hlt : k < n
      · have hkx : k < xs.length := by rw [HLEN.out]; exact hlt
        have hc1 : wr.cell? ⟨b, off + k, none⟩ = some (.string (str xs[k])) := by rw [below_at hb hbl]; exact HCELL.out k hkx
        have hxl := HXX.out k hkx
        have hsz := str_size xs[k]
        have HJ := Lib.hid (joinAll_succ xs k hkx)
        cases htx : isText xs[k]
        · have HR := Lib.hid (joinW_bad hkx htx)
          have HX := Lib.hid htx
          clear htx
          go_wp2_with fail
          refine (textValidS_any _ _ (by unfold maxLen; omega)).mono ?_
          rintro e w1 ⟨rfl, rfl⟩
          rw [str_list, HX.out]
          go_wp2
          go_ret
          exact ⟨ret_str (by rw [HR.out]; rfl), hb⟩
        · have HX := Lib.hid htx
          have hql := quoteW_len xs[k]
          rw [← str_size] at hql
          clear htx
          go_wp2_with fail
          refine (textValidS_any _ _ (by unfold maxLen; omega)).mono ?_
          rintro e w1 ⟨rfl, rfl⟩
          rw [str_list, HX.out]
          by_cases hk0 : k = 0
          · have d0 : ¬ 0 < k := by omega
            have HJ2 : Hid ((o ++ str (quoteW xs[k])).data.toList = joinAll (xs.take (k + 1))) := by
              show _ = _
              rw [Joins.data_append, str_list, HOL.out, HJ.out, if_pos hk0]; subst hk0; rfl
            clear hk0
            go_wp2_with fail
            have hc2 : wr.cell? ⟨b, off + k, none⟩ = some (.string (str xs[k])) := hc1
            refine (quoteWordS_any _ _ (by omega)).mono ?_
            rintro e w2 ⟨rfl, hb2⟩
            rw [str_list]
            have hb5 := nx hb hb2
            by_cases h200 : 200 < (o ++ str (quoteW xs[k])).size
            · have HR : Hid (joinW xs = []) := by show _ = _; exact joinW_long (k := k + 1) (by rw [← HJ2.out, size_list]; exact h200)
              rw [ByteArray.size_append] at h200
              go_wp2
              go_ret
              exact ⟨ret_str (by rw [HR.out]; rfl), hb5⟩
            · have HL := Lib.hid (Nat.le_of_not_lt h200)
              rw [ByteArray.size_append] at h200
              go_wp2
              go_roundw
              case rel => exact ⟨k + 1, _, by omega, by go_num, rfl, HJ2.out, HL.out, hb5, fun j h hj => by
                by_cases e : j = k
                · subst e; exact HX.out
                · exact HALL.out j (by omega) hj⟩
              case measure => simp [intOf]; omega
          · have d0 : 0 < k := by omega
            have HJ2 : Hid ((o ++ ⟨#[32]⟩ ++ str (quoteW xs[k])).data.toList = joinAll (xs.take (k + 1))) := by
              show _ = _
              rw [Joins.data_append, Joins.data_append, str_list, HOL.out, HJ.out, if_neg hk0]; simp
            clear hk0
            have hs32 : (ByteArray.mk #[32]).size = 1 := rfl
            go_wp2_with fail
            refine (quoteWordS_any _ _ (by omega)).mono ?_
            rintro e w2 ⟨rfl, hb2⟩
            rw [str_list]
            have hb5 := nx hb hb2
            by_cases h200 : 200 < (o ++ ⟨#[32]⟩ ++ str (quoteW xs[k])).size
            · have HR : Hid (joinW xs = []) := by show _ = _; exact joinW_long (k := k + 1) (by rw [← HJ2.out, size_list]; exact h200)
              rw [ByteArray.size_append, ByteArray.size_append] at h200
              go_wp2
              go_ret
              exact ⟨ret_str (by rw [HR.out]; rfl), hb5⟩
            · have HL := Lib.hid (Nat.le_of_not_lt h200)
              rw [ByteArray.size_append, ByteArray.size_append] at h200
              go_wp2
              go_roundw
              case rel => exact ⟨k + 1, _, by omega, by go_num, rfl, HJ2.out, HL.out, hb5, fun j h hj => by
                by_cases e : j = k
                · subst e; exact HX.out
                · exact HALL.out j (by omega) hj⟩
              case measure => simp [intOf]; omega
      · have hkn : k = xs.length := by rw [HLEN.out]; omega
        have HT : Hid (joinAll (xs.take k) = joinAll xs) := by show _ = _; rw [hkn, take_full]
        have HR : Hid (joinW xs = joinAll xs) := by
          show _ = _
          exact joinW_all (fun j hj => HALL.out j (by omega) hj) (by rw [← HT.out, ← HOL.out, size_list]; exact hos)
        clear hkn
        go_wp2
        go_ret
        exact ⟨ret_str (by rw [HR.out, ← HT.out, ← HOL.out, str_of]), hb⟩
end Go.Proofs.YtjnpkmenlecdmabDoor
