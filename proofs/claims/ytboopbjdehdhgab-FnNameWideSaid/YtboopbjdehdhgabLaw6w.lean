/-
  The laws of chapter 6: each law's walk. For every input of the law: it returns true, and the input reads as it did. Conditions: none but the statement's own.
-/
import Derived.Test.YtboopbjdehdhgabLaw0n
import Derived.Test.YtboopbjdehdhgabNamN
import Derived.Test.YtboopbjdehdhgabNamC
namespace Go.Proofs.Ytboopbjdehdhgab
open Go.ChangeShapes Go.WideShapes Go.ChangeAt Go.RowKit
open Go.ChangeMaps (open_string shut_string)

theorem coded_first {l t : List UInt8} (h : encN l = some t) (hn : needs l = true) : l ≠ [] ∧ l.length ≤ 120 ∧ ∃ q, t = wordL (l.take (room 28 l)) ++ q ∧ (q = [] ↔ room 28 l = l.length) := by
  unfold encN at h
  split at h
  · rename_i h120
    injection h with h
    have h : Lib.join (wordsOf l) [32] = t := by simpa [hn] using h
    have hne : l ≠ [] := by intro e; subst e; rw [needs_nil] at hn; cases hn
    refine ⟨hne, h120, ?_⟩
    have hst := wordsOf_step hne
    have hrl := room_le l 28
    rw [← h, hst]
    by_cases hr : room 28 l = l.length
    · have hd : l.drop (room 28 l) = [] := List.drop_eq_nil_of_le (by omega)
      rw [hd, wordsOf_nil, Lib.join_one]; exact ⟨[], by simp, by simp [hr]⟩
    · have hd : l.drop (room 28 l) ≠ [] := fun e => by have := congrArg List.length e; rw [List.length_drop, List.length_nil] at this; omega
      cases hw : wordsOf (l.drop (room 28 l)) with
      | nil => exact absurd hw (wordsOf_ne hd)
      | cons y ys => rw [join_cons2]; exact ⟨_, rfl, by simp [hr]⟩
  · cases h
set_option maxRecDepth 100000 in
set_option maxHeartbeats 4000000 in
theorem fnNameWide_walk (a : Option Addr) (n c : Nat) (w : World) (hmx : ∃ m, w.cell? ⟨0, 0, none⟩ = some (.int .i64 m)) (hc : Code w a n) (hnc : n ≤ c) (hm : c ≤ maxLen) :
    Calls Try.prog 5 #[.slice a n c] w fun e w' => e = .returned (.bool true) ∧ Below w.heap.size w w' := by
  have hm' := hm
  unfold maxLen at hm'
  by_cases hn : 1048576 < n
  · have hd : decide ((1048576 : Int) < n) = true := by simp; omega
    go_enter Try.func5, Try.ntmps5
    go_wp2
    go_ret
    exact ⟨rfl, Below.refl _ _⟩
  have hd : decide ((1048576 : Int) < n) = false := by simp; omega
  go_enter Try.func5, Try.ntmps5
  go_wp2_with fail
  refine (drawEncodeName_any a n c w hc hnc hm).mono ?_
  rintro e w1 ⟨s, rfl, hs, hb1⟩
  have HI : Hid (∀ u, Below w.heap.size w u → Calls Try.prog 11 #[.string s] u (DecRet (encN s.data.toList) u)) := fun u hu => encodeName_any s u (mx_belowN hmx hu) (by omega)
  have HS := Lib.hid (fun u => encodeNameS_any s u (by omega))
  have HNB : Hid (∀ u, Below w.heap.size w u → Calls Try.prog 13 #[.string s] u fun e w' => e = .returned (.bool (needs s.data.toList)) ∧ u = w') := fun u hu => needsCode_any s u (mx_belowN hmx hu) (by omega)
  cases ho : encN s.data.toList with
  | none =>
    rw [ho] at HI HS
    clear ho
    go_wp2_with fail
    refine (HI.out _ hb1).mono ?_
    rintro e w2 ⟨rfl, hb2⟩
    go_wp2_with fail
    refine (HS.out _).mono ?_
    rintro e w3 ⟨rfl, hb3⟩
    go_wp2
    go_ret
    exact ⟨rfl, nx (nx hb1 hb2) hb3⟩
  | some t =>
    have htz := str_size t
    have ht560 := encN_size ho
    have hee : ((str t).toList == (str t).toList) = true := by simp
    have hne : ((str t).toList != (str t).toList) = false := by simp
    rw [ho] at HI HS
    cases hnd : needs s.data.toList
    · rw [hnd] at HNB
      clear ho hnd
      go_wp2_with fail
      refine (HI.out _ hb1).mono ?_
      rintro e w2 ⟨rfl, hb2⟩
      go_wp2_with fail
      refine (HS.out _).mono ?_
      rintro e w3 ⟨rfl, hb3⟩
      go_wp2_with fail
      refine (HNB.out _ (nx (nx hb1 hb2) hb3)).mono ?_
      rintro e w4 ⟨rfl, rfl⟩
      go_wp2
      go_ret
      exact ⟨rfl, nx (nx hb1 hb2) hb3⟩
    · rw [hnd] at HNB
      obtain ⟨hle, hl120, q', htq, hqe⟩ := coded_first ho hnd
      have hrl := room_le s.data.toList 28
      have hrp := room_pos hle
      rw [size_list] at hrl hqe
      have HCA : Hid (∀ k, k < room 28 s.data.toList → ∀ u, Calls Try.prog 7 #[.string (s.extract 0 (k + 1))] u (DecRet (some (wordL (s.data.toList.take (k + 1)))) u)) := fun k hk u => by
        have := codeWord_any (s.extract 0 (k + 1)) u (by rw [ByteArray.size_extract]; omega)
        rw [show (s.extract 0 (k + 1)).data.toList = s.data.toList.take (k + 1) by rw [Lib.extract_data]; simp] at this
        have hf := room_fit s.data.toList 28
        have hsub : s.data.toList.take (room 28 s.data.toList) = s.data.toList.take (k + 1) ++ (s.data.toList.take (room 28 s.data.toList)).drop (k + 1) := by
          conv => lhs; rw [← List.take_append_drop (k + 1) (s.data.toList.take (room 28 s.data.toList))]
          rw [List.take_take, Nat.min_eq_left (by omega)]
        rw [hsub, codL_app, List.length_append] at hf
        rw [codeW_in (fun e => by have := congrArg List.length e; rw [List.length_take, size_list, List.length_nil] at this; omega) (by omega)] at this
        exact this
      have HCZ : Hid (∀ k, k < room 28 s.data.toList → (wordL (s.data.toList.take (k + 1))).length ≤ t.length) := fun k hk => by
        have hsub : s.data.toList.take (room 28 s.data.toList) = s.data.toList.take (k + 1) ++ (s.data.toList.take (room 28 s.data.toList)).drop (k + 1) := by
          conv => lhs; rw [← List.take_append_drop (k + 1) (s.data.toList.take (room 28 s.data.toList))]
          rw [List.take_take, Nat.min_eq_left (by omega)]
        rw [htq, List.length_append, wordL_len, wordL_len]
        conv => rhs; rw [hsub]
        rw [codL_app, List.length_append]; omega
      have HCB : Hid (room 28 s.data.toList < s.size → ∀ u, Calls Try.prog 7 #[.string (s.extract 0 (room 28 s.data.toList + 1))] u (DecRet none u)) := fun hk u => by
        have := codeWord_any (s.extract 0 (room 28 s.data.toList + 1)) u (by rw [ByteArray.size_extract]; omega)
        rw [show (s.extract 0 (room 28 s.data.toList + 1)).data.toList = s.data.toList.take (room 28 s.data.toList + 1) by rw [Lib.extract_data]; simp, codeW_out (room_max _ _ (by rw [size_list]; exact hk))] at this
        exact this
      have HCF : Hid (∀ u, Calls Try.prog 7 #[.string (s.extract 0 (room 28 s.data.toList))] u (DecRet (some (wordL (s.data.toList.take (room 28 s.data.toList)))) u)) := fun u => by
        have := codeWord_any (s.extract 0 (room 28 s.data.toList)) u (by rw [ByteArray.size_extract]; omega)
        rw [show (s.extract 0 (room 28 s.data.toList)).data.toList = s.data.toList.take (room 28 s.data.toList) by rw [Lib.extract_data]; simp, word_code hle] at this
        exact this
      have hfz := str_size (wordL (s.data.toList.take (room 28 s.data.toList)))
      have htl : t.length = (wordL (s.data.toList.take (room 28 s.data.toList))).length + q'.length := by rw [htq, List.length_append]
      have h12 : 12 ≤ (wordL (s.data.toList.take (room 28 s.data.toList))).length := by rw [wordL_len]; omega
      have HPF : Hid (((str t).extract 0 (str (wordL (s.data.toList.take (room 28 s.data.toList)))).size).toList == (str (wordL (s.data.toList.take (room 28 s.data.toList)))).toList) := by
        show _ = true
        rw [beq_dec]; exact decide_eq_true (bytes_ext (by rw [Lib.extract_data, str_list, str_list, str_size, List.drop_zero, Nat.sub_zero, htq]; exact List.take_left' rfl))
      have HX1 : Hid (((str t).extract 0 2).toList == [61, 63]) := by show _ = true; rw [ByteArray.toList_eq, Lib.extract_data, str_list, htq]; rfl
      have HE1 : Hid ((room 28 s.data.toList = s.size) ↔ (str t).size = (str (wordL (s.data.toList.take (room 28 s.data.toList)))).size) := by
        show _ ↔ _
        rw [str_size, str_size, htl, ← hqe]
        exact ⟨fun h => by rw [h]; rfl, fun h => List.length_eq_zero_iff.1 (by omega)⟩
      have HCZ : Hid (∀ k, k < room 28 s.data.toList → (str (wordL (s.data.toList.take (k + 1)))).size ≤ (str t).size) := fun k hk => by rw [str_size, str_size]; exact HCZ.out k hk
      have HCF : Hid (∀ u, Calls Try.prog 7 #[.string (s.extract 0 (room 28 s.data.toList))] u fun e w' => e = .returned (.tuple #[.string (str (wordL (s.data.toList.take (room 28 s.data.toList)))), .bool true]) ∧ Below u.heap.size u w') := HCF.out
      have HI : Hid (∀ u, Below w.heap.size w u → Calls Try.prog 11 #[.string s] u fun e w' => e = .returned (.tuple #[.string (str t), .bool true]) ∧ Below u.heap.size u w') := HI.out
      have HS : Hid (∀ u, Calls Try.prog 12 #[.string s] u fun e w' => e = .returned (.tuple #[.string (str t), .bool true]) ∧ Below u.heap.size u w') := HS.out
      have hq2 : 2 ≤ (str t).size := by omega
      have hqF : (str (wordL (s.data.toList.take (room 28 s.data.toList)))).size ≤ (str t).size := by omega
      have hq560 : (str t).size ≤ 560 := by omega
      clear ho hnd hle htq hqe htz htl hfz h12 ht560
      generalize str (wordL (s.data.toList.take (room 28 s.data.toList))) = f at *
      generalize room 28 s.data.toList = R at *
      generalize str t = q at *
      go_wp2_with fail
      refine (HI.out _ hb1).mono ?_
      rintro e w2 ⟨rfl, hb2⟩
      go_wp2_with fail
      refine (HS.out _).mono ?_
      rintro e w3 ⟨rfl, hb3⟩
      clear HI HS
      have HB3 := Lib.hid (nx (nx hb1 hb2) hb3)
      go_wp2_with fail
      refine (HNB.out _ HB3.out).mono ?_
      rintro e w4 ⟨rfl, rfl⟩
      go_wp2_with fail
      go_loopw [8] (fun i wr => ∃ k : Nat, k ≤ R ∧ i = .int .i64 k ∧ Below w.heap.size w wr) (fun i _ => R + 1 - (intOf i).toNat)
      case atStart => exact ⟨0, by omega, rfl, HB3.out⟩
      case round =>
        obtain ⟨k, hk, rfl, hb⟩ := hrel
        have HBR := Lib.hid hb
        clear hb
        by_cases hlt : k < R
        · have hks : k < s.size := by omega
          have HC := Lib.hid (fun u => HCA.out k hlt u)
          have HC : Hid (∀ u, Calls Try.prog 7 #[.string (s.extract 0 (k + 1))] u fun e w' => e = .returned (.tuple #[.string (str (wordL (s.data.toList.take (k + 1)))), .bool true]) ∧ Below u.heap.size u w') := HC.out
          have hz := HCZ.out k hlt
          generalize str (wordL (s.data.toList.take (k + 1))) = x at *
          have e1 := HX1.out
          go_wp2_with fail
          refine (HC.out _).mono ?_
          rintro e w5 ⟨rfl, hb5⟩
          have hB5 := nx HBR.out hb5
          go_wp2
          go_roundw
          case rel => exact ⟨k + 1, by omega, by go_num, hB5⟩
          case measure => simp [intOf]; omega
        · have hkR : k = R := by omega
          subst hkR
          by_cases hks : k < s.size
          · have HC := Lib.hid (fun u => HCB.out hks u)
            have hne2 : ¬ q.size = f.size := fun h => by have := HE1.out.2 h; omega
            have e2 : ((q.size : Int) == (f.size : Int)) = false := by rw [beq_eq_false_iff_ne]; omega
            have e3 : ((k : Int) == (s.size : Int)) = false := by rw [beq_eq_false_iff_ne]; omega
            have e1 := HPF.out
            go_wp2_with fail
            refine (HC.out _).mono ?_
            rintro e w5 ⟨rfl, hb5⟩
            have hB5 := nx HBR.out hb5
            go_wp2_with fail
            refine (HCF.out _).mono ?_
            rintro e w6 ⟨rfl, hb6⟩
            go_wp2
            go_ret
            exact ⟨rfl, nx hB5 hb6⟩
          · have hkS : k = s.size := by omega
            have hqF2 := HE1.out.1 hkS
            have e2 : ((q.size : Int) == (f.size : Int)) = true := by rw [beq_iff_eq]; omega
            have e3 : ((k : Int) == (s.size : Int)) = true := by rw [beq_iff_eq]; omega
            have e1 := HPF.out
            clear hqF2 hkS
            go_wp2_with fail
            refine (HCF.out _).mono ?_
            rintro e w6 ⟨rfl, hb6⟩
            go_wp2
            go_ret
            exact ⟨rfl, nx HBR.out hb6⟩
set_option maxRecDepth 100000 in
theorem fnNameWide_lifted (os : Os) (started : os.Started) (H : Type) (enc : TypeId × Value → H) :
    ReturnsInHanded {} Try.checked os 5 .any (Rows.fnNameWideSpec.pre6 enc Try.prog Try.f5 Rows.fnNameWideRow.domain false) (Rows.fnNameWideSpec.post enc Try.prog Try.f5 false true false false) := by
  refine returnsInHanded_of_change_shaped (C := Try.checked) own started (by kernel_rfl) Try.func5
    (ChangeSpec.witness6 (enc := enc) (C := Try.checked) false ⟨#[], #[.slice none 0 0], []⟩ 8 (by kernel_rfl) (by kernel_rfl) (by kernel_rfl) (by kernel_rfl)) ?_
  intro W base args ds gs before hval0 hW hcnd _ hsh _
  have hval : ∀ (j : Nat) t v, Try.f5.params[j]? = some t → args[j]? = some v → Value.okWide Try.prog W .any base t v := hval0
  have hW' := hW
  obtain ⟨p, q, hA0, hV, rfl, hfz, hnd⟩ := hW
  have hA : DataW.TrodAll enc Try.prog W 0 (fun _ => true) true Try.f5.params.toList args.toList ds p := hA0
  rw [Try.params5] at hA hval
  obtain ⟨v0, vs0, d0, ds0, p0, q0, hargs, rfl, rfl, h0, r0⟩ := trodAll_cons hA
  obtain ⟨rfl, rfl, rfl⟩ := trodAll_nil r0
  obtain rfl : args = #[v0] := by cases args; simp_all
  obtain ⟨rfl, rfl⟩ := trodVars_none hV
  obtain ⟨a0, n0, c0, rfl⟩ := okWide_slice Try.underlying22 (hval 0 22 v0 rfl rfl)
  have k0 := h0
  have lt0 : ∀ x ∈ p0, x.block < W.heap.size := by obtain ⟨m, hm⟩ := k0; exact DataW.trod_lt m _ _ _ hm
  obtain ⟨w0, x0, y0⟩ := code_of_trod Try.underlying22 Try.underlying5 (by kernel_rfl) h0
  clear hA0 hval0
  refine (fnNameWide_walk a0 n0 c0 W (mx_of_shaped hsh) w0 x0 y0).mono fun e W' ⟨he, bel⟩ => ?_
  subst he
  exact ⟨_, rfl, _, _, _, [], _, [], hW', trodAll_mk1 (shut_bool Try.underlying4 _), (trodAll_cons_mk (Below.trod laidOut (by kernel_rfl) (of_decide_eq_true (by kernel_rfl)) k0 bel lt0) trodAll_mk0), rfl, bel.frame _, fun h => by cases h⟩
/-- FnNameWide: THE STATEMENT. -/
theorem fnNameWide_holds : Rows.FnNameWideSaid :=
  OpenClaim.holds_of_wide 5 Try.f5 rfl rfl rfl rfl rfl rfl rfl ⟨rfl, rfl, rfl, rfl, rfl⟩ rfl rfl rfl rfl rfl (by kernel_rfl) Try.func5 (by kernel_rfl)
    (of_decide_eq_true (by kernel_rfl)) (by unfold Func.isWrapper; first | (rw [if_pos (by decide +kernel)]; kernel_rfl) | (rw [if_neg (by decide +kernel)]; exact ⟨rfl, rfl⟩))
    (fun os started H enc _ => fnNameWide_lifted os started H enc)
end Go.Proofs.Ytboopbjdehdhgab
