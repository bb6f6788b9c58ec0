/-
  Coded names: coded words read: what the functions return. No statement is proved here.
-/
import Derived.Test.YtboopbjdehdhgabDoorNamC
import Derived.Test.YtboopbjdehdhgabDoorCodU
import Derived.Test.YtboopbjdehdhgabDoorNamX
namespace Go.Proofs.YtboopbjdehdhgabDoor
open Go.RowKit

theorem readW_match (l : List UInt8) : readW l = match unE und (innerL l) with | some b => if codeW b = some l then some b else none | none => none := rfl
theorem readW_big {s : ByteArray} (h : 40 < s.size) : readW s.data.toList = none := readW_off fun _ => .inr (.inr (by rw [size_list]; exact h))
theorem readW_small {s : ByteArray} (h : s.size < 13) : readW s.data.toList = none := readW_off fun _ => .inr (.inl (by rw [size_list]; exact h))
theorem readW_pre {l : List UInt8} (h : l.take 10 ≠ preL) : readW l = none := readW_off fun b => .inl (by
  intro e; apply h; rw [e]; unfold wordL; exact List.take_left' rfl)
theorem readW_suf {l : List UInt8} (h : l.drop (l.length - 2) ≠ sufL) : readW l = none := readW_off fun b => .inl (by
  intro e; apply h; rw [e, wordL_len]; unfold wordL; rw [← List.append_assoc]
  exact List.drop_left' (by simp [preL]))
theorem escN_eq (l : List UInt8) : escN l = esc? l := rfl
set_option maxRecDepth 100000 in
set_option maxHeartbeats 2000000 in
theorem readEscapes_any (s : ByteArray) (w : World) (hs : s.size ≤ 1073741000) :
    Calls Tryd.prog 30 #[.string s] w (DecRet (unE id s.data.toList) w) := by
  go_enter Tryd.func30, Tryd.ntmps30
  go_wp2_with fail
  go_loopw [5] (fun i wr => ∃ (k : Nat) (acc : List UInt8), k ≤ s.size ∧ i = .int .i64 k ∧ acc.length ≤ k ∧ unE id s.data.toList = (unE id (s.data.toList.drop k)).map (acc ++ ·) ∧ Bld w.heap.size w.heap.size acc wr ∧ Below w.heap.size w wr) (fun i _ => s.size - (intOf i).toNat)
  case atStart => exact ⟨0, [], by omega, rfl, by simp, by rw [List.drop_zero]; cases unE id s.data.toList <;> simp, bld_fresh w, (Below.refl _ _).alloc (Nat.le_refl _) _⟩
  case round =>
    obtain ⟨k, acc, hk, rfl, hal, hg, hB, hb⟩ := hrel
    have HG := Lib.hid hg
    clear hg
    by_cases hlt : k < s.size
    · have HD := Lib.hid (drop_at s k hlt)
      by_cases h61 : s[k] = 61
      · have e61 := beq_t h61 (n := 61) rfl
        have hxs : (s.extract k s.size).size = s.size - k := by rw [ByteArray.size_extract]; omega
        have HXL : Hid ((s.extract k s.size).data.toList = s[k] :: s.data.toList.drop (k + 1)) := by show _ = _; rw [ext_drop, str_list, HD.out]
        have HRE := Lib.hid (unE_esc id (s.data.toList.drop (k + 1)) h61)
        clear h61
        go_wp2_with fail
        refine (readEscape_any _ _ (by omega)).mono ?_
        rintro e w1 ⟨rfl, rfl⟩
        rw [HXL.out]
        cases he : esc? (s[k] :: s.data.toList.drop (k + 1)) with
        | none =>
          have HN : Hid (unE id s.data.toList = none) := by show _ = _; rw [HG.out, HD.out, HRE.out, escN_eq, he]; rfl
          clear he
          go_wp2
          go_ret2
          exact decRet_none HN.out rfl hb
        | some b =>
          have h3 := escN_len he
          rw [List.length_cons, List.length_drop, size_list] at h3
          have HN : Hid (unE id s.data.toList = (unE id (s.data.toList.drop (k + 3))).map ((acc ++ [b]) ++ ·)) := by
            show _ = _; rw [HG.out, HD.out, HRE.out, escN_eq, he, List.drop_drop]
            cases unE id (s.data.toList.drop (k + 1 + 2)) <;> simp
          clear he
          go_wp2_with fail
          refine (writeByte_any _ _ _ b _ hB (by omega)).mono ?_
          rintro e w3 ⟨rfl, hB3, hb3⟩
          go_wp2
          go_roundw
          case rel => exact ⟨k + 3, _, by omega, by go_num, by rw [List.length_append, List.length_singleton]; omega, HN.out, hB3, hb.trans hb3⟩
          case measure => simp [intOf]; omega
      · have e61 := beq_f h61 (n := 61) rfl
        have HN : Hid (unE id s.data.toList = (unE id (s.data.toList.drop (k + 1))).map ((acc ++ [s[k]]) ++ ·)) := by
          show _ = _; rw [HG.out, HD.out, unE_plain id _ h61]
          cases unE id (s.data.toList.drop (k + 1)) <;> simp
        clear h61
        go_wp2_with fail
        refine (writeByte_any _ _ _ s[k] _ hB (by omega)).mono ?_
        rintro e w3 ⟨rfl, hB3, hb3⟩
        go_wp2
        go_roundw
        case rel => exact ⟨k + 1, _, by omega, by go_num, by rw [List.length_append, List.length_singleton]; omega, HN.out, hB3, hb.trans hb3⟩
        case measure => simp [intOf]; omega
    · have HN : Hid (unE id s.data.toList = some acc) := by show _ = _; rw [HG.out, drop_out s k (by omega)]; simp [unE]
      go_wp2_with fail
      refine (bString_any _ _ _ _ hB).mono ?_
      rintro e w5 ⟨rfl, hb5⟩
      go_wp2
      go_ret2
      exact decRet_some HN.out rfl (hb.trans hb5)
set_option maxRecDepth 100000 in
set_option maxHeartbeats 2000000 in
theorem readCodeWord_any (s : ByteArray) (w : World) (hmx : ∃ m, w.cell? ⟨0, 0, none⟩ = some (.int .i64 m)) (hs : s.size ≤ 1073741000) :
    Calls Tryd.prog 10 #[.string s] w (DecRet (readW s.data.toList) w) := by
  by_cases h40 : 40 < s.size
  · have HN := Lib.hid (readW_big h40)
    go_enter Tryd.func10, Tryd.ntmps10
    go_wp2
    go_ret2
    exact decRet_none HN.out rfl (Below.refl _ _)
  · by_cases hp : ∃ m, s.data.toList = preL ++ m
    · obtain ⟨m, hm⟩ := hp
      have HCP : Hid (∀ u, Calls Tryd.prog 28 #[.string s, .string (ByteArray.mk #[61, 63, 117, 116, 102, 45, 56, 63, 113, 63])] u fun e w' => e = .returned (.tuple #[.string (str m), .bool true]) ∧ w' = u) := fun u => by
        rw [← str_of s, hm]; exact cutPre_t m u
      have hml : m.length + 10 = s.size := by rw [← size_list, hm, List.length_append]; simp only [preL, List.length_cons, List.length_nil]; omega
      by_cases hsf : ∃ c, m = c ++ sufL
      · obtain ⟨c, rfl⟩ := hsf
        have hcl : c.length + 12 = s.size := by simp [sufL] at hml; omega
        have HCS : Hid (∀ u, Calls Tryd.prog 29 #[.string (str (c ++ sufL)), .string (ByteArray.mk #[63, 61])] u fun e w' => e = .returned (.tuple #[.string (str c), .bool true]) ∧ w' = u) := fun u => cutSuf_t c u (by omega)
        have hin : innerL s.data.toList = c := by
          unfold innerL; rw [hm, show (10 : Nat) = preL.length from rfl, List.drop_left, ← hm, size_list]
          exact List.take_left' (by omega)
        have HRM := Lib.hid (readW_match s.data.toList)
        rw [hin] at HRM
        have HRA : Hid (∀ u, Below w.heap.size w u → Calls Tryd.prog 31 #[.string (str c), .string (ByteArray.mk #[95]), .string (ByteArray.mk #[32])] u fun e w' => e = .returned (.string (str (c.map und))) ∧ Below u.heap.size u w') := fun u hu => replaceUS_any c u (mx_belowN hmx hu) (by omega)
        have HRE : Hid (∀ u, Calls Tryd.prog 30 #[.string (str (c.map und))] u (DecRet (unE und c) u)) := fun u => by
          have := readEscapes_any (str (c.map und)) u (by rw [str_size, List.length_map]; omega)
          rw [str_list, unE_und c _ (Nat.le_refl _)] at this; exact this
        have HUL := Lib.hid (unE_len und _ c (Nat.le_refl _))
        have HSL : Hid (∀ t : List UInt8, str t = s ↔ t = s.data.toList) := fun t => ⟨fun e => by rw [← e, str_list], fun e => by rw [e, str_of]⟩
        clear hm hin hml
        generalize s.data.toList = sl at *
        go_enter Tryd.func10, Tryd.ntmps10
        go_wp2_with fail
        refine (HCP.out _).mono ?_
        rintro e w1 ⟨rfl, rfl⟩
        go_wp2_with fail
        refine (HCS.out _).mono ?_
        rintro e w1 ⟨rfl, rfl⟩
        go_wp2_with fail
        refine (HRA.out _ (Below.refl _ _)).mono ?_
        rintro e w2 ⟨rfl, hb2⟩
        go_wp2_with fail
        refine (HRE.out _).mono ?_
        rintro e w3 ⟨rfl, hb3⟩
        have hB3 := nx hb2 hb3
        cases hu : unE und c with
        | none =>
          have HN : Hid (readW sl = none) := by show _ = _; rw [HRM.out, hu]
          clear hu
          go_wp2
          go_ret2
          exact decRet_none HN.out rfl hB3
        | some b =>
          have hbl := HUL.out b hu
          have HRM2 : Hid (readW sl = if codeW b = some sl then some b else none) := by show _ = _; rw [HRM.out, hu]
          have HCW := Lib.hid (fun u => codeWord_any (str b) u (by rw [str_size]; omega))
          rw [str_list] at HCW
          clear hu
          go_wp2_with fail
          refine (HCW.out _).mono ?_
          rintro e w4 ⟨rfl, hb4⟩
          have hB4 := nx hB3 hb4
          cases hc : codeW b with
          | none =>
            have HN : Hid (readW sl = none) := by show _ = _; rw [HRM2.out, hc, if_neg (by simp)]
            clear hc
            go_wp2
            go_ret2
            exact decRet_none HN.out rfl hB4
          | some t =>
            by_cases ht : t = sl
            · have HN : Hid (readW sl = some b) := by show _ = _; rw [HRM2.out, hc, ht, if_pos rfl]
              have e1 : ((str t).toList == s.toList) = true := by rw [beq_dec]; exact decide_eq_true ((HSL.out _).2 ht)
              have e2 : ((str t).toList != s.toList) = false := by rw [bne, e1]; rfl
              clear hc ht
              go_wp2
              go_ret2
              exact decRet_some HN.out rfl hB4
            · have HN : Hid (readW sl = none) := by show _ = _; rw [HRM2.out, hc, if_neg (by intro e; injection e with e; exact ht e)]
              have e1 : ((str t).toList == s.toList) = false := by rw [beq_dec]; exact decide_eq_false (fun e => ht ((HSL.out _).1 e))
              have e2 : ((str t).toList != s.toList) = true := by rw [bne, e1]; rfl
              clear hc ht
              go_wp2
              go_ret2
              exact decRet_none HN.out rfl hB4
      · have HN : Hid (readW s.data.toList = none) := readW_off fun b => .inl (by
          intro e
          apply hsf
          rw [hm] at e; unfold wordL at e
          exact ⟨codL b, List.append_cancel_left e⟩)
        have HCS : Hid (∀ u, Calls Tryd.prog 29 #[.string (str m), .string (ByteArray.mk #[63, 61])] u fun e w' => e = .returned (.tuple #[.string (str m), .bool false]) ∧ w' = u) := fun u => cutSuf_f m u hsf (by omega)
        clear hm hsf
        go_enter Tryd.func10, Tryd.ntmps10
        go_wp2_with fail
        refine (HCP.out _).mono ?_
        rintro e w1 ⟨rfl, rfl⟩
        go_wp2_with fail
        refine (HCS.out _).mono ?_
        rintro e w1 ⟨rfl, rfl⟩
        go_wp2
        go_ret2
        exact decRet_none HN.out rfl (Below.refl _ _)
    · have HN : Hid (readW s.data.toList = none) := readW_off fun b => .inl (fun e => hp ⟨_, e⟩)
      have HCP : Hid (∀ u, Calls Tryd.prog 28 #[.string s, .string (ByteArray.mk #[61, 63, 117, 116, 102, 45, 56, 63, 113, 63])] u fun e w' => e = .returned (.tuple #[.string s, .bool false]) ∧ w' = u) := fun u => by
        have := cutPre_f s.data.toList u hp; rw [str_of] at this; exact this
      have HCS : Hid (∀ u, Calls Tryd.prog 29 #[.string s, .string (ByteArray.mk #[63, 61])] u fun e w' => ∃ t k, e = .returned (.tuple #[.string t, .bool k]) ∧ w' = u) := fun u => by
        have := cutSuf_any s u (by omega); exact this
      clear hp
      go_enter Tryd.func10, Tryd.ntmps10
      go_wp2_with fail
      refine (HCP.out _).mono ?_
      rintro e w1 ⟨rfl, rfl⟩
      go_wp2_with fail
      refine (HCS.out _).mono ?_
      rintro e w1 ⟨t, k, rfl, rfl⟩
      go_wp2
      go_ret2
      exact decRet_none HN.out rfl (Below.refl _ _)
theorem und_95 {c : UInt8} (h : c = 95) : und c = 32 := by subst h; rfl
theorem und_no {c : UInt8} (h : c ≠ 95) : und c = c := by unfold und; rw [if_neg h]
theorem unE_hex (f : UInt8 → UInt8) {x y : UInt8} {a b : Nat} (m : List UInt8) (hx : hexV x = some a) (hy : hexV y = some b) : unE f (61 :: x :: y :: m) = (unE f m).map (UInt8.ofNat (16 * a + b) :: ·) := by
  rw [unE, if_pos rfl, hx, hy]
theorem unE_nohex (f : UInt8 → UInt8) {x y : UInt8} (m : List UInt8) (h : hexV x = none ∨ hexV y = none) : unE f (61 :: x :: y :: m) = none := by
  rw [unE, if_pos rfl]
  rcases h with h | h
  · rw [h]
  · rw [h]; cases hexV x <;> rfl
theorem unE_short (f : UInt8 → UInt8) {l : List UInt8} (h : l.length < 2) : unE f (61 :: l) = none := by
  match l, h with
  | [], _ => simp [unE]
  | [_], _ => simp [unE]
set_option maxRecDepth 100000 in
set_option maxHeartbeats 4000000 in
theorem l6Bytes_any (s : ByteArray) (w : World) (hs : s.size ≤ 1073741000) :
    Calls Tryd.prog 40 #[.string s] w (DecRet (unE und s.data.toList) w) := by
  obtain ⟨i0, hi, hz0, hz1, hz2⟩ := info_parts bInfo
  go_enter Tryd.func40, Tryd.ntmps40
  go_wp2_with fail
  go_loopw [4, 5] (fun v i wr => ∃ (k : Nat) (acc : List UInt8), k ≤ s.size ∧ i = .int .i64 k ∧ acc.length ≤ k ∧ unE und s.data.toList = (unE und (s.data.toList.drop k)).map (acc ++ ·) ∧ OwnBy w.heap.size v acc wr ∧ Below w.heap.size w wr) (fun _ i _ => s.size - (intOf i).toNat)
  case atStart => exact ⟨0, [], by omega, rfl, by simp, by rw [List.drop_zero]; cases unE und s.data.toList <;> simp, OwnBy.empty w, (Below.refl _ _).alloc (Nat.le_refl _) _⟩
  case round =>
    obtain ⟨k, acc, hk, rfl, hal, hg, hown, hb⟩ := hrel
    have HG := Lib.hid hg
    have HB := Lib.hid hb
    have HOWN := Lib.hid hown
    have hbs := hb.size
    clear hg
    by_cases hlt : k < s.size
    · have HD := Lib.hid (drop_at s k hlt)
      have hown1 := hown
      unfold OwnBy at hown1
      by_cases h95 : s[k] = 95
      · have e95 := beq_t h95 (n := 95) rfl
        have HN : Hid (unE und s.data.toList = (unE und (s.data.toList.drop (k + 1))).map ((acc ++ [(32 : UInt8)]) ++ ·)) := by
          show _ = _; rw [HG.out, HD.out, unE_plain und _ (by rw [h95]; decide), und_95 h95]
          cases unE und (s.data.toList.drop (k + 1)) <;> simp
        clear h95
        go_wp2_with (at_builtin; refine wpList_append_own _ rfl _ _ 22 rfl w.heap.size 5 i0 (.int .u8 0) 1 1 Tryd.underlying22 hi hz0 hz1 hz2 rfl (by decide) _ _ _ rfl (hown1.alloc _) ⟨wr.heap.size, 0, none⟩ 1 1 [.int .u8 32] rfl rfl ?c1 ?c2 ?c3 ?c4 ?c5 ?_)
        case c1 =>
          intro j u hj
          match j, hj with
          | 0, hj => simp at hj; subst hj; simp [Addr.add]
        case c2 => intro u hu; simp at hu; subst hu; rfl
        case c3 => unfold maxLen; omega
        case c4 => omega
        case c5 => simp; omega
        intro v' w3 hown' hgrow _
        have hO3 : OwnBy w.heap.size v' (acc ++ [(32 : UInt8)]) w3 := own_snocB (c := 32) hown'
        have hb3 : Below w.heap.size wr w3 := ((Below.refl _ _).alloc (by omega) _).grown hgrow (by simp; omega) (fun k hk => (World.ownsRow.lt hown1 k hk).1)
        go_wp2
        go_roundw
        case rel => exact ⟨k + 1, _, by omega, by go_num, by rw [List.length_append, List.length_singleton]; omega, HN.out, hO3, HB.out.trans hb3⟩
        case measure => simp [intOf]; omega
      · have e95 := beq_f h95 (n := 95) rfl
        by_cases h61 : s[k] = 61
        · have e61 := beq_t h61 (n := 61) rfl
          by_cases h2 : k + 2 < s.size
          · have h1 : k + 1 < s.size := by omega
            have HD3 : Hid (s.data.toList.drop (k + 1) = s[k + 1] :: s[k + 2] :: s.data.toList.drop (k + 3)) := by show _ = _; rw [drop_at s (k + 1) h1, drop_at s (k + 2) h2]
            have hge : ¬ ((s.size : Int) ≤ (k : Int) + 2) := by omega
            have hw1 : IntKind.i64.wrap ((k : Int) + 1) = (k : Int) + 1 := IntWalk.i64_in _ (by omega)
            have hw2 : 0 ≤ (k : Int) + 1 := by omega
            have hw3 : ((k : Int) + 1).toNat = k + 1 := by omega
            have hw4 : (k : Int) + 1 < (s.size : Int) := by omega
            have hv1 : IntKind.i64.wrap ((k : Int) + 2) = (k : Int) + 2 := IntWalk.i64_in _ (by omega)
            have hv2 : 0 ≤ (k : Int) + 2 := by omega
            have hv3 : ((k : Int) + 2).toNat = k + 2 := by omega
            have hv4 : (k : Int) + 2 < (s.size : Int) := by omega
            cases ha : hexV s[k + 1] with
            | none =>
              have HI := Lib.hid (ixI_none ha)
              have HN : Hid (unE und s.data.toList = none) := by show _ = _; rw [HG.out, HD.out, h61, HD3.out, unE_nohex und _ (.inl ha)]; rfl
              clear ha h61 h95
              go_wp2_with fail
              refine (l5Value_any s[k + 1] _).mono ?_
              rintro e w1 ⟨rfl, rfl⟩
              rw [HI.out]
              go_wp2
              go_ret2
              exact decRet_none HN.out rfl hb
            | some a =>
              have HI := Lib.hid (ixI_some ha)
              have ha16 := hexV_lt ha
              cases hbv : hexV s[k + 2] with
              | none =>
                have HJ := Lib.hid (ixI_none hbv)
                have HN : Hid (unE und s.data.toList = none) := by show _ = _; rw [HG.out, HD.out, h61, HD3.out, unE_nohex und _ (.inr hbv)]; rfl
                clear ha hbv h61 h95
                go_wp2_with fail
                refine (l5Value_any s[k + 1] _).mono ?_
                rintro e w1 ⟨rfl, rfl⟩
                rw [HI.out]
                go_wp2_with fail
                refine (l5Value_any s[k + 2] _).mono ?_
                rintro e w1 ⟨rfl, rfl⟩
                rw [HJ.out]
                go_wp2
                go_ret2
                exact decRet_none HN.out rfl hb
              | some b =>
                have HJ := Lib.hid (ixI_some hbv)
                have hb16 := hexV_lt hbv
                have HN : Hid (unE und s.data.toList = (unE und (s.data.toList.drop (k + 3))).map ((acc ++ [UInt8.ofNat (16 * a + b)]) ++ ·)) := by
                  show _ = _; rw [HG.out, HD.out, h61, HD3.out, unE_hex und _ ha hbv]
                  cases unE und (s.data.toList.drop (k + 3)) <;> simp
                have HV1 : Hid (∀ u : World, Calls Tryd.prog 57 #[.int .u8 s[k + 1].toNat] u fun e w' => e = .returned (.int .i64 (a : Int)) ∧ w' = u) := fun u => by rw [← HI.out]; exact l5Value_any s[k + 1] u
                have HV2 : Hid (∀ u : World, Calls Tryd.prog 57 #[.int .u8 s[k + 2].toNat] u fun e w' => e = .returned (.int .i64 (b : Int)) ∧ w' = u) := fun u => by rw [← HJ.out]; exact l5Value_any s[k + 2] u
                obtain ⟨cb, hcb, hce⟩ : ∃ cb : UInt8, (16 * (a : Int) + b) = (cb.toNat : Int) ∧ cb = UInt8.ofNat (16 * a + b) := ⟨_, by rw [UInt8.toNat_ofNat']; omega, rfl⟩
                rw [← hce] at HN
                have hcb256 := cb.toNat_lt
                clear ha hbv h61 h95 hce
                go_wp2_with fail
                refine (HV1.out _).mono ?_
                rintro e w1 ⟨rfl, rfl⟩
                go_wp2_with fail
                refine (HV2.out _).mono ?_
                rintro e w1 ⟨rfl, rfl⟩
                go_wp2_with fail
                have hwx : (IntKind.u8.wrap (IntKind.i64.wrap (IntKind.i64.wrap (16 * (a : Int)) + (b : Int)))) = (cb.toNat : Int) := by rw [IntWalk.i64_in (16 * (a : Int)) (by omega), IntWalk.i64_in _ (by omega), IntWalk.u8_in _ (by omega)]; exact hcb
                have HA := Lib.hid (show OwnBy w.heap.size _ acc (w1.alloc (.cells #[.int .u8 (IntKind.u8.wrap (IntKind.i64.wrap (IntKind.i64.wrap (16 * (a : Int)) + (b : Int))))] 5)).drew from World.ownsRow.alloc (w := w1) hown1 _)
                have HCN : Hid ((w1.alloc (.cells #[.int .u8 (IntKind.u8.wrap (IntKind.i64.wrap (IntKind.i64.wrap (16 * (a : Int)) + (b : Int))))] 5)).drew.cell? ⟨w1.heap.size, 0, none⟩ = some (.int .u8 (cb.toNat : Int))) := by show (w1.alloc _).cell? _ = _; rw [World.cell?_alloc_at _ _ _ _ rfl, hwx]; rfl
                have HBD : Hid (Below w.heap.size w (w1.alloc (.cells #[.int .u8 (IntKind.u8.wrap (IntKind.i64.wrap (IntKind.i64.wrap (16 * (a : Int)) + (b : Int))))] 5)).drew) := (HB.out.alloc hbs _).drew
                clear hwx hcb
                go_region_law (first
                  | (refine step_append_B (by rfl) _ _ (by rfl) w.heap.size _ acc cb w1.heap.size (by rfl) (by rfl) HA.out HCN.out HBD.out.size (by omega) ?_
                     intro v3 w3 hO3 hb3)
                  | (go_simp
                     go_at_call 57
                     refine (l5Value_any _ _).mono ?_
                     rintro e w6 ⟨rfl, rfl⟩
                     first | rw [HI.out] | rw [HJ.out]))
                all_goals
                  have hb4 := HBD.out.trans hb3
                  go_wp2
                  go_roundw
                  case rel => exact ⟨k + 3, _, by omega, by go_num, by rw [List.length_append, List.length_singleton]; omega, HN.out, hO3, hb4⟩
                  case measure => simp [intOf]; omega
          · have HN : Hid (unE und s.data.toList = none) := by
              show _ = _; rw [HG.out, HD.out, h61, unE_short und (by rw [List.length_drop, size_list]; omega)]; rfl
            have hge : ((s.size : Int) ≤ (k : Int) + 2) := by omega
            clear h61 h95
            go_wp2
            go_ret2
            exact decRet_none HN.out rfl hb
        · have e61 := beq_f h61 (n := 61) rfl
          have HN : Hid (unE und s.data.toList = (unE und (s.data.toList.drop (k + 1))).map ((acc ++ [s[k]]) ++ ·)) := by
            show _ = _; rw [HG.out, HD.out, unE_plain und _ h61, und_no h95]
            cases unE und (s.data.toList.drop (k + 1)) <;> simp
          clear h61 h95
          go_wp2_with (at_builtin; refine wpList_append_own _ rfl _ _ 22 rfl w.heap.size 5 i0 (.int .u8 0) 1 1 Tryd.underlying22 hi hz0 hz1 hz2 rfl (by decide) _ _ _ rfl (hown1.alloc _) ⟨wr.heap.size, 0, none⟩ 1 1 [.int .u8 s[k].toNat] rfl rfl ?c1 ?c2 ?c3 ?c4 ?c5 ?_)
          case c1 =>
            intro j u hj
            match j, hj with
            | 0, hj => simp at hj; subst hj; simp [Addr.add]
          case c2 => intro u hu; simp at hu; subst hu; rfl
          case c3 => unfold maxLen; omega
          case c4 => omega
          case c5 => simp; omega
          intro v' w3 hown' hgrow _
          have hO3 := own_snocB hown'
          have hb3 : Below w.heap.size wr w3 := ((Below.refl _ _).alloc (by omega) _).grown hgrow (by simp; omega) (fun k hk => (World.ownsRow.lt hown1 k hk).1)
          go_wp2
          go_roundw
          case rel => exact ⟨k + 1, _, by omega, by go_num, by rw [List.length_append, List.length_singleton]; omega, HN.out, hO3, HB.out.trans hb3⟩
          case measure => simp [intOf]; omega
    · have HN : Hid (unE und s.data.toList = some acc) := by show _ = _; rw [HG.out, drop_out s k (by omega)]; simp [unE]
      have hback := OwnBy.back hown 22 9 5 Tryd.underlying22 Tryd.underlying5 Tryd.underlying9
      go_wp2
      go_ret2
      exact decRet_some HN.out rfl hb
set_option maxRecDepth 100000 in
set_option maxHeartbeats 2000000 in
theorem readCodeWordS_any (s : ByteArray) (w : World) (hs : s.size ≤ 1073741000) :
    Calls Tryd.prog 15 #[.string s] w (DecRet (readW s.data.toList) w) := by
  by_cases h13 : s.size < 13
  · have HN := Lib.hid (readW_small h13)
    go_enter Tryd.func15, Tryd.ntmps15
    go_wp2
    go_ret2
    exact decRet_none HN.out rfl (Below.refl _ _)
  by_cases h40 : 40 < s.size
  · have HN := Lib.hid (readW_big h40)
    go_enter Tryd.func15, Tryd.ntmps15
    go_wp2
    go_ret2
    exact decRet_none HN.out rfl (Below.refl _ _)
  have hx10 : (s.extract 0 10).data.toList = s.data.toList.take 10 := by rw [Lib.extract_data]; simp
  have hx2 : (s.extract (s.size - 2) s.size).data.toList = s.data.toList.drop (s.data.toList.length - 2) := by
    rw [Lib.extract_data, size_list, List.take_of_length_le (by rw [List.length_drop, size_list]; omega)]
  have b1 : (10 : Int) ≤ s.size := by omega
  have b2 : (0 : Int) ≤ (s.size : Int) - 2 := by omega
  have b3 : (10 : Int) ≤ (s.size : Int) - 2 := by omega
  have b4 : ((s.size : Int) - 2).toNat = s.size - 2 := by omega
  by_cases hp : s.data.toList.take 10 = preL
  · have e1 : ((s.extract 0 10).toList == [61, 63, 117, 116, 102, 45, 56, 63, 113, 63]) = true := by rw [ByteArray.toList_eq, hx10, hp]; rfl
    by_cases hq : s.data.toList.drop (s.data.toList.length - 2) = sufL
    · have e2 : ((s.extract (s.size - 2) s.size).toList == [63, 61]) = true := by rw [ByteArray.toList_eq, hx2, hq]; rfl
      have HIN : Hid ((s.extract 10 (s.size - 2)).data.toList = innerL s.data.toList) := by
        show _ = _; rw [Lib.extract_data]; unfold innerL; rw [size_list]; rfl
      have HRM := Lib.hid (readW_match s.data.toList)
      have HLB : Hid (∀ u, Calls Tryd.prog 40 #[.string (s.extract 10 (s.size - 2))] u (DecRet (unE und (innerL s.data.toList)) u)) := fun u => by
        rw [← HIN.out]; exact l6Bytes_any _ u (by rw [ByteArray.size_extract]; omega)
      have HUL : Hid (∀ b, unE und (innerL s.data.toList) = some b → b.length ≤ 100) := fun b h => by
        have := unE_len und _ _ (Nat.le_refl _) b h
        have h2 : (innerL s.data.toList).length ≤ s.size := by unfold innerL; rw [List.length_take, size_list]; omega
        omega
      have HSL : Hid (∀ t : List UInt8, str t = s ↔ t = s.data.toList) := fun t => ⟨fun e => by rw [← e, str_list], fun e => by rw [e, str_of]⟩
      clear hx10 hx2 hp hq
      generalize s.data.toList = sl at *
      go_enter Tryd.func15, Tryd.ntmps15
      go_wp2_with fail
      refine (HLB.out _).mono ?_
      rintro e w1 ⟨rfl, hb1⟩
      cases hu : unE und (innerL sl) with
      | none =>
        have HN : Hid (readW sl = none) := by show _ = _; rw [HRM.out, hu]
        have HCW := Lib.hid (fun u => codeWordS_any (str ((none : Option (List UInt8)).getD [])) u (by rw [str_size]; simp))
        rw [str_list, show ((none : Option (List UInt8)).getD []) = [] from rfl, codeW_nil] at HCW
        clear hu
        go_wp2_with fail
        refine (HCW.out _).mono ?_
        rintro e w2 ⟨rfl, hb2⟩
        go_wp2
        go_ret2
        exact decRet_none HN.out rfl (nx hb1 hb2)
      | some b =>
        have hbl := HUL.out b hu
        have HRM2 : Hid (readW sl = if codeW b = some sl then some b else none) := by show _ = _; rw [HRM.out, hu]
        have HCW := Lib.hid (fun u => codeWordS_any (str b) u (by rw [str_size]; omega))
        rw [str_list] at HCW
        clear hu
        go_wp2_with fail
        refine (HCW.out _).mono ?_
        rintro e w4 ⟨rfl, hb4⟩
        have hB4 := nx hb1 hb4
        cases hc : codeW b with
        | none =>
          have HN : Hid (readW sl = none) := by show _ = _; rw [HRM2.out, hc, if_neg (by simp)]
          clear hc
          go_wp2
          go_ret2
          exact decRet_none HN.out rfl hB4
        | some t =>
          by_cases ht : t = sl
          · have HN : Hid (readW sl = some b) := by show _ = _; rw [HRM2.out, hc, ht, if_pos rfl]
            have e3 : ((str t).toList == s.toList) = true := by rw [beq_dec]; exact decide_eq_true ((HSL.out _).2 ht)
            have e3' : ((str t).toList != s.toList) = false := by rw [bne, e3]; rfl
            clear hc ht
            go_wp2
            go_ret2
            exact decRet_some HN.out rfl hB4
          · have HN : Hid (readW sl = none) := by show _ = _; rw [HRM2.out, hc, if_neg (by intro e; injection e with e; exact ht e)]
            have e3 : ((str t).toList == s.toList) = false := by rw [beq_dec]; exact decide_eq_false (fun e => ht ((HSL.out _).1 e))
            have e3' : ((str t).toList != s.toList) = true := by rw [bne, e3]; rfl
            clear hc ht
            go_wp2
            go_ret2
            exact decRet_none HN.out rfl hB4
    · have HN := Lib.hid (readW_suf hq)
      have e2 : ((s.extract (s.size - 2) s.size).toList == [63, 61]) = false := by rw [ByteArray.toList_eq, hx2, beq_eq_false_iff_ne]; exact hq
      clear hx10 hx2 hp hq
      go_enter Tryd.func15, Tryd.ntmps15
      go_wp2
      go_ret2
      exact decRet_none HN.out rfl (Below.refl _ _)
  · have HN := Lib.hid (readW_pre hp)
    have e1 : ((s.extract 0 10).toList == [61, 63, 117, 116, 102, 45, 56, 63, 113, 63]) = false := by rw [ByteArray.toList_eq, hx10, beq_eq_false_iff_ne]; exact hp
    clear hx10 hx2 hp
    go_enter Tryd.func15, Tryd.ntmps15
    go_wp2
    go_ret2
    exact decRet_none HN.out rfl (Below.refl _ _)
end Go.Proofs.YtboopbjdehdhgabDoor
