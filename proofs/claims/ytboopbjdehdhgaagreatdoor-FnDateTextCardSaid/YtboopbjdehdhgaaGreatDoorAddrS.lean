/-
  Addresses: what the model's functions on mailboxes, domains and names return. No statement is proved here.
-/
import Derived.Test.YtboopbjdehdhgaaGreatDoorAddr2
import Derived.Test.YtboopbjdehdhgaaGreatDoorSplit2
namespace Go.Proofs.YtboopbjdehdhgaaGreatDoor
open Go.RowKit

def CutRetS (s : ByteArray) (c : UInt8) (w : World) (e : Ending) (w' : World) : Prop :=
  (∀ a d, cutU c s.data.toList = some (a, d) → e = .returned (.tuple #[.string (str a), .string (str d), .bool true])) ∧
  (cutU c s.data.toList = none → e = .returned (.tuple #[.string s, .string ⟨#[]⟩, .bool false])) ∧ ∃ q, w' = w.drewN q
theorem cutRetS_some {s : ByteArray} {c : UInt8} {k q : Nat} {w : World} {x y : ByteArray} (h : cutK c 0 s.data.toList = some k) (hx : x = s.extract 0 k) (hy : y = s.extract (k + 1) s.size) : CutRetS s c w (.returned (.tuple #[.string x, .string y, .bool true])) (w.drewN q) := by
  have hc : cutU c s.data.toList = some (s.data.toList.take k, s.data.toList.drop (k + 1)) := by unfold cutU; rw [h]; rfl
  refine ⟨fun a d h' => ?_, fun h' => ?_, q, rfl⟩
  · rw [hc] at h'; injection h' with h'; injection h' with h1 h2; subst h1 h2; rw [hx, hy, ext_take, ext_drop]
  · rw [hc] at h'; cases h'
theorem cutRetS_none {s : ByteArray} {c : UInt8} {w : World} (h : cutK c 0 s.data.toList = none) : CutRetS s c w (.returned (.tuple #[.string s, .string ⟨#[]⟩, .bool false])) w := by
  have hc : cutU c s.data.toList = none := by unfold cutU; rw [h]; rfl
  refine ⟨fun a d h' => ?_, fun _ => rfl, 0, rfl⟩
  rw [hc] at h'; cases h'
set_option maxRecDepth 100000 in
set_option maxHeartbeats 4000000 in
theorem l2Cut_any (s : ByteArray) (c : UInt8) (w : World) (hc34 : (34 : UInt8) ≠ c) (hs : s.size ≤ 1073741824) :
    Calls Tryz.prog 36 #[.string s, .int .u8 c.toNat] w (CutRetS s c w) := by
  go_enter Tryz.func36, Tryz.ntmps36
  go_wp2_with fail
  go_loop [7] (fun i => ∃ k : Nat, k ≤ s.size ∧ i = .int .i64 k ∧ cutsAt c s k) (fun i => s.size - (intOf i).toNat)
  case atStart => exact ⟨0, Nat.zero_le _, rfl, cutsAt_start c s⟩
  case round =>
    obtain ⟨k, hk, rfl, hg⟩ := hrel
    have HG := Lib.hid hg
    clear hg
    by_cases hlt : k < s.size
    · by_cases hq : s[k] = 34
      · have e2 := beq_t hq (n := 34) rfl
        cases hr : readQ (s.data.toList.drop (k + 1)) with
        | none =>
          have HR := Lib.hid (cutsAt_stuck hc34 HG.out hlt hq hr)
          have HQ := Lib.hid hr
          clear hq hr
          go_wp2_with fail
          refine (l1Read_any s k _ hlt hs).mono ?_
          rintro e w1 ⟨_, hno, rfl⟩
          have he := hno HQ.out
          clear hno
          subst he
          go_wp2
          go_ret3
          exact cutRetS_none HR.out
        | some y =>
          obtain ⟨t, r⟩ := y
          obtain ⟨hN, hlo⟩ := cutsAt_quote hc34 HG.out hlt hq hr
          have HN := Lib.hid hN
          have HQ := Lib.hid hr
          clear hq hr hN
          go_wp2_with fail
          refine (l1Read_any s k _ hlt hs).mono ?_
          rintro e w1 ⟨hy, _, rfl⟩
          have he := hy t r HQ.out
          clear hy
          subst he
          obtain ⟨q, hq⟩ : ∃ q, q = s.size - r.length := ⟨_, rfl⟩
          rw [← hq] at HN hlo ⊢
          have hqs : q ≤ s.size := by omega
          clear hq
          go_wp2
          go_round
          case rel => exact ⟨q, hqs, by go_num, HN.out⟩
          case measure => simp [intOf]; omega
      · have e2 := beq_f hq (n := 34) rfl
        by_cases hc : s[k] = c
        · have HR := Lib.hid (cutsAt_hit HG.out hlt hc)
          have e1 : ((s[k].toNat : Int) == (c.toNat : Int)) = true := by rw [hc]; simp
          have hw1 : IntKind.i64.wrap ((k : Int) + 1) = (k : Int) + 1 := IntWalk.i64_in _ (by omega)
          have hw2 : 0 ≤ (k : Int) + 1 := by omega
          have hw3 : ((k : Int) + 1).toNat = k + 1 := by omega
          clear hc hq
          go_wp2
          go_quiet (fail)
          go_wp2
          go_ret3
          exact cutRetS_some HR.out rfl rfl
        · have e1 : ((s[k].toNat : Int) == (c.toNat : Int)) = false := by
            rw [beq_eq_false_iff_ne]; intro e; exact hc (UInt8.toNat_inj.1 (by omega))
          have HN := Lib.hid (cutsAt_skip HG.out hlt hc hq)
          clear hc hq
          go_wp2
          go_round
          case rel => exact ⟨k + 1, by omega, by go_num, HN.out⟩
          case measure => simp [intOf]; omega
    · have HR := Lib.hid (cutsAt_end HG.out (by omega))
      go_wp2
      go_ret3
      exact cutRetS_none HR.out
/-- A list of the call's own. -/
def OwnRet (xs : List (List UInt8)) (w : World) (e : Ending) (w' : World) : Prop := ∃ v, e = .returned v ∧ OwnL w.heap.size v xs w' ∧ Below w.heap.size w w'
def partsAt (c : UInt8) (s : ByteArray) (st i : Nat) (acc : List (List UInt8)) : Prop := splitC c s.data.toList = acc ++ glue ((s.data.toList.drop st).take (i - st)) (splitC c (s.data.toList.drop i))
theorem partsAt_start (c : UInt8) (s : ByteArray) : partsAt c s 0 0 [] := by unfold partsAt; simp [glue_nil]
theorem partsAt_skip {c : UInt8} {s : ByteArray} {st i : Nat} {acc : List (List UInt8)} (h : partsAt c s st i acc) (hst : st ≤ i) (hi : i < s.size) (hc : s[i] ≠ c) : partsAt c s st (i + 1) acc := by
  unfold partsAt at h ⊢
  rw [h, drop_at s i hi, splitC_skip _ hc, glue_app]
  congr 2
  rw [show i + 1 - st = (i - st) + 1 by omega, List.take_succ_eq_append_getElem (by rw [List.length_drop, size_list]; omega)]
  congr 1
  rw [List.getElem_drop]
  have : st + (i - st) = i := by omega
  simp only [this]; rfl
theorem partsAt_hit {c : UInt8} {s : ByteArray} {st i : Nat} {acc : List (List UInt8)} (h : partsAt c s st i acc) (hi : i < s.size) (hc : s[i] = c) : partsAt c s (i + 1) (i + 1) (acc ++ [(s.extract st i).data.toList]) := by
  unfold partsAt at h ⊢
  rw [h, drop_at s i hi, hc, splitC_hit, Lib.extract_data, Nat.sub_self, List.take_zero, glue_nil]
  simp [glue]
theorem partsAt_end {c : UInt8} {s : ByteArray} {st i : Nat} {acc : List (List UInt8)} (h : partsAt c s st i acc) (hst : st ≤ i) (hi : s.size ≤ i) : splitC c s.data.toList = acc ++ [(s.extract st s.size).data.toList] := by
  unfold partsAt at h
  rw [h, drop_out s i hi, Lib.extract_data]
  show acc ++ glue _ [[]] = _
  simp only [glue, List.append_nil]
  congr 2
  rw [List.take_of_length_le (by rw [List.length_drop, size_list]; omega), List.take_of_length_le (by rw [List.length_drop, size_list]; omega)]
theorem ext_size (s : ByteArray) (a b : Nat) : (s.extract a b).size ≤ s.size := by rw [ByteArray.size_extract]; omega
set_option maxRecDepth 100000 in
set_option maxHeartbeats 4000000 in
theorem l2Parts_any (s : ByteArray) (c : UInt8) (w : World) (hs : s.size ≤ 1073741000) :
    Calls Tryz.prog 38 #[.string s, .int .u8 c.toNat] w (OwnRet (splitC c s.data.toList) w) := by
  obtain ⟨i0, hi, hz0, hz1, hz2⟩ := info_parts sInfo
  go_enter Tryz.func38, Tryz.ntmps38
  go_wp2_with fail
  go_loopw [5, 6, 7] (fun v st i wr => ∃ (k a : Nat) (acc : List (List UInt8)), k ≤ s.size ∧ a ≤ k ∧ i = .int .i64 k ∧ st = .int .i64 a ∧ acc.length ≤ k ∧ partsAt c s a k acc ∧ OwnL w.heap.size v acc wr ∧ Below w.heap.size w wr) (fun _ _ i _ => s.size - (intOf i).toNat)
  case atStart => exact ⟨0, 0, [], Nat.zero_le _, Nat.le_refl _, rfl, rfl, Nat.zero_le _, partsAt_start c s, OwnL.empty w, (Below.refl _ _).alloc (Nat.le_refl _) _⟩
  case round =>
    obtain ⟨k, a, acc, hk, hak, rfl, rfl, hal, hg, hown, hb⟩ := hrel
    have HG := Lib.hid hg
    clear hg
    have hown1 := hown
    unfold OwnL at hown1
    by_cases hlt : k < s.size
    · by_cases hc : s[k] = c
      · have HN := Lib.hid (partsAt_hit HG.out hlt hc)
        have e1 : ((s[k].toNat : Int) == (c.toNat : Int)) = true := by rw [hc]; simp
        have hbs := hb.size
        clear hc
        go_wp2_with (at_builtin; refine wpList_append_own _ rfl _ _ 34 rfl w.heap.size 9 i0 (.string ⟨#[]⟩) 1 16 Tryz.underlying34 hi hz0 hz1 hz2 rfl (by decide) _ _ _ rfl (hown1.alloc _) ⟨wr.heap.size, 0, none⟩ 1 1 [.string (s.extract a k)] rfl rfl ?c1 ?c2 ?c3 ?c4 ?c5 ?_)
        case c1 =>
          intro u v hj
          match u, hj with
          | 0, hj => simp at hj; subst hj; simp [Addr.add]
        case c2 => intro u hu; simp at hu; subst hu; rfl
        case c3 => unfold maxLen; omega
        case c4 => omega
        case c5 => simp; omega
        intro v' w3 hown' hgrow _
        have hO3 : OwnL w.heap.size v' (acc ++ [(s.extract a k).data.toList]) w3 := own_snoc hown'
        have hb3 : Below w.heap.size wr w3 := ((Below.refl _ _).alloc (by omega) _).grown hgrow (by simp; omega) (fun k hk => (hown1.lt k hk).1)
        go_wp2
        go_roundw
        case rel => exact ⟨k + 1, k + 1, _, by omega, Nat.le_refl _, by go_num, by go_num, by simp; omega, HN.out, hO3, hb.trans hb3⟩
        case measure => simp [intOf]; omega
      · have HN := Lib.hid (partsAt_skip HG.out hak hlt hc)
        have e1 : ((s[k].toNat : Int) == (c.toNat : Int)) = false := by
          rw [beq_eq_false_iff_ne]; intro e; exact hc (UInt8.toNat_inj.1 (by omega))
        clear hc
        go_wp2
        go_roundw
        case rel => exact ⟨k + 1, a, acc, by omega, by omega, by go_num, rfl, by omega, HN.out, hown, hb⟩
        case measure => simp [intOf]; omega
    · have HN := Lib.hid (partsAt_end HG.out hak (by omega))
      have hbs := hb.size
      go_wp2_with (at_builtin; refine wpList_append_own _ rfl _ _ 34 rfl w.heap.size 9 i0 (.string ⟨#[]⟩) 1 16 Tryz.underlying34 hi hz0 hz1 hz2 rfl (by decide) _ _ _ rfl (hown1.alloc _) ⟨wr.heap.size, 0, none⟩ 1 1 [.string (s.extract a s.size)] rfl rfl ?q1 ?q2 ?q3 ?q4 ?q5 ?_)
      case q1 =>
        intro u v hj
        match u, hj with
        | 0, hj => simp at hj; subst hj; simp [Addr.add]
      case q2 => intro u hu; simp at hu; subst hu; rfl
      case q3 => unfold maxLen; omega
      case q4 => omega
      case q5 => simp; omega
      intro v' w3 hown' hgrow _
      have hO3 : OwnL w.heap.size v' (acc ++ [(s.extract a s.size).data.toList]) w3 := own_snoc hown'
      have hb3 : Below w.heap.size wr w3 := ((Below.refl _ _).alloc (by omega) _).grown hgrow (by simp; omega) (fun k hk => (hown1.lt k hk).1)
      go_wp2
      go_ret
      exact ⟨v', rfl, by rw [HN.out]; exact hO3, hb.trans hb3⟩
end Go.Proofs.YtboopbjdehdhgaaGreatDoor
