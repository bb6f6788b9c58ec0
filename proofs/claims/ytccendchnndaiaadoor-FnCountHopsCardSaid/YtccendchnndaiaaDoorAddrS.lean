/-
  Addresses: what the model's functions on mailboxes, domains and names return. No statement is proved here.
-/
import Derived.Test.YtccendchnndaiaaDoorAddr2
import Derived.Test.YtccendchnndaiaaDoorSplit2
namespace Go.Proofs.YtccendchnndaiaaDoor
open Go.RowKit

def CutRetS (s : ByteArray) (c : UInt8) (w : World) (e : Ending) (w' : World) : Prop :=
  (∀ a d, cutU c s.data.toList = some (a, d) → e = .returned (.tuple #[.string (str a), .string (str d), .bool true])) ∧
  (cutU c s.data.toList = none → e = .returned (.tuple #[.string s, .string ⟨#[]⟩, .bool false])) ∧ ∃ q, w' = w.drewN q
theorem cutRetS_some {s : ByteArray} {c : UInt8} {k q : Nat} {w : World} {x y : ByteArray} (h : cutK c 0 s.data.toList = some k) (hx : x = s.extract 0 k) (hy : y = s.extract (k + 1) s.size) : CutRetS s c w (.returned (.tuple #[.string x, .string y, .bool true])) (w.drewN q) := by
  have hc : cutU c s.data.toList = some (s.data.toList.take k, s.data.toList.drop (k + 1)) := by unfold cutU; rw [h]; rfl
  refine ⟨fun a d h' => ?_, fun h' => ?_, q, rfl⟩
  · rw [hc] at h'; injection h' with h'; injection h' with h1 h2; subst h1 h2; rw [hx, hy, ext_take, ext_drop]
  · rw [hc] at h'; cases h'
theorem cutRetS_none {s : ByteArray} {c : UInt8} {w : World} (h : cutK c 0 s.data.toList = none) : CutRetS s c w (.returned (.tuple #[.string s, .string ⟨#[]⟩, .bool false])) w := by
  have hc : cutU c s.data.toList = none := by unfold cutU; rw [h]; rfl
  refine ⟨fun a d h' => ?_, fun _ => rfl, 0, rfl⟩
  rw [hc] at h'; cases h'
set_option maxRecDepth 100000 in
set_option maxHeartbeats 4000000 in
theorem l2Cut_any (s : ByteArray) (c : UInt8) (w : World) (hc34 : (34 : UInt8) ≠ c) (hs : s.size ≤ 1073741824) :
    Calls Tryd.prog 101 #[.string s, .int .u8 c.toNat] w (CutRetS s c w) := by
  go_enter Tryd.func101, Tryd.ntmps101
  go_wp2_with fail
  go_loop [7] (fun i => ∃ k : Nat, k ≤ s.size ∧ i = .int .i64 k ∧ cutsAt c s k) (fun i => s.size - (intOf i).toNat)
  case atStart => exact ⟨0, Nat.zero_le _, rfl, cutsAt_start c s⟩
  case round =>
    obtain ⟨k, hk, rfl, hg⟩ := hrel
    have HG := Lib.hid hg
    clear hg
    by_cases hlt : k < s.size
    · by_cases hq : s[k] = 34
      · have e2 := beq_t hq (n := 34) rfl
        cases hr : readQ (s.data.toList.drop (k + 1)) with
        | none =>
          have HR := Lib.hid (cutsAt_stuck hc34 HG.out hlt hq hr)
          have HQ := Lib.hid hr
          clear hq hr
          go_wp2_with fail
          refine (l1Read_any s k _ hlt hs).mono ?_
          rintro e w1 ⟨_, hno, rfl⟩
          have he := hno HQ.out
          clear hno
          subst he
          go_wp2
          go_ret3
          exact cutRetS_none HR.out
        | some y =>
          obtain ⟨t, r⟩ := y
          obtain ⟨hN, hlo⟩ := cutsAt_quote hc34 HG.out hlt hq hr
          have HN := Lib.hid hN
          have HQ := Lib.hid hr
          clear hq hr hN
          go_wp2_with fail
          refine (l1Read_any s k _ hlt hs).mono ?_
          rintro e w1 ⟨hy, _, rfl⟩
          have he := hy t r HQ.out
          clear hy
          subst he
          obtain ⟨q, hq⟩ : ∃ q, q = s.size - r.length := ⟨_, rfl⟩
          rw [← hq] at HN hlo ⊢
          have hqs : q ≤ s.size := by omega
          clear hq
          go_wp2
          go_round
          case rel => exact ⟨q, hqs, by go_num, HN.out⟩
          case measure => simp [intOf]; omega
      · have e2 := beq_f hq (n := 34) rfl
        by_cases hc : s[k] = c
        · have HR := Lib.hid (cutsAt_hit HG.out hlt hc)
          have e1 : ((s[k].toNat : Int) == (c.toNat : Int)) = true := by rw [hc]; simp
          have hw1 : IntKind.i64.wrap ((k : Int) + 1) = (k : Int) + 1 := IntWalk.i64_in _ (by omega)
          have hw2 : 0 ≤ (k : Int) + 1 := by omega
          have hw3 : ((k : Int) + 1).toNat = k + 1 := by omega
          clear hc hq
          go_wp2
          go_quiet (fail)
          go_wp2
          go_ret3
          exact cutRetS_some HR.out rfl rfl
        · have e1 : ((s[k].toNat : Int) == (c.toNat : Int)) = false := by
            rw [beq_eq_false_iff_ne]; intro e; exact hc (UInt8.toNat_inj.1 (by omega))
          have HN := Lib.hid (cutsAt_skip HG.out hlt hc hq)
          clear hc hq
          go_wp2
          go_round
          case rel => exact ⟨k + 1, by omega, by go_num, HN.out⟩
          case measure => simp [intOf]; omega
    · have HR := Lib.hid (cutsAt_end HG.out (by omega))
      go_wp2
      go_ret3
      exact cutRetS_none HR.out
/-- A list of the call's own. -/
def OwnRet (xs : List (List UInt8)) (w : World) (e : Ending) (w' : World) : Prop := ∃ v, e = .returned v ∧ OwnL w.heap.size v xs w' ∧ Below w.heap.size w w'
def partsAt (c : UInt8) (s : ByteArray) (st i : Nat) (acc : List (List UInt8)) : Prop := splitC c s.data.toList = acc ++ glue ((s.data.toList.drop st).take (i - st)) (splitC c (s.data.toList.drop i))
theorem partsAt_start (c : UInt8) (s : ByteArray) : partsAt c s 0 0 [] := by unfold partsAt; simp [glue_nil]
theorem partsAt_skip {c : UInt8} {s : ByteArray} {st i : Nat} {acc : List (List UInt8)} (h : partsAt c s st i acc) (hst : st ≤ i) (hi : i < s.size) (hc : s[i] ≠ c) : partsAt c s st (i + 1) acc := by
  unfold partsAt at h ⊢
  rw [h, drop_at s i hi, splitC_skip _ hc, glue_app]
  congr 2
  rw [show i + 1 - st = (i - st) + 1 by omega, List.take_succ_eq_append_getElem (by rw [List.length_drop, size_list]; omega)]
  congr 1
  rw [List.getElem_drop]
  have : st + (i - st) = i := by omega
  simp only [this]; rfl
theorem partsAt_hit {c : UInt8} {s : ByteArray} {st i : Nat} {acc : List (List UInt8)} (h : partsAt c s st i acc) (hi : i < s.size) (hc : s[i] = c) : partsAt c s (i + 1) (i + 1) (acc ++ [(s.extract st i).data.toList]) := by
  unfold partsAt at h ⊢
  rw [h, drop_at s i hi, hc, splitC_hit, Lib.extract_data, Nat.sub_self, List.take_zero, glue_nil]
  simp [glue]
theorem partsAt_end {c : UInt8} {s : ByteArray} {st i : Nat} {acc : List (List UInt8)} (h : partsAt c s st i acc) (hst : st ≤ i) (hi : s.size ≤ i) : splitC c s.data.toList = acc ++ [(s.extract st s.size).data.toList] := by
  unfold partsAt at h
  rw [h, drop_out s i hi, Lib.extract_data]
  show acc ++ glue _ [[]] = _
  simp only [glue, List.append_nil]
  congr 2
  rw [List.take_of_length_le (by rw [List.length_drop, size_list]; omega), List.take_of_length_le (by rw [List.length_drop, size_list]; omega)]
theorem ext_size (s : ByteArray) (a b : Nat) : (s.extract a b).size ≤ s.size := by rw [ByteArray.size_extract]; omega
set_option maxRecDepth 100000 in
set_option maxHeartbeats 4000000 in
theorem l2Parts_any (s : ByteArray) (c : UInt8) (w : World) (hs : s.size ≤ 1073741000) :
    Calls Tryd.prog 128 #[.string s, .int .u8 c.toNat] w (OwnRet (splitC c s.data.toList) w) := by
  obtain ⟨i0, hi, hz0, hz1, hz2⟩ := info_parts sInfo
  go_enter Tryd.func128, Tryd.ntmps128
  go_wp2_with fail
  go_loopw [5, 6, 7] (fun v st i wr => ∃ (k a : Nat) (acc : List (List UInt8)), k ≤ s.size ∧ a ≤ k ∧ i = .int .i64 k ∧ st = .int .i64 a ∧ acc.length ≤ k ∧ partsAt c s a k acc ∧ OwnL w.heap.size v acc wr ∧ Below w.heap.size w wr) (fun _ _ i _ => s.size - (intOf i).toNat)
  case atStart => exact ⟨0, 0, [], Nat.zero_le _, Nat.le_refl _, rfl, rfl, Nat.zero_le _, partsAt_start c s, OwnL.empty w, (Below.refl _ _).alloc (Nat.le_refl _) _⟩
  case round =>
    obtain ⟨k, a, acc, hk, hak, rfl, rfl, hal, hg, hown, hb⟩ := hrel
    have HG := Lib.hid hg
    clear hg
    have hown1 := hown
    unfold OwnL at hown1
    by_cases hlt : k < s.size
    · by_cases hc : s[k] = c
      · have HN := Lib.hid (partsAt_hit HG.out hlt hc)
        have e1 : ((s[k].toNat : Int) == (c.toNat : Int)) = true := by rw [hc]; simp
        have hbs := hb.size
        clear hc
        go_wp2_with (at_builtin; refine wpList_append_own _ rfl _ _ 23 rfl w.heap.size 9 i0 (.string ⟨#[]⟩) 1 16 Tryd.underlying23 hi hz0 hz1 hz2 rfl (by decide) _ _ _ rfl (hown1.alloc _) ⟨wr.heap.size, 0, none⟩ 1 1 [.string (s.extract a k)] rfl rfl ?c1 ?c2 ?c3 ?c4 ?c5 ?_)
        case c1 =>
          intro u v hj
          match u, hj with
          | 0, hj => simp at hj; subst hj; simp [Addr.add]
        case c2 => intro u hu; simp at hu; subst hu; rfl
        case c3 => unfold maxLen; omega
        case c4 => omega
        case c5 => simp; omega
        intro v' w3 hown' hgrow _
        have hO3 : OwnL w.heap.size v' (acc ++ [(s.extract a k).data.toList]) w3 := own_snoc hown'
        have hb3 : Below w.heap.size wr w3 := ((Below.refl _ _).alloc (by omega) _).grown hgrow (by simp; omega) (fun k hk => (hown1.lt k hk).1)
        go_wp2
        go_roundw
        case rel => exact ⟨k + 1, k + 1, _, by omega, Nat.le_refl _, by go_num, by go_num, by simp; omega, HN.out, hO3, hb.trans hb3⟩
        case measure => simp [intOf]; omega
      · have HN := Lib.hid (partsAt_skip HG.out hak hlt hc)
        have e1 : ((s[k].toNat : Int) == (c.toNat : Int)) = false := by
          rw [beq_eq_false_iff_ne]; intro e; exact hc (UInt8.toNat_inj.1 (by omega))
        clear hc
        go_wp2
        go_roundw
        case rel => exact ⟨k + 1, a, acc, by omega, by omega, by go_num, rfl, by omega, HN.out, hown, hb⟩
        case measure => simp [intOf]; omega
    · have HN := Lib.hid (partsAt_end HG.out hak (by omega))
      have hbs := hb.size
      go_wp2_with (at_builtin; refine wpList_append_own _ rfl _ _ 23 rfl w.heap.size 9 i0 (.string ⟨#[]⟩) 1 16 Tryd.underlying23 hi hz0 hz1 hz2 rfl (by decide) _ _ _ rfl (hown1.alloc _) ⟨wr.heap.size, 0, none⟩ 1 1 [.string (s.extract a s.size)] rfl rfl ?q1 ?q2 ?q3 ?q4 ?q5 ?_)
      case q1 =>
        intro u v hj
        match u, hj with
        | 0, hj => simp at hj; subst hj; simp [Addr.add]
      case q2 => intro u hu; simp at hu; subst hu; rfl
      case q3 => unfold maxLen; omega
      case q4 => omega
      case q5 => simp; omega
      intro v' w3 hown' hgrow _
      have hO3 : OwnL w.heap.size v' (acc ++ [(s.extract a s.size).data.toList]) w3 := own_snoc hown'
      have hb3 : Below w.heap.size wr w3 := ((Below.refl _ _).alloc (by omega) _).grown hgrow (by simp; omega) (fun k hk => (hown1.lt k hk).1)
      go_wp2
      go_ret
      exact ⟨v', rfl, by rw [HN.out]; exact hO3, hb.trans hb3⟩
set_option maxRecDepth 100000 in
set_option maxHeartbeats 2000000 in
theorem l2Local_any (s : ByteArray) (w : World) (hs : s.size ≤ 1073741000) :
    Calls Tryd.prog 120 #[.string s] w fun e w' => e = .returned (.bool (isLocal s.data.toList)) ∧ Below w.heap.size w w' := by
  have HSM := Lib.hid (splitC_small 46 s.data.toList)
  have HD : Hid (isLocal s.data.toList = (decide (s.size ≤ 30) && (splitC 46 s.data.toList).all isAtom)) := rfl
  go_enter Tryd.func120, Tryd.ntmps120
  go_wp2_with fail
  refine (l2Parts_any s 46 _ hs).mono ?_
  rintro e w1 ⟨v, rfl, ho, hb1⟩
  obtain ⟨a1, c1, rfl, hr, hm⟩ := ho.read
  generalize hX : splitC 46 s.data.toList = xs at *
  have HX := Lib.hid hX
  obtain ⟨_, hr2⟩ := hr
  have HR := Lib.hid hr2
  have hlen : xs.length ≤ 1073741824 := by have := HSM.out.1; rw [size_list] at this; omega
  clear hX hr2
  go_wp2_with fail
  go_loop [4] (fun i => ∃ k : Nat, k ≤ xs.length ∧ i = .int .i64 k ∧ ∀ j, (h : j < k) → (h' : j < xs.length) → isAtom xs[j] = true) (fun i => xs.length - (intOf i).toNat)
  case atStart => exact ⟨0, Nat.zero_le _, rfl, fun j h => by omega⟩
  case round =>
    obtain ⟨k, hk, rfl, hall⟩ := hrel
    have HA := Lib.hid hall
    clear hall
    by_cases hlt : k < xs.length
    · obtain ⟨b, o, rfl, hbl, hcell⟩ := HR.out.resolve_left (by omega)
      have hc1 : w1.cell? ⟨b, o + k, none⟩ = some (.string (str xs[k])) := hcell k hlt
      have hsz : (str xs[k]).size ≤ 1073741824 := by rw [str_size]; have := HSM.out.2 _ (List.getElem_mem hlt); rw [size_list] at this; omega
      clear hcell
      cases hp : isAtom xs[k]
      · have HP : Hid (isAtom (str xs[k]).data.toList = false) := by show _ = _; rw [str_list]; exact hp
        have HE : Hid (xs.all isAtom = false) := by show _ = _; rw [List.all_eq_false]; exact ⟨_, List.getElem_mem hlt, by simp [hp]⟩
        generalize str xs[k] = x at *
        clear hp
        go_wp2_with fail
        refine (atomValidS_any x _ (by unfold maxLen; omega)).mono ?_
        rintro e w2 ⟨rfl, rfl⟩
        rw [HP.out]
        go_wp2
        go_ret
        exact ⟨ret_bool (by rw [HD.out, HE.out]; simp), hb1⟩
      · have HP : Hid (isAtom (str xs[k]).data.toList = true) := by show _ = _; rw [str_list]; exact hp
        have HQ := Lib.hid hp
        generalize str xs[k] = x at *
        clear hp
        go_wp2_with fail
        refine (atomValidS_any x _ (by unfold maxLen; omega)).mono ?_
        rintro e w2 ⟨rfl, rfl⟩
        rw [HP.out]
        go_wp2
        go_round
        case rel => exact ⟨k + 1, by omega, by go_num, fun j h h' => by
          by_cases e : j = k
          · subst e; exact HQ.out
          · exact HA.out j (by omega) h'⟩
        case measure => simp [intOf]; omega
    · have HE : Hid (xs.all isAtom = true) := by
        show _ = _
        rw [List.all_eq_true]; intro x hx
        obtain ⟨j, hj, rfl⟩ := List.getElem_of_mem hx
        exact HA.out j (by omega) hj
      go_wp2
      go_ret
      exact ⟨ret_bool (by rw [HD.out, HE.out, Bool.and_true]; rw [Bool.eq_iff_iff]; simp; omega), hb1⟩
theorem labC_nat : ∀ n, n < 256 → labC (UInt8.ofNat n) = ((alnumB (UInt8.ofNat n) || decide (UInt8.ofNat n = 45)) && !capB (UInt8.ofNat n)) := by decide +kernel
theorem labC_eq (c : UInt8) : labC c = ((alnumB c || decide (c = 45)) && !capB c) := by
  have := labC_nat c.toNat c.toNat_lt; rw [UInt8.ofNat_toNat] at this; exact this
set_option maxRecDepth 100000 in
set_option maxHeartbeats 8000000 in
theorem l2Domain_any (s : ByteArray) (w : World) (hs : s.size ≤ 1073741000) :
    Calls Tryd.prog 121 #[.string s] w fun e w' => e = .returned (.bool (isDomain s.data.toList)) ∧ Below w.heap.size w w' := by
  have HSM := Lib.hid (splitC_small 46 s.data.toList)
  have HD : Hid (isDomain s.data.toList = (decide (s.size ≤ 40) && (splitC 46 s.data.toList).all isLab)) := rfl
  go_enter Tryd.func121, Tryd.ntmps121
  go_wp2_with fail
  refine (l2Parts_any s 46 _ hs).mono ?_
  rintro e w1 ⟨v, rfl, ho, hb1⟩
  obtain ⟨a1, c1, rfl, hr, hm⟩ := ho.read
  generalize hX : splitC 46 s.data.toList = xs at *
  have HX := Lib.hid hX
  obtain ⟨_, hr2⟩ := hr
  have HR := Lib.hid hr2
  have hlen : xs.length ≤ 1073741824 := by have := HSM.out.1; rw [size_list] at this; omega
  clear hX hr2
  go_wp2_with fail
  go_loop [4] (fun i => ∃ k : Nat, k ≤ xs.length ∧ i = .int .i64 k ∧ ∀ j, (h : j < k) → (h' : j < xs.length) → isLab xs[j] = true) (fun i => xs.length - (intOf i).toNat)
  case atStart => exact ⟨0, Nat.zero_le _, rfl, fun j h => by omega⟩
  case round =>
    obtain ⟨k, hk, rfl, hall⟩ := hrel
    have HA := Lib.hid hall
    clear hall
    by_cases hlt : k < xs.length
    · obtain ⟨b, o, rfl, hbl, hcell⟩ := HR.out.resolve_left (by omega)
      have hc1 : w1.cell? ⟨b, o + k, none⟩ = some (.string (str xs[k])) := hcell k hlt
      have hsz : (str xs[k]).size ≤ 1073741824 := by rw [str_size]; have := HSM.out.2 _ (List.getElem_mem hlt); rw [size_list] at this; omega
      have HBAD : Hid (isLab xs[k] = false → xs.all isLab = false) := fun hp => by rw [List.all_eq_false]; exact ⟨_, List.getElem_mem hlt, by simp [hp]⟩
      have HOK : Hid (isLab xs[k] = true → ∀ j, (h : j < k + 1) → (h' : j < xs.length) → isLab xs[j] = true) := fun hp j h h' => by
        by_cases e : j = k
        · subst e; exact hp
        · exact HA.out j (by omega) h'
      have HXK : Hid (xs[k] = (str xs[k]).data.toList) := by show _ = _; rw [str_list]
      generalize str xs[k] = x at *
      clear hcell
      by_cases h0 : x.size = 0
      · have HB := Lib.hid (HBAD.out (by rw [HXK.out]; exact isLab_nil x h0))
        have he := empty_t h0
        have H0 := Lib.hid h0
        clear h0
        go_wp2
        go_ret
        exact ⟨ret_bool (by rw [HD.out, HB.out]; simp), hb1⟩
      · have he := empty_f (s := x) (by omega)
        have hp : 0 < x.size := by omega
        have hp2 : 1 ≤ x.size := by omega
        have h0' : x.size - 1 < x.size := by omega
        have hhead : x.data.toList.head? = some x[0] := by
          rw [List.head?_eq_getElem?, List.getElem?_eq_getElem (by rw [size_list]; exact hp)]; rfl
        have hlast : x.data.toList.getLast? = some x[x.size - 1] := by
          rw [List.getLast?_eq_getElem?, size_list, List.getElem?_eq_getElem (by rw [size_list]; omega)]; rfl
        by_cases ha : x[0] = 45
        · have HB := Lib.hid (HBAD.out (by rw [HXK.out]; unfold isLab; rw [hhead, ha]; simp))
          have e1 := beq_t ha (n := 45) rfl
          clear ha hhead hlast
          go_wp2
          go_ret
          exact ⟨ret_bool (by rw [HD.out, HB.out]; simp), hb1⟩
        · have e1 := beq_f ha (n := 45) rfl
          by_cases hb : x[x.size - 1] = 45
          · have HB := Lib.hid (HBAD.out (by rw [HXK.out]; unfold isLab; rw [hlast, hb]; simp))
            have e2 := beq_t hb (n := 45) rfl
            clear ha hb hhead hlast
            go_wp2
            go_ret
            exact ⟨ret_bool (by rw [HD.out, HB.out]; simp), hb1⟩
          · have e2 := beq_f hb (n := 45) rfl
            have HGOOD : Hid ((∀ j, (h' : j < x.size) → labC x[j] = true) → isLab xs[k] = true) := fun h => by
              rw [HXK.out, isLab_good x hp h]; simp [ha, hb]
            have HBAD2 : Hid (∀ j, (h' : j < x.size) → labC x[j] = false → xs.all isLab = false) := fun j h' h => HBAD.out (by rw [HXK.out]; exact isLab_bad x j h' h)
            clear ha hb hhead hlast
            go_wp2_with fail
            go_loop [6] (fun i => ∃ q : Nat, q ≤ x.size ∧ i = .int .i64 q ∧ ∀ j, (h : j < q) → (h' : j < x.size) → labC x[j] = true) (fun i => x.size - (intOf i).toNat)
            case atStart => exact ⟨0, Nat.zero_le _, rfl, fun j h => by omega⟩
            case round =>
              obtain ⟨q, hq, rfl, hqall⟩ := hrel
              have HQA := Lib.hid hqall
              clear hqall
              by_cases hqlt : q < x.size
              · have HEQ := Lib.hid (labC_eq x[q])
                have HSTEP : Hid (labC x[q] = true → ∀ j, (h : j < q + 1) → (h' : j < x.size) → labC x[j] = true) := fun hp j h h' => by
                  by_cases e : j = q
                  · subst e; exact hp
                  · exact HQA.out j (by omega) h'
                cases hal : alnumB x[q]
                · have HAL := Lib.hid hal
                  by_cases h45 : x[q] = 45
                  · have e3 := bneq_f h45 (n := 45) rfl
                    have hlow : (x[q].toNat : Int) < 65 := by rw [h45]; decide
                    have HN := Lib.hid (HSTEP.out (by rw [HEQ.out, h45]; decide))
                    clear hal h45
                    go_wp2_with fail
                    refine (l1Letter_any _ _).mono ?_
                    rintro e w2 ⟨rfl, rfl⟩
                    rw [HAL.out]
                    go_wp2
                    go_round
                    case rel => exact ⟨q + 1, by omega, by go_num, HN.out⟩
                    case measure => simp [intOf]; omega
                  · have e3 := bneq_t h45 (n := 45) rfl
                    have HB := Lib.hid (HBAD2.out q hqlt (by rw [HEQ.out, hal]; simp [h45]))
                    clear hal h45
                    go_wp2_with fail
                    refine (l1Letter_any _ _).mono ?_
                    rintro e w2 ⟨rfl, rfl⟩
                    rw [HAL.out]
                    go_wp2
                    go_ret
                    exact ⟨ret_bool (by rw [HD.out, HB.out]; simp), hb1⟩
                · have HAL := Lib.hid hal
                  cases hcp : capB x[q]
                  · have HN := Lib.hid (HSTEP.out (by rw [HEQ.out, hal, hcp]; rfl))
                    rcases capB_f hcp with hlow | ⟨hlo, hhi⟩
                    · clear hal hcp
                      go_wp2_with fail
                      refine (l1Letter_any _ _).mono ?_
                      rintro e w2 ⟨rfl, rfl⟩
                      rw [HAL.out]
                      go_wp2
                      go_round
                      case rel => exact ⟨q + 1, by omega, by go_num, HN.out⟩
                      case measure => simp [intOf]; omega
                    · clear hal hcp
                      go_wp2_with fail
                      refine (l1Letter_any _ _).mono ?_
                      rintro e w2 ⟨rfl, rfl⟩
                      rw [HAL.out]
                      go_wp2
                      go_round
                      case rel => exact ⟨q + 1, by omega, by go_num, HN.out⟩
                      case measure => simp [intOf]; omega
                  · have HB := Lib.hid (HBAD2.out q hqlt (by rw [HEQ.out, hcp]; simp))
                    obtain ⟨hlo, hhi⟩ := capB_t hcp
                    clear hal hcp
                    go_wp2_with fail
                    refine (l1Letter_any _ _).mono ?_
                    rintro e w2 ⟨rfl, rfl⟩
                    rw [HAL.out]
                    go_wp2
                    go_ret
                    exact ⟨ret_bool (by rw [HD.out, HB.out]; simp), hb1⟩
              · have HG := Lib.hid (HOK.out (HGOOD.out (fun j h' => HQA.out j (by omega) h')))
                go_wp2
                go_round
                case rel => exact ⟨k + 1, by omega, by go_num, HG.out⟩
                case measure => simp [intOf]; omega
    · have HE : Hid (xs.all isLab = true) := by
        show _ = _
        rw [List.all_eq_true]; intro x hx
        obtain ⟨j, hj, rfl⟩ := List.getElem_of_mem hx
        exact HA.out j (by omega) hj
      go_wp2
      go_ret
      exact ⟨ret_bool (by rw [HD.out, HE.out, Bool.and_true]; rw [Bool.eq_iff_iff]; simp; omega), hb1⟩
end Go.Proofs.YtccendchnndaiaaDoor
