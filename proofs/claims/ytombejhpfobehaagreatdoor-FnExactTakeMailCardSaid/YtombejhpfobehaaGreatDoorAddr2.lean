/-
  Addresses: whether one is valid, its text, cutting outside of quotes: what the program's functions return. No statement is proved here.
-/
import Derived.Test.YtombejhpfobehaaGreatDoorAddr
import Derived.Test.YtombejhpfobehaaGreatDoorAdrV
import Derived.Deep.QuietTactic
import Derived.BigQuiet
namespace Go.Proofs.YtombejhpfobehaaGreatDoor
open Go.RowKit

/-- What cutting leaves: what is before and behind the first mark outside of quotes, or all of it. -/
def CutRet (s : ByteArray) (c : UInt8) (w : World) (e : Ending) (w' : World) : Prop :=
  (∀ a d, cutU c s.data.toList = some (a, d) → e = .returned (.tuple #[.string (str a), .string (str d), .bool true])) ∧
  (cutU c s.data.toList = none → e = .returned (.tuple #[.string s, .string ⟨#[]⟩, .bool false])) ∧ Below w.heap.size w w'
theorem cutRet_some {s : ByteArray} {c : UInt8} {k : Nat} {w w' : World} {x y : ByteArray} (h : cutK c 0 s.data.toList = some k) (hx : x = s.extract 0 k) (hy : y = s.extract (k + 1) s.size) (hb : Below w.heap.size w w') : CutRet s c w (.returned (.tuple #[.string x, .string y, .bool true])) w' := by
  have hc : cutU c s.data.toList = some (s.data.toList.take k, s.data.toList.drop (k + 1)) := by unfold cutU; rw [h]; rfl
  refine ⟨fun a d h' => ?_, fun h' => ?_, hb⟩
  · rw [hc] at h'; injection h' with h'; injection h' with h1 h2; subst h1 h2; rw [hx, hy, ext_take, ext_drop]
  · rw [hc] at h'; cases h'
theorem cutRet_none {s : ByteArray} {c : UInt8} {w w' : World} (h : cutK c 0 s.data.toList = none) (hb : Below w.heap.size w w') : CutRet s c w (.returned (.tuple #[.string s, .string ⟨#[]⟩, .bool false])) w' := by
  have hc : cutU c s.data.toList = none := by unfold cutU; rw [h]; rfl
  refine ⟨fun a d h' => ?_, fun _ => rfl, hb⟩
  rw [hc] at h'; cases h'
/-- Cutting goes on at place k. -/
def cutsAt (c : UInt8) (s : ByteArray) (k : Nat) : Prop := cutK c 0 s.data.toList = (cutK c 0 (s.data.toList.drop k)).map (· + k)
theorem cutsAt_start (c : UInt8) (s : ByteArray) : cutsAt c s 0 := by unfold cutsAt; rw [List.drop_zero]; cases cutK c 0 s.data.toList <;> rfl
theorem cutsAt_hit {c : UInt8} {s : ByteArray} {k : Nat} (h : cutsAt c s k) (hk : k < s.size) (hc : s[k] = c) : cutK c 0 s.data.toList = some k := by
  unfold cutsAt at h; rw [h, drop_at s k hk, hc, cutK_hit]; simp
theorem cutsAt_skip {c : UInt8} {s : ByteArray} {k : Nat} (h : cutsAt c s k) (hk : k < s.size) (hc : s[k] ≠ c) (hq : s[k] ≠ 34) : cutsAt c s (k + 1) := by
  unfold cutsAt at h ⊢; rw [h, drop_at s k hk, cutK_skip _ hc hq, map_add]; exact map_to (by omega)
theorem cutsAt_end {c : UInt8} {s : ByteArray} {k : Nat} (h : cutsAt c s k) (hk : s.size ≤ k) : cutK c 0 s.data.toList = none := by
  unfold cutsAt at h; rw [h, drop_out s k hk, cutK_nil]; rfl
theorem cutsAt_stuck {c : UInt8} {s : ByteArray} {k : Nat} (hc34 : (34 : UInt8) ≠ c) (h : cutsAt c s k) (hk : k < s.size) (hq : s[k] = 34) (hr : readQ (s.data.toList.drop (k + 1)) = none) : cutK c 0 s.data.toList = none := by
  unfold cutsAt at h; rw [h, drop_at s k hk, hq, cutK_open _ hc34, cutK_quote, hr]; rfl
theorem cutsAt_quote {c : UInt8} {s : ByteArray} {k : Nat} {t r : List UInt8} (hc34 : (34 : UInt8) ≠ c) (h : cutsAt c s k) (hk : k < s.size) (hq : s[k] = 34) (hr : readQ (s.data.toList.drop (k + 1)) = some (t, r)) : cutsAt c s (s.size - r.length) ∧ k + 2 ≤ s.size - r.length := by
  have hb := readQ_bound _ _ _ hr
  have hd := readQ_rest _ _ _ hr
  rw [List.length_drop, size_list] at hb hd
  rw [List.drop_drop] at hd
  have e : k + 1 + (s.size - (k + 1) - r.length) = s.size - r.length := by omega
  rw [e] at hd
  refine ⟨?_, by omega⟩
  unfold cutsAt at h ⊢
  rw [h, drop_at s k hk, hq, cutK_open _ hc34, cutK_quote, hr, hd]
  show (((cutK c 0 r).map (· + ((s.data.toList.drop (k + 1)).length - r.length))).map (· + 1)).map (· + k) = _
  rw [map_add, map_add]
  exact map_to (by rw [List.length_drop, size_list]; omega)
set_option maxRecDepth 100000 in
set_option maxHeartbeats 4000000 in
theorem cutUnquoted_any (s : ByteArray) (c : UInt8) (w : World) (hc34 : (34 : UInt8) ≠ c) (hs : s.size ≤ 1073741824) :
    Calls Tryz.prog 135 #[.string s, .int .u8 c.toNat] w (CutRet s c w) := by
  go_enter Tryz.func135, Tryz.ntmps135
  go_wp2_with fail
  go_loopw [7] (fun i wr => ∃ k : Nat, k ≤ s.size ∧ i = .int .i64 k ∧ cutsAt c s k ∧ Below w.heap.size w wr) (fun i _ => s.size - (intOf i).toNat)
  case atStart => exact ⟨0, Nat.zero_le _, rfl, cutsAt_start c s, Below.refl _ _⟩
  case round =>
    obtain ⟨k, hk, rfl, hg, hb⟩ := hrel
    have HG := Lib.hid hg
    clear hg
    by_cases hlt : k < s.size
    · by_cases hc : s[k] = c
      · have HR := Lib.hid (cutsAt_hit HG.out hlt hc)
        have e1 : ((s[k].toNat : Int) == (c.toNat : Int)) = true := by rw [hc]; simp
        have hw1 : IntKind.i64.wrap ((k : Int) + 1) = (k : Int) + 1 := IntWalk.i64_in _ (by omega)
        have hw2 : 0 ≤ (k : Int) + 1 := by omega
        have hw3 : ((k : Int) + 1).toNat = k + 1 := by omega
        clear hc
        go_wp2
        go_quiet (fail)
        go_wp2
        go_ret3
        exact cutRet_some HR.out rfl rfl ((hb.trans ⟨rfl, rfl, rfl, Nat.le_refl _, fun _ _ => rfl⟩))
      · have e1 : ((s[k].toNat : Int) == (c.toNat : Int)) = false := by
          rw [beq_eq_false_iff_ne]; intro e; exact hc (UInt8.toNat_inj.1 (by omega))
        by_cases hq : s[k] = 34
        · have e2 := bneq_f hq (n := 34) rfl
          cases hr : readQ (s.data.toList.drop (k + 1)) with
          | none =>
            have HR := Lib.hid (cutsAt_stuck hc34 HG.out hlt hq hr)
            have HQ := Lib.hid hr
            clear hc hq hr
            go_wp2_with fail
            refine (readQuoted_any s k _ hlt hs).mono ?_
            rintro e w1 ⟨_, hno, hb1⟩
            have he := hno HQ.out
            clear hno
            subst he
            go_wp2
            go_ret3
            exact cutRet_none HR.out (nx hb hb1)
          | some y =>
            obtain ⟨t, r⟩ := y
            obtain ⟨hN, hlo⟩ := cutsAt_quote hc34 HG.out hlt hq hr
            have HN := Lib.hid hN
            have HQ := Lib.hid hr
            clear hc hq hr hN
            go_wp2_with fail
            refine (readQuoted_any s k _ hlt hs).mono ?_
            rintro e w1 ⟨hy, _, hb1⟩
            have he := hy t r HQ.out
            clear hy
            subst he
            obtain ⟨q, hq⟩ : ∃ q, q = s.size - r.length := ⟨_, rfl⟩
            rw [← hq] at HN hlo ⊢
            have hqs : q ≤ s.size := by omega
            clear hq
            go_wp2
            go_roundw
            case rel => exact ⟨q, hqs, by go_num, HN.out, nx hb hb1⟩
            case measure => simp [intOf]; omega
        · have e2 := bneq_t hq (n := 34) rfl
          have HN := Lib.hid (cutsAt_skip HG.out hlt hc hq)
          clear hc hq
          go_wp2
          go_roundw
          case rel => exact ⟨k + 1, by omega, by go_num, HN.out, hb⟩
          case measure => simp [intOf]; omega
    · have HR := Lib.hid (cutsAt_end HG.out (by omega))
      go_wp2
      go_ret3
      exact cutRet_none HR.out hb
end Go.Proofs.YtombejhpfobehaaGreatDoor
