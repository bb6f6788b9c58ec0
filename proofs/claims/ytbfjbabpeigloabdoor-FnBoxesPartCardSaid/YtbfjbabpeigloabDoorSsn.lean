/-
  Rows of mails compared. No statement is proved here.
-/
import Derived.Test.YtbfjbabpeigloabDoorMalS
import Derived.Test.YtbfjbabpeigloabDoorQuietB
import Derived.Deep.QuietTactic
import Derived.BigQuiet
namespace Go.Proofs.YtbfjbabpeigloabDoor
open Go.RowKit

theorem take_mls {xs : List MlA} {k : Nat} (h : k < xs.length) : (xs.take (k + 1)).map (·.m) = (xs.take k).map (·.m) ++ [xs[k].m] := by
  rw [List.take_succ_eq_append_getElem h, List.map_append]; rfl
theorem mls_all {xs ys : List MlA} {n k : Nat} (h1 : xs.length = n) (h2 : ys.length = n) (hk : n ≤ k) (h : (xs.take k).map (·.m) = (ys.take k).map (·.m)) : xs.map (·.m) = ys.map (·.m) := by
  rw [List.take_of_length_le (by omega), List.take_of_length_le (by omega)] at h; exact h
theorem mls_ne {xs ys : List MlA} {k : Nat} (h1 : k < xs.length) (h2 : k < ys.length) (h : xs[k].m ≠ ys[k].m) : xs.map (·.m) ≠ ys.map (·.m) := fun e => h (by
  have e1 : (xs.map (·.m))[k]? = (ys.map (·.m))[k]? := by rw [e]
  rw [List.getElem?_map, List.getElem?_map, List.getElem?_eq_getElem h1, List.getElem?_eq_getElem h2] at e1
  injection e1)
set_option maxRecDepth 100000 in
set_option maxHeartbeats 4000000 in
theorem equalFunc_any (M : Nat) (a1 a2 : Option Addr) (n1 c1 n2 c2 : Nat) (xs ys : List MlA) (w : World) (hx : xs.length = n1) (hy : ys.length = n2) (h1 : RdMs M w a1 xs) (h2 : RdMs M w a2 ys) (hM : M ≤ maxLen) (hn1 : n1 ≤ maxLen) (hn2 : n2 ≤ maxLen) :
    Calls Tryd.prog 64 #[.slice a1 n1 c1, .slice a2 n2 c2, .func (.func 13) #[] #[]] w fun e w' => e = .returned (.bool (decide (xs.map (·.m) = ys.map (·.m)))) ∧ Below w.heap.size w w' := by
  unfold maxLen at hn1 hn2
  have X1 := Lib.hid h1
  have X2 := Lib.hid h2
  have L1 := Lib.hid hx
  have L2 := Lib.hid hy
  clear h1 h2 hx hy
  by_cases hn : n1 = n2
  · subst hn
    have e1 : ((n1 : Int) != (n1 : Int)) = false := by simp
    go_enter Tryd.func64, Tryd.ntmps64
    go_wp2_with fail
    go_loopw [17] (fun i wr => ∃ k : Nat, k ≤ n1 ∧ i = .int .i64 k ∧ Below w.heap.size w wr ∧ (xs.take k).map (·.m) = (ys.take k).map (·.m)) (fun i _ => n1 - (intOf i).toNat)
    case atStart => exact ⟨0, Nat.zero_le _, rfl, Below.refl _ _, rfl⟩
    case round =>
      obtain ⟨k, hk, rfl, hb, htk⟩ := hrel
      have HTK := Lib.hid htk
      clear htk
      by_cases hlt : k < n1
      · have k1 : k < xs.length := by rw [L1.out]; exact hlt
        have k2 : k < ys.length := by rw [L2.out]; exact hlt
        obtain ⟨b1, o1, rfl, hb1, p0, p1, p2, p3⟩ := (X1.out.below hb).at k1
        obtain ⟨b2, o2, rfl, hb2, q0, q1, q2, q3⟩ := (X2.out.below hb).at k2
        have hkn : (k : Int) < (n1 : Int) := by omega
        have hk0 : (0 : Int) ≤ (k : Int) := by omega
        have HC : Hid (∀ u, Below wr.heap.size wr u → Calls Tryd.prog 13 #[.agg #[.string (str xs[k].m.frm), .slice xs[k].a1 xs[k].m.to.length xs[k].c1, .slice xs[k].a2 xs[k].m.lines.length xs[k].c2], .agg #[.string (str ys[k].m.frm), .slice ys[k].a1 ys[k].m.to.length ys[k].c1, .slice ys[k].a2 ys[k].m.lines.length ys[k].c2]] u fun e w' => e = .returned (.bool (decide (xs[k].m = ys[k].m))) ∧ Below u.heap.size u w') := fun u hu => mailSame_any M xs[k] ys[k] u (p3.below hu) (q3.below hu) hM
        have HT1 := Lib.hid (take_mls k1)
        have HT2 := Lib.hid (take_mls k2)
        have HNE := Lib.hid (mls_ne k1 k2)
        clear p3 q3
        by_cases hq : xs[k].m = ys[k].m
        · have HN : Hid ((xs.take (k + 1)).map (·.m) = (ys.take (k + 1)).map (·.m)) := by show _ = _; rw [HT1.out, HT2.out, HTK.out, hq]
          rw [decide_eq_true hq] at HC
          clear hq HT1 HT2 HNE
          generalize xs[k] = x at *
          generalize ys[k] = y at *
          go_wp2_with fail
          refine (HC.out _ (((Below.refl _ _).alloc (Nat.le_refl _) _).alloc (by simp) _)).mono ?_
          rintro e w5 ⟨rfl, hb5⟩
          have hbx := nx hb (nx (((Below.refl _ _).alloc (Nat.le_refl _) _).alloc (by simp) _) hb5)
          clear p0 p1 p2 q0 q1 q2
          go_wp2
          go_roundw
          case rel => exact ⟨k + 1, by omega, by go_num, hbx, HN.out⟩
          case measure => simp [intOf]; omega
        · have HN : Hid (xs.map (·.m) ≠ ys.map (·.m)) := HNE.out hq
          rw [decide_eq_false hq] at HC
          clear hq HT1 HT2 HNE
          generalize xs[k] = x at *
          generalize ys[k] = y at *
          go_wp2_with fail
          refine (HC.out _ (((Below.refl _ _).alloc (Nat.le_refl _) _).alloc (by simp) _)).mono ?_
          rintro e w5 ⟨rfl, hb5⟩
          have hbx := nx hb (nx (((Below.refl _ _).alloc (Nat.le_refl _) _).alloc (by simp) _) hb5)
          clear p0 p1 p2 q0 q1 q2
          go_wp2
          go_ret
          exact ⟨ret_bool (decide_eq_false HN.out).symm, hbx⟩
      · have HN : Hid (xs.map (·.m) = ys.map (·.m)) := mls_all L1.out L2.out (by omega) HTK.out
        go_wp2
        go_ret
        exact ⟨ret_bool (decide_eq_true HN.out).symm, hb⟩
  · have e1 : ((n1 : Int) != (n2 : Int)) = true := by rw [bne_iff_ne]; omega
    have HN : Hid (xs.map (·.m) ≠ ys.map (·.m)) := by show _ ≠ _; intro e; have := congrArg List.length e; rw [List.length_map, List.length_map, L1.out, L2.out] at this; exact hn this
    go_enter Tryd.func64, Tryd.ntmps64
    go_wp2
    go_ret
    exact ⟨ret_bool (decide_eq_false HN.out).symm, Below.refl _ _⟩
end Go.Proofs.YtbfjbabpeigloabDoor
