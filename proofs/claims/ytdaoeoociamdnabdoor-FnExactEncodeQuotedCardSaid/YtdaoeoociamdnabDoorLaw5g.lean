/-
  The exact laws of chapter 5 on lines written: each law's walk. For every input of the law: it returns true, and the input reads as it did. Conditions: none but the statement's own.
-/
import Derived.Test.YtdaoeoociamdnabDoorLaw0c
import Derived.Test.YtdaoeoociamdnabDoorDrawC
import Derived.Test.YtdaoeoociamdnabDoorCodZ
import Derived.Test.YtdaoeoociamdnabDoorLists
import Derived.SliceStrings
namespace Go.Proofs.YtdaoeoociamdnabDoor
open Go.ChangeShapes Go.WideShapes Go.ChangeAt Go.RowKit
open Go.ChangeMaps (open_string shut_string)

set_option maxRecDepth 100000 in
set_option maxHeartbeats 4000000 in
theorem fnExactEncodeQuoted_walk (s : ByteArray) (w : World) (hmx : ∃ m, w.cell? ⟨4, 0, none⟩ = some (.int .i64 m)) (hs : s.size ≤ maxLen) :
    Calls Tryd.prog 6 #[.string s] w fun e w' => e = .returned (.bool true) ∧ Below w.heap.size w w' := by
  have hm' := hs
  unfold maxLen at hm'
  by_cases hn : 1048576 < s.size
  · have hd : decide ((1048576 : Int) < s.size) = true := by simp; omega
    go_enter Tryd.func6, Tryd.ntmps6
    go_wp2
    go_ret
    exact ⟨rfl, Below.refl _ _⟩
  · have hd : decide ((1048576 : Int) < s.size) = false := by simp; omega
    have hlen := (encQ_small s.data.toList).1
    have HF1 : Hid (∀ u : World, Below w.heap.size w u → Calls Tryd.prog 22 #[.string s] u (EncRet (encQ s.data.toList) u)) := fun u hu => encodeQuoted_any s u (mx_below hmx hu) (by omega)
    go_enter Tryd.func6, Tryd.ntmps6
    go_wp2_with fail
    refine (encodeQuotedS_any s _ (by omega)).mono ?_
    rintro e w1 ⟨v1, rfl, ho1, hb1⟩
    obtain ⟨a1, c1, rfl, hr1, hm1⟩ := ho1.read
    go_wp2_with fail
    refine (HF1.out _ hb1).mono ?_
    rintro e w2 ⟨v2, rfl, ho2, hb2⟩
    obtain ⟨a2, c2, rfl, hr2, hm2⟩ := ho2.read
    generalize hX : (encQ s.data.toList).getD [] = xs at *
    generalize hO : (encQ s.data.toList).isSome = ok at *
    have HX := Lib.hid hX
    have HO := Lib.hid hO
    clear hX hO
    have hb12 := nx hb1 hb2
    go_wp2_with fail
    refine (eqStringS_any _ _ _ _ _ _ xs xs _ hr2 (hr1.below hb2) hm2 hm1).mono ?_
    rintro e w3 ⟨rfl, hb3⟩
    rw [decide_eq_true (rfl : xs = xs)]
    have hb13 := nx hb12 hb3
    have hz1 := hb1.size
    have hz2 := hb2.size
    have hz3 := hb3.size
    go_wp2_with fail
    refine (markStringS_any w1.heap.size a2 xs.length c2 xs 1 _ (ho2.keep hb3) rfl (by omega) (by omega) (by omega)).mono ?_
    rintro e w4 ⟨rfl, ho4, hb4⟩
    have hr1' : RdL w4 a1 xs.length xs := hr1.below ((hb2.trans (hb3.mono hz2)).trans hb4)
    have hb14 : Below w.heap.size w w4 := hb13.trans (hb4.mono hz1)
    have hz4 := hb4.size
    have hm4 : RdL w4 a2 xs.length (marksFrom 1 xs.length) := by
      obtain ⟨a', c', hv, hr, _⟩ := ho4.read
      rw [marksFrom_len] at hv hr
      injection hv with e1 _ _
      rw [e1]; exact hr
    go_wp2_with fail
    refine (heldStringS_any a2 xs.length c2 1 _ hm4 (by omega) (by omega)).mono ?_
    rintro e w5 ⟨rfl, hb5⟩
    have hb15 := nx hb14 hb5
    go_wp2_with fail
    refine (HF1.out _ hb15).mono ?_
    rintro e w6 ⟨v6, rfl, ho6, hb6⟩
    rw [HX.out] at ho6
    rw [HO.out]
    obtain ⟨a6, c6, rfl, hr6, hm6⟩ := ho6.read
    have hb16 := nx hb15 hb6
    go_wp2_with fail
    refine (eqStringS_any _ _ _ _ _ _ xs xs _ hr6 ((hr1'.below hb5).below hb6) hm6 hm1).mono ?_
    rintro e w7 ⟨rfl, hb7⟩
    rw [decide_eq_true (rfl : xs = xs)]
    have hb17 := nx hb16 hb7
    go_wp2_with fail
    refine (heldStringS_any a2 xs.length c2 1 _ (((hm4.below hb5).below hb6).below hb7) (by omega) (by omega)).mono ?_
    rintro e w8 ⟨rfl, hb8⟩
    go_wp2
    go_ret
    exact ⟨rfl, nx hb17 hb8⟩
set_option maxRecDepth 100000 in
set_option maxHeartbeats 4000000 in
theorem fnExactEncodeBytes_walk (s : ByteArray) (k : Int) (w : World) (hmx : ∃ m, w.cell? ⟨4, 0, none⟩ = some (.int .i64 m)) (hs : s.size ≤ maxLen) (_ : (Lit.int .i64 k).wf = true) :
    Calls Tryd.prog 8 #[.string s, .int .i64 k] w fun e w' => e = .returned (.bool true) ∧ Below w.heap.size w w' := by
  have hm' := hs
  unfold maxLen at hm'
  by_cases hn : 1048576 < s.size
  · have hd : decide ((1048576 : Int) < s.size) = true := by simp; omega
    go_enter Tryd.func8, Tryd.ntmps8
    go_wp2
    go_ret
    exact ⟨rfl, Below.refl _ _⟩
  · have hd : decide ((1048576 : Int) < s.size) = false := by simp; omega
    have hlen := (encW_small s.data.toList k).1
    have HF1 : Hid (∀ u : World, Below w.heap.size w u → Calls Tryd.prog 10 #[.string s, .int .i64 k] u (EncRet (encW s.data.toList k) u)) := fun u hu => encodeBytes_any s k u (mx_below hmx hu) (by omega)
    go_enter Tryd.func8, Tryd.ntmps8
    go_wp2_with fail
    refine (encodeBytesS_any s k _ (by omega)).mono ?_
    rintro e w1 ⟨v1, rfl, ho1, hb1⟩
    obtain ⟨a1, c1, rfl, hr1, hm1⟩ := ho1.read
    go_wp2_with fail
    refine (HF1.out _ hb1).mono ?_
    rintro e w2 ⟨v2, rfl, ho2, hb2⟩
    obtain ⟨a2, c2, rfl, hr2, hm2⟩ := ho2.read
    generalize hX : (encW s.data.toList k).getD [] = xs at *
    generalize hO : (encW s.data.toList k).isSome = ok at *
    have HX := Lib.hid hX
    have HO := Lib.hid hO
    clear hX hO
    have hb12 := nx hb1 hb2
    go_wp2_with fail
    refine (eqStringS_any _ _ _ _ _ _ xs xs _ hr2 (hr1.below hb2) hm2 hm1).mono ?_
    rintro e w3 ⟨rfl, hb3⟩
    rw [decide_eq_true (rfl : xs = xs)]
    have hb13 := nx hb12 hb3
    have hz1 := hb1.size
    have hz2 := hb2.size
    have hz3 := hb3.size
    go_wp2_with fail
    refine (markStringS_any w1.heap.size a2 xs.length c2 xs 1 _ (ho2.keep hb3) rfl (by omega) (by omega) (by omega)).mono ?_
    rintro e w4 ⟨rfl, ho4, hb4⟩
    have hr1' : RdL w4 a1 xs.length xs := hr1.below ((hb2.trans (hb3.mono hz2)).trans hb4)
    have hb14 : Below w.heap.size w w4 := hb13.trans (hb4.mono hz1)
    have hz4 := hb4.size
    have hm4 : RdL w4 a2 xs.length (marksFrom 1 xs.length) := by
      obtain ⟨a', c', hv, hr, _⟩ := ho4.read
      rw [marksFrom_len] at hv hr
      injection hv with e1 _ _
      rw [e1]; exact hr
    go_wp2_with fail
    refine (heldStringS_any a2 xs.length c2 1 _ hm4 (by omega) (by omega)).mono ?_
    rintro e w5 ⟨rfl, hb5⟩
    have hb15 := nx hb14 hb5
    go_wp2_with fail
    refine (HF1.out _ hb15).mono ?_
    rintro e w6 ⟨v6, rfl, ho6, hb6⟩
    rw [HX.out] at ho6
    rw [HO.out]
    obtain ⟨a6, c6, rfl, hr6, hm6⟩ := ho6.read
    have hb16 := nx hb15 hb6
    go_wp2_with fail
    refine (eqStringS_any _ _ _ _ _ _ xs xs _ hr6 ((hr1'.below hb5).below hb6) hm6 hm1).mono ?_
    rintro e w7 ⟨rfl, hb7⟩
    rw [decide_eq_true (rfl : xs = xs)]
    have hb17 := nx hb16 hb7
    go_wp2_with fail
    refine (heldStringS_any a2 xs.length c2 1 _ (((hm4.below hb5).below hb6).below hb7) (by omega) (by omega)).mono ?_
    rintro e w8 ⟨rfl, hb8⟩
    go_wp2
    go_ret
    exact ⟨rfl, nx hb17 hb8⟩
set_option maxRecDepth 100000 in
set_option maxHeartbeats 1000000 in
theorem fnExactBestCode_walk (s : ByteArray) (w : World) (hmx : ∃ m, w.cell? ⟨4, 0, none⟩ = some (.int .i64 m)) (hs : s.size ≤ maxLen) :
    Calls Tryd.prog 7 #[.string s] w fun e w' => e = .returned (.bool true) ∧ Below w.heap.size w w' := by
  have hm' := hs
  unfold maxLen at hm'
  by_cases hn : 1048576 < s.size
  · have hd : decide ((1048576 : Int) < s.size) = true := by simp; omega
    go_enter Tryd.func7, Tryd.ntmps7
    go_wp2
    go_ret
    exact ⟨rfl, Below.refl _ _⟩
  · have hd : decide ((1048576 : Int) < s.size) = false := by simp; omega
    go_enter Tryd.func7, Tryd.ntmps7
    go_wp2_with fail
    refine (bestCodeS_any s _ (by omega)).mono ?_
    rintro e w1 ⟨rfl, hb1⟩
    go_wp2_with fail
    refine (bestCode_any s _ (mx_below hmx hb1) (by omega)).mono ?_
    rintro e w2 ⟨rfl, hb2⟩
    generalize (best s.data.toList).getD 0 = q at *
    generalize (best s.data.toList).isSome = ok at *
    go_wp2
    go_ret
    exact ⟨rfl, nx hb1 hb2⟩
end Go.Proofs.YtdaoeoociamdnabDoor
