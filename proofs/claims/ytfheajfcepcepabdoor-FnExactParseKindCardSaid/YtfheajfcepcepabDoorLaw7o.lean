/-
  The exact law of chapter 7 on ParseKind: its walk. For every input of the law: it returns true, and the input reads as it did. Conditions: none but the statement's own.
-/
import Derived.Test.YtfheajfcepcepabDoorLaw0
import Derived.Test.YtfheajfcepcepabDoorZip
namespace Go.Proofs.YtfheajfcepcepabDoor
open Go.ChangeShapes Go.WideShapes Go.ChangeAt Go.RowKit
open Go.ChangeMaps (open_string shut_string)

theorem rdF_ofK {B n : Nat} {a : Option Addr} {c : Nat} {xs : List Fld} {u : World} (h : OwnR n 2 fldC B (.slice a xs.length c) xs u) : RdR 2 fldC u a xs.length xs := by
  obtain ⟨a', c', e, h2, _, _⟩ := h.read fldC_len
  injection e with e1 _ _
  subst e1; exact h2
set_option maxRecDepth 100000 in
set_option maxHeartbeats 1000000 in
theorem markKind_any (B : Nat) (m s : ByteArray) (a : Option Addr) (n c : Nat) (xs : List Fld) (k : Nat) (w : World) (ho : OwnF B (.slice a n c) xs w) (hn : xs.length = n) (hk0 : 0 < k) (hk : k + 2 * n ≤ 1073741824) :
    Calls Tryd.prog 7 #[.agg #[.string m, .string s, .slice a n c], .int .i64 k] w (MarkedF B k a n c w) := by
  have hA : Below w.heap.size w (w.alloc (.cells #[.string m, .string s, .slice a n c] 24)) := (Below.refl _ _).alloc (Nat.le_refl _) _
  have HM := Lib.hid (markFieldS_any B a n c xs k _ (OwnR.keep ho hA) hn hk0 hk)
  clear ho hn
  go_enter Tryd.func7, Tryd.ntmps7
  go_wp2_with fail
  refine (HM.out).mono ?_
  rintro e w1 ⟨rfl, ho1, hn1⟩
  go_wp2
  go_ret
  exact ⟨rfl, ho1, (Only.of_below hA).trans hn1⟩
set_option maxRecDepth 100000 in
set_option maxHeartbeats 1000000 in
theorem heldKind_any (m s : ByteArray) (a : Option Addr) (n c : Nat) (k : Nat) (w : World) (hr : RdF w a n (marksF k n)) (hk0 : 0 < k) (hk : k + 2 * n ≤ 1073741824) :
    Calls Tryd.prog 8 #[.agg #[.string m, .string s, .slice a n c], .int .i64 k] w fun e w' => e = .returned (.int .i64 ((k + 2 * n : Nat) : Int)) ∧ Below w.heap.size w w' := by
  have hA : Below w.heap.size w (w.alloc (.cells #[.string m, .string s, .slice a n c] 24)) := (Below.refl _ _).alloc (Nat.le_refl _) _
  have HM := Lib.hid (heldFieldS_any a n c k _ (hr.below hA) hk0 hk)
  clear hr
  go_enter Tryd.func8, Tryd.ntmps8
  go_wp2_with fail
  refine (HM.out).mono ?_
  rintro e w1 ⟨rfl, hb1⟩
  have hneg : decide (((k + 2 * n : Nat) : Int) < 0) = false := by simp; omega
  go_wp2
  go_ret
  exact ⟨rfl, nx hA hb1⟩
theorem KK3.only {w w' : World} {g : Nat} {v0 v1 v2 : Value} {o : Option Nat} (h : KK3 w g v0 v1 v2) (t : Only o w w') (hne : o = some g → False) : KK3 w' g v0 v1 v2 := by
  have hl := lt_of_cell h.1
  have hb := t.block g hl (fun e => hne e.symm)
  exact ⟨by rw [World.cell?_of_block (w := w) (a := ⟨g, 0, none⟩) hb, h.1], by rw [World.cell?_of_block (w := w) (a := ⟨g, 1, none⟩) hb, h.2.1], by rw [World.cell?_of_block (w := w) (a := ⟨g, 2, none⟩) hb, h.2.2]⟩
theorem parse_small (l : List UInt8) : ((parseK l).getD knd0).params.length ≤ 4 := by
  cases h : parseK l with
  | none => simp [knd0]
  | some k => exact (isKnd_small (parseK_valid h)).2.2.1
set_option maxRecDepth 100000 in
set_option maxHeartbeats 4000000 in
theorem fnExactParseKind_walk (s : ByteArray) (w : World) (tab : Tab w) (hs : s.size ≤ maxLen) :
    Calls Tryd.prog 3 #[.string s] w fun e w' => e = .returned (.bool true) ∧ Below w.heap.size w w' := by
  unfold maxLen at hs
  by_cases hbig : 1048576 < s.size
  · have d1 : decide ((1048576 : Int) < s.size) = true := by simp; omega
    go_enter Tryd.func3, Tryd.ntmps3
    go_wp2
    go_ret
    exact ⟨rfl, Below.refl _ _⟩
  have d1 : decide ((1048576 : Int) < s.size) = false := by simp; omega
  have HPS : Hid (∀ u, Calls Tryd.prog 4 #[.string s] u (PKRet (parseK s.data.toList) u)) := fun u => parseKindS_any s u (by omega)
  have HPI : Hid (∀ u, Below w.heap.size w u → Calls Tryd.prog 5 #[.string s] u (PKRet (parseK s.data.toList) u)) := fun u h => parseKind_any s u (tab.below h) (by omega)
  have hpn := parse_small s.data.toList
  unfold PKRet kndV at HPS HPI
  generalize (parseK s.data.toList).isSome = ok at *
  generalize (parseK s.data.toList).getD knd0 = kd at *
  generalize str kd.main = M at *
  generalize str kd.sub = S at *
  generalize kd.params = xs at *
  have e0 : (ok != ok) = false := by cases ok <;> rfl
  have HMX : Hid (xs.length ≤ maxLen) := by show _ ≤ _; unfold maxLen; omega
  clear hbig tab
  go_enter Tryd.func3, Tryd.ntmps3
  go_wp2_with fail
  refine (HPS.out _).mono ?_
  rintro e w1 ⟨a1, c1, rfl, ho1, hb1⟩
  have hA1 : Below w1.heap.size w1 (w1.alloc (.cells #[.string M, .string S, .slice a1 xs.length c1] 24)) := (Below.refl _ _).alloc (Nat.le_refl _) _
  have HP1 := Lib.hid (KK3.new w1 (.string M) (.string S) (.slice a1 xs.length c1) 24)
  have HBA := Lib.hid (nx hb1 hA1)
  have HO1 := Lib.hid (OwnR.keep ho1 hA1)
  have HL1 := Lib.hid (OwnR.lt ho1)
  clear ho1
  go_wp2_with fail
  generalize hW1 : w1.alloc (.cells #[.string M, .string S, .slice a1 xs.length c1] 24) = W1 at *
  refine (HPI.out _ HBA.out).mono ?_
  rintro e w2 ⟨a2, c2, rfl, ho2, hb2⟩
  have hA2 : Below w2.heap.size w2 (w2.alloc (.cells #[.string M, .string S, .slice a2 xs.length c2] 24)) := (Below.refl _ _).alloc (Nat.le_refl _) _
  have HP2 := Lib.hid (KK3.new w2 (.string M) (.string S) (.slice a2 xs.length c2) 24)
  have hW12 := nx hb2 hA2
  have HBB := Lib.hid (nx HBA.out hW12)
  have HO12 := Lib.hid (OwnR.keep HO1.out hW12)
  have HP12 := Lib.hid (HP1.out.below hW12)
  have HO2 := Lib.hid (OwnR.keep ho2 hA2)
  have HL2 := Lib.hid (OwnR.lt ho2)
  have hz1 : w1.heap.size < W1.heap.size := by rw [← hW1]; simp
  have hz2 := hb2.size
  clear ho2 hW1
  obtain ⟨y0, y1, y2⟩ := HP12.out
  obtain ⟨z0, z1, z2⟩ := HP2.out
  have hzz : w2.heap.size < (w2.alloc (.cells #[.string M, .string S, .slice a2 xs.length c2] 24)).heap.size := by simp
  clear hA1 hA2
  cases ok
  all_goals
    go_wp2_with fail
    generalize hW2 : w2.alloc (.cells #[.string M, .string S, .slice a2 xs.length c2] 24) = W2 at *
    refine (eqKind_any M S a2 a1 _ c2 _ c1 xs _ (rdF_ofK HO2.out) (rdF_ofK HO12.out) HMX.out HMX.out).mono ?_
    rintro e w3 ⟨rfl, hb3⟩
    clear hW2 y0 y1 y2 z0 z1 z2
    have HB3 := Lib.hid (nx HBB.out hb3)
    have HP23 := Lib.hid (HP2.out.below hb3)
    have HP13 := Lib.hid (HP12.out.below hb3)
    have HO23 := Lib.hid (OwnR.keep HO2.out hb3)
    have HO13 := Lib.hid (OwnR.keep HO12.out hb3)
    obtain ⟨z0, z1, z2⟩ := HP23.out
    go_wp2_with fail
    refine (markKind_any W1.heap.size M S a2 _ c2 xs 1 _ HO23.out rfl (by omega) (by omega)).mono ?_
    rintro e w4 ⟨rfl, ho4, hn4⟩
    have hz3 := hb3.size
    have HB4 : Hid (Below w.heap.size w w4) := HB3.out.trans (hn4.below (fun g hg => by have := (HL2.out g hg).1; have := HBA.out.size; omega) HB3.out.size)
    have HP24 : Hid (KK3 w4 w2.heap.size (.string M) (.string S) (.slice a2 xs.length c2)) := HP23.out.only hn4 (fun hg => by have := (HL2.out _ hg).2; omega)
    have HP14 : Hid (KK3 w4 w1.heap.size (.string M) (.string S) (.slice a1 xs.length c1)) := HP13.out.only hn4 (fun hg => by have := (HL2.out _ hg).1; omega)
    have HO14 : Hid (OwnF w.heap.size (.slice a1 xs.length c1) xs w4) := OwnR.only HO13.out hn4 (fun g hg e => by have := (HL1.out g hg).2; have := (HL2.out g e).1; omega)
    have ho4' : OwnF W1.heap.size (.slice a2 (marksF 1 xs.length).length c2) (marksF 1 xs.length) w4 := by rw [marksF_len]; exact ho4
    have hd4 := rdF_ofK ho4'
    rw [marksF_len] at hd4
    have HD4 := Lib.hid hd4
    clear ho4 hn4 ho4' hd4 z0 z1 z2
    obtain ⟨z0, z1, z2⟩ := HP24.out
    go_wp2_with fail
    refine (heldKind_any M S a2 _ c2 1 _ HD4.out (by omega) (by omega)).mono ?_
    rintro e w5 ⟨rfl, hb5⟩
    have HB5 := Lib.hid (nx HB4.out hb5)
    have HP25 := Lib.hid (HP24.out.below hb5)
    have HP15 := Lib.hid (HP14.out.below hb5)
    have HO15 := Lib.hid (OwnR.keep HO14.out hb5)
    have HD5 := Lib.hid (HD4.out.below hb5)
    have hneg5 : decide (((1 + 2 * xs.length : Nat) : Int) < 0) = false := by simp; omega
    clear z0 z1 z2
    go_wp2_with fail
    refine (HPI.out _ HB5.out).mono ?_
    rintro e w6 ⟨a6, c6, rfl, ho6, hb6⟩
    have hA6 : Below w6.heap.size w6 (w6.alloc (.cells #[.string M, .string S, .slice a6 xs.length c6] 24)) := (Below.refl _ _).alloc (Nat.le_refl _) _
    have h56 := nx hb6 hA6
    have HB6 := Lib.hid (nx HB5.out h56)
    have HP26 := Lib.hid (HP25.out.below h56)
    have HP16 := Lib.hid (HP15.out.below h56)
    have HP66 := Lib.hid (KK3.new w6 (.string M) (.string S) (.slice a6 xs.length c6) 24)
    have HO16 := Lib.hid (OwnR.keep HO15.out h56)
    have HO66 := Lib.hid (OwnR.keep ho6 hA6)
    have HD6 := Lib.hid (HD5.out.below h56)
    obtain ⟨y0, y1, y2⟩ := HP16.out
    obtain ⟨x0, x1, x2⟩ := HP66.out
    clear ho6 hA6
    go_wp2_with fail
    generalize hW6 : w6.alloc (.cells #[.string M, .string S, .slice a6 xs.length c6] 24) = W6 at *
    refine (eqKind_any M S a6 a1 _ c6 _ c1 xs _ (rdF_ofK HO66.out) (rdF_ofK HO16.out) HMX.out HMX.out).mono ?_
    rintro e w7 ⟨rfl, hb7⟩
    clear y0 y1 y2 x0 x1 x2 hW6
    have HB7 := Lib.hid (nx HB6.out hb7)
    have HD7 := Lib.hid (HD6.out.below hb7)
    have HP27 := Lib.hid (HP26.out.below hb7)
    obtain ⟨z0, z1, z2⟩ := HP27.out
    go_wp2_with fail
    refine (heldKind_any M S a2 _ c2 1 _ HD7.out (by omega) (by omega)).mono ?_
    rintro e w8 ⟨rfl, hb8⟩
    go_wp2
    go_ret
    exact ⟨rfl, nx HB7.out hb8⟩
end Go.Proofs.YtfheajfcepcepabDoor
