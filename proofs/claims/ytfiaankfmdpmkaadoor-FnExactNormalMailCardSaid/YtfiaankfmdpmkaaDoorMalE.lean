/-
  Mails in the exact laws: how a mail that came in reads, sizes, copies. No statement is proved here.
-/
import Derived.Test.YtfiaankfmdpmkaaDoorMalS
import Derived.Test.YtfiaankfmdpmkaaDoorMalO
import Derived.Test.YtfiaankfmdpmkaaDoorOnly
import Derived.Test.YtfiaankfmdpmkaaDoorRowS
import Derived.Test.YtfiaankfmdpmkaaDoorLawL
import Derived.Deep.Cut
namespace Go.Proofs.YtfiaankfmdpmkaaDoor
open Go.ChangeShapes Go.WideShapes Go.ChangeAt Go.RowKit
open Go.ChangeMaps (open_string shut_string)
open Go.Deep

theorem strs_sliceN {H : Type} {enc : TypeId × Value → H} {W : World} {m : Nat} {c : Value} {y : DataW H × List MemPlace} (h : DataW.trod enc Tryd.prog W 0 (fun _ => true) true m 30 [c] = some y) :
    ∃ (a : Option Addr) (k : Nat) (xs : List (List UInt8)), c = .slice a xs.length k ∧ RdC W a k xs ∧ xs.length ≤ maxLen ∧ ∀ x ∈ xs, x.length ≤ maxLen := by
  obtain ⟨d, p⟩ := y
  rcases DataW.trod_slice Tryd.underlying30 h with ⟨e, _⟩ | ⟨g, len, cap, _, _, _, _, e, _, _, hlc, _⟩
  · injection e with e _
    subst e
    exact ⟨none, 0, [], rfl, ⟨⟨rfl, .inl rfl⟩, Nat.le_refl _, fun _ => rfl⟩, Nat.zero_le _, fun x hx => by cases hx⟩
  · injection e with e _
    subst e
    obtain ⟨xs, h1, h2, h3⟩ := strs_of_trod Tryd.underlying30 Tryd.underlying9 (by kernel_rfl) (a := some g) (n := len) (c := cap) (d := d) (p := p) ⟨_, h⟩
    obtain rfl := h1.1
    exact ⟨some g, cap, xs, rfl, ⟨h1, hlc, fun e => by cases e⟩, h2, fun x hx => by obtain ⟨i, hi, rfl⟩ := List.getElem_of_mem hx; exact h3 i hi⟩
set_option maxRecDepth 100000 in
theorem open_mal {H : Type} {enc : TypeId × Value → H} {W : World} {r : Reach} {b0 : Nat} {v : Value} {d : DataW H} {p : List MemPlace} (hv : Value.okWide Tryd.prog W r b0 32 v)
    (h : DataW.Trod enc Tryd.prog W 0 (fun _ => true) true 32 v d p) : ∃ x : MlA, v = mlV x ∧ RdM maxLen W x := by
  obtain ⟨v0, v1, v2, y0, y1, y2, q, rfl, rfl, rfl, t0, t1, t2⟩ := Joins.open_agg3 Tryd.underlying32 (by kernel_rfl) (by kernel_rfl) hv h
  obtain ⟨s0, e0, _, z0⟩ := DataW.trod_string Tryd.underlying9 t0
  injection e0 with e0 _
  subst e0
  obtain ⟨a1, k1, xs, rfl, r1, n1, l1⟩ := strs_sliceN t1
  obtain ⟨a2, k2, ys, rfl, r2, n2, l2⟩ := strs_sliceN t2
  exact ⟨⟨⟨s0.data.toList, xs, ys⟩, a1, k1, a2, k2⟩, by unfold mlV; dsimp only; rw [str_of], r1, r2, z0, n1, l1, n2, l2⟩
def SizedN (t : Int) (m : Ml) (w : World) (e : Ending) (w' : World) : Prop := ∃ r : Int, e = .returned (.int .i64 r) ∧ -1 ≤ r ∧ r ≤ t ∧ (0 ≤ r → SmallM 1048576 m) ∧ Below w.heap.size w w'
theorem sizedN_no {t : Int} {m : Ml} {w w' : World} (ht : 0 ≤ t) (hb : Below w.heap.size w w') : SizedN t m w (.returned (.int .i64 (-1))) w' := ⟨-1, rfl, by omega, by omega, fun h => by omega, hb⟩
set_option maxRecDepth 100000 in
set_option maxHeartbeats 2000000 in
theorem szMail_any (x : MlA) (t : Int) (w : World) (h1 : RdM maxLen w x) (ht0 : 0 ≤ t) (ht : t ≤ 1048576) :
    Calls Tryd.prog 15 #[mlV x, .int .i64 t] w (SizedN t x.m w) := by
  obtain ⟨⟨f1, t1, l1⟩, a1, c1, b1, d1⟩ := x
  obtain ⟨⟨p1, _, _⟩, ⟨p2, _, _⟩, p0, p3, p5, p4, p6⟩ := h1
  dsimp only at *
  unfold mlV
  dsimp only
  have P5 := Lib.hid p5
  have P6 := Lib.hid p6
  have HF := Lib.hid (str_size f1)
  have z0 : (str f1).size ≤ 9223372036854775807 := by rw [str_size]; unfold maxLen at p0; omega
  have hA : Below w.heap.size w (w.alloc (.cells #[.string (str f1), .slice a1 t1.length c1, .slice b1 l1.length d1] 32)) := (Below.refl _ _).alloc (Nat.le_refl _) _
  have HX := Lib.hid (MK3.new w (.string (str f1)) (.slice a1 t1.length c1) (.slice b1 l1.length d1) 32)
  have H1 : Hid (∀ (q : Int) u, 0 ≤ q → q ≤ 1048576 → Below w.heap.size w u → Calls Tryd.prog 36 #[.slice a1 t1.length c1, .int .i64 q] u (Sized q t1 u)) := fun q u h0 hq hb => szStringS_any a1 t1.length c1 t1 q u (p1.below hb) p3 h0 (by omega) (fun j h => P5.out _ (List.getElem_mem h))
  have H2 : Hid (∀ (q : Int) u, 0 ≤ q → q ≤ 1048576 → Below w.heap.size w u → Calls Tryd.prog 36 #[.slice b1 l1.length d1, .int .i64 q] u (Sized q l1 u)) := fun q u h0 hq hb => szStringS_any b1 l1.length d1 l1 q u (p2.below hb) p4 h0 (by omega) (fun j h => P6.out _ (List.getElem_mem h))
  have HN1 := Lib.hid (rfl : t1.length = t1.length)
  clear p1 p2 p3 p4 p5 p6 p0
  generalize str f1 = s1 at *
  by_cases k0 : t - s1.size < 0
  · go_enter Tryd.func15, Tryd.ntmps15
    go_wp2
    go_ret
    exact sizedN_no ht0 hA
  · go_enter Tryd.func15, Tryd.ntmps15
    go_wp2_with fail
    refine (H1.out _ _ (by omega) (by omega) hA).mono ?_
    rintro e w1 ⟨r1, rfl, hr1, hr2, hsz1, rfl⟩
    have HS1 := Lib.hid hsz1
    clear hsz1
    obtain ⟨y0, y1, y2⟩ := HX.out
    by_cases k1 : r1 < 0
    · go_wp2
      go_ret
      exact sizedN_no ht0 hA
    · go_wp2_with fail
      refine (H2.out _ _ (by omega) (by omega) hA).mono ?_
      rintro e w2 ⟨r2, rfl, hr3, hr4, hsz2, rfl⟩
      have HS2 := Lib.hid hsz2
      clear hsz2
      by_cases k2 : r2 < 0
      · go_wp2
        go_ret
        exact sizedN_no ht0 hA
      · go_wp2
        go_ret
        exact ⟨r2, rfl, by omega, by omega, fun h => ⟨by show f1.length ≤ _; have := HF.out; omega, by show t1.length ≤ _; have := (HS1.out (by omega)).1; omega, fun x hx => by have := (HS1.out (by omega)).2 x hx; omega, by show l1.length ≤ _; have := (HS2.out (by omega)).1; omega, fun x hx => by have := (HS2.out (by omega)).2 x hx; omega⟩, hA⟩
set_option maxRecDepth 100000 in
set_option maxHeartbeats 4000000 in
theorem toMail_any (x : MlA) (w : World) (h : RdM 1048576 w x) :
    Calls Tryd.prog 17 #[mlV x] w (MalRet x.m w) := by
  obtain ⟨⟨f1, xs, ys⟩, a, c, b, d⟩ := x
  obtain ⟨⟨p1, _, _⟩, ⟨p2, _, _⟩, p0, p3, p5, p4, p6⟩ := h
  dsimp only at *
  unfold mlV
  dsimp only
  have P1 := Lib.hid p1
  have P2 := Lib.hid p2
  have HD : Hid (∀ (a1 : Option Addr) (c1 : Nat) (a2 : Option Addr) (c2 : Nat) (w' : World), OwnL w.heap.size (.slice a1 xs.length c1) xs w' → OwnL w.heap.size (.slice a2 ys.length c2) ys w' → (∀ g, (Value.slice a1 xs.length c1).ownBlock = some g → (Value.slice a2 ys.length c2).ownBlock ≠ some g) → Below w.heap.size w w' → MalRet ⟨f1, xs, ys⟩ w (.returned (.agg #[.string (str f1), .slice a1 xs.length c1, .slice a2 ys.length c2])) w') :=
    fun a1 c1 a2 c2 w' h1 h2 h3 h4 => ⟨⟨⟨f1, xs, ys⟩, a1, c1, a2, c2⟩, rfl, rfl, ⟨h1, h2, h3⟩, h4⟩
  have hbP : Below w.heap.size w (w.alloc (.cells #[.string (str f1), .slice a xs.length c, .slice b ys.length d] 32)) := (Below.refl _ _).alloc (Nat.le_refl _) _
  have hbZ : Below (w.alloc (.cells #[.string (str f1), .slice a xs.length c, .slice b ys.length d] 32)).heap.size (w.alloc (.cells #[.string (str f1), .slice a xs.length c, .slice b ys.length d] 32)) ((w.alloc (.cells #[.string (str f1), .slice a xs.length c, .slice b ys.length d] 32)).alloc (.cells #[.string ⟨#[]⟩, .slice none 0 0, .slice none 0 0] 36)) := (Below.refl _ _).alloc (Nat.le_refl _) _
  have hbO : Below ((w.alloc (.cells #[.string (str f1), .slice a xs.length c, .slice b ys.length d] 32)).alloc (.cells #[.string ⟨#[]⟩, .slice none 0 0, .slice none 0 0] 36)).heap.size ((w.alloc (.cells #[.string (str f1), .slice a xs.length c, .slice b ys.length d] 32)).alloc (.cells #[.string ⟨#[]⟩, .slice none 0 0, .slice none 0 0] 36)) (((w.alloc (.cells #[.string (str f1), .slice a xs.length c, .slice b ys.length d] 32)).alloc (.cells #[.string ⟨#[]⟩, .slice none 0 0, .slice none 0 0] 36)).alloc (.cells #[.string (str f1), .slice none 0 0, .slice none 0 0] 36)) := (Below.refl _ _).alloc (Nat.le_refl _) _
  have HP : Hid (MK3 (((w.alloc (.cells #[.string (str f1), .slice a xs.length c, .slice b ys.length d] 32)).alloc (.cells #[.string ⟨#[]⟩, .slice none 0 0, .slice none 0 0] 36)).alloc (.cells #[.string (str f1), .slice none 0 0, .slice none 0 0] 36)) w.heap.size (.string (str f1)) (.slice a xs.length c) (.slice b ys.length d)) := ((MK3.new w _ _ _ _).below hbZ).below hbO
  have HZ : Hid (MF3 (((w.alloc (.cells #[.string (str f1), .slice a xs.length c, .slice b ys.length d] 32)).alloc (.cells #[.string ⟨#[]⟩, .slice none 0 0, .slice none 0 0] 36)).alloc (.cells #[.string (str f1), .slice none 0 0, .slice none 0 0] 36)) (w.heap.size + 1) (.string ⟨#[]⟩) (.slice none 0 0) (.slice none 0 0)) := by
    have := (MF3.new (w.alloc (.cells #[.string (str f1), .slice a xs.length c, .slice b ys.length d] 32)) (.string ⟨#[]⟩) (.slice none 0 0) (.slice none 0 0) 36).below hbO
    have e : (w.alloc (.cells #[.string (str f1), .slice a xs.length c, .slice b ys.length d] 32)).heap.size = w.heap.size + 1 := by simp
    rw [e] at this; exact this
  have HO : Hid (MF3 (((w.alloc (.cells #[.string (str f1), .slice a xs.length c, .slice b ys.length d] 32)).alloc (.cells #[.string ⟨#[]⟩, .slice none 0 0, .slice none 0 0] 36)).alloc (.cells #[.string (str f1), .slice none 0 0, .slice none 0 0] 36)) (w.heap.size + 1 + 1) (.string (str f1)) (.slice none 0 0) (.slice none 0 0)) := by
    have := MF3.new ((w.alloc (.cells #[.string (str f1), .slice a xs.length c, .slice b ys.length d] 32)).alloc (.cells #[.string ⟨#[]⟩, .slice none 0 0, .slice none 0 0] 36)) (.string (str f1)) (.slice none 0 0) (.slice none 0 0) 36
    have e : ((w.alloc (.cells #[.string (str f1), .slice a xs.length c, .slice b ys.length d] 32)).alloc (.cells #[.string ⟨#[]⟩, .slice none 0 0, .slice none 0 0] 36)).heap.size = w.heap.size + 1 + 1 := by simp
    rw [e] at this; exact this
  have hb0 := nx hbP (nx hbZ hbO)
  have hsz : w.heap.size + 1 + 1 < (((w.alloc (.cells #[.string (str f1), .slice a xs.length c, .slice b ys.length d] 32)).alloc (.cells #[.string ⟨#[]⟩, .slice none 0 0, .slice none 0 0] 36)).alloc (.cells #[.string (str f1), .slice none 0 0, .slice none 0 0] 36)).heap.size := by simp
  have hl1 : xs.length ≤ 1073741824 := by omega
  have hl2 : ys.length ≤ 1073741824 := by omega
  clear p1 p2 p0 p3 p5 p4 p6 hbP hbZ hbO
  go_enter Tryd.func17, Tryd.ntmps17
  go_wp2_with fail
  generalize (((w.alloc (.cells #[.string (str f1), .slice a xs.length c, .slice b ys.length d] 32)).alloc (.cells #[.string ⟨#[]⟩, .slice none 0 0, .slice none 0 0] 36)).alloc (.cells #[.string (str f1), .slice none 0 0, .slice none 0 0] 36)) = W0 at *
  refine (toStringS_any a xs.length c xs W0 (P1.out.below hb0) hl1).mono ?_
  rintro e w1 ⟨a1, c1, rfl, ho1, hr1, hb1⟩
  have hs1 := hb1.size
  have HP1 := Lib.hid (HP.out.below hb1)
  have HZ1 := Lib.hid (HZ.out.below hb1)
  have HO1 := Lib.hid (HO.out.below hb1)
  have HW1 := Lib.hid ho1
  have hb01 := nx hb0 hb1
  clear hr1 ho1
  obtain ⟨y0, y1, y2⟩ := HP1.out
  obtain ⟨⟨o0, o1, o2⟩, of⟩ := HO1.out
  go_upto_region 4 with fail
  clear y0 y1 y2 o0 o1 o2 of
  have HP2 := Lib.hid (HP1.out.off (h := w.heap.size + 1 + 1) (i := 1) (by omega) (.slice a1 xs.length c1))
  have HZ2 := Lib.hid (HZ1.out.off (h := w.heap.size + 1 + 1) (i := 1) (by omega) (.slice a1 xs.length c1))
  have HO2 := Lib.hid (HO1.out.set1 (.slice a1 xs.length c1))
  have HW2 := Lib.hid (HW1.out.off (g := w.heap.size + 1 + 1) (i := 1) (by omega) (.slice a1 xs.length c1))
  have hb2 : Below w.heap.size w (w1.setCell ⟨w.heap.size + 1 + 1, 1, none⟩ (.slice a1 xs.length c1)) := hb01.setCell (by show w.heap.size ≤ w.heap.size + 1 + 1; omega) _
  have hs2 : W0.heap.size ≤ (w1.setCell ⟨w.heap.size + 1 + 1, 1, none⟩ (.slice a1 xs.length c1)).heap.size := by simpa [World.setCell] using hs1
  generalize w1.setCell ⟨w.heap.size + 1 + 1, 1, none⟩ (.slice a1 xs.length c1) = w2 at *
  clear HP1 HZ1 HO1 HW1 hb1 hb01 hs1
  obtain ⟨y0, y1, y2⟩ := HP2.out
  obtain ⟨⟨o0, o1, o2⟩, of⟩ := HO2.out
  go_wp2_with fail
  refine (toStringS_any b ys.length d ys w2 (P2.out.below hb2) hl2).mono ?_
  rintro e w3 ⟨a2, c2, rfl, ho3, hr3, hb3⟩
  have hs3 := hb3.size
  have HZ3 := Lib.hid (HZ2.out.below hb3)
  have HO3 := Lib.hid (HO2.out.below hb3)
  have HW3 := Lib.hid (HW2.out.keep hb3)
  have HA : Hid (∀ g, (Value.slice a1 xs.length c1).ownBlock = some g → (Value.slice a2 ys.length c2).ownBlock ≠ some g) := own_apart HW2.out ho3 (Nat.le_refl _)
  have HV3 : Hid (OwnL W0.heap.size (.slice a2 ys.length c2) ys w3) := ho3.base hs2
  have hb03 := nx hb2 hb3
  clear hr3 ho3 y0 y1 y2 o0 o1 o2 of HP2 HZ2 HO2 HW2
  obtain ⟨⟨o0, o1, o2⟩, of⟩ := HO3.out
  obtain ⟨⟨q0, q1, q2⟩, qf⟩ := HZ3.out
  go_wp2
  refine bodyPost_ret (v := .agg #[.string (str f1), .slice a1 xs.length c1, .slice a2 ys.length c2]) (by simp [results, Tryd.results17, go_sem, q0, q1, q2]) rfl ?_
  exact HD.out a1 c1 a2 c2 _ (((((HW3.out.off (g := w.heap.size + 1 + 1) (i := 2) (by omega) _).off (g := w.heap.size + 1) (i := 0) (by omega) _).off (g := w.heap.size + 1) (i := 1) (by omega) _).off (g := w.heap.size + 1) (i := 2) (by omega) _).base (by omega)) (((((HV3.out.off (g := w.heap.size + 1 + 1) (i := 2) (by omega) _).off (g := w.heap.size + 1) (i := 0) (by omega) _).off (g := w.heap.size + 1) (i := 1) (by omega) _).off (g := w.heap.size + 1) (i := 2) (by omega) _).base (by omega)) HA.out ((((hb03.setCell (by show w.heap.size ≤ w.heap.size + 1 + 1; omega) _).setCell (by show w.heap.size ≤ w.heap.size + 1; omega) _).setCell (by show w.heap.size ≤ w.heap.size + 1; omega) _).setCell (by show w.heap.size ≤ w.heap.size + 1; omega) _)
end Go.Proofs.YtfiaankfmdpmkaaDoor
