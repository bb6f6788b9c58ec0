/-
  Kinds in the exact laws and compared: sizes, copies, equality; how a kind that came in reads. No statement is proved here.
-/
import Derived.Test.YtdoclfbfhlgejacDoorKindM
import Derived.Test.YtdoclfbfhlgejacDoorSameF
import Derived.Test.YtdoclfbfhlgejacDoorMarkF
import Derived.Test.YtdoclfbfhlgejacDoorLaw0
namespace Go.Proofs.YtdoclfbfhlgejacDoor
open Go.ChangeShapes Go.WideShapes Go.ChangeAt Go.RowKit
open Go.ChangeMaps (open_string shut_string)

set_option maxRecDepth 100000 in
set_option maxHeartbeats 1000000 in
theorem eqKind_any (m1 s1 : ByteArray) (a1 a2 : Option Addr) (n1 c1 n2 c2 : Nat) (xs : List Fld) (w : World) (h1 : RdF w a1 n1 xs) (h2 : RdF w a2 n2 xs) (hn1 : n1 ≤ maxLen) (hn2 : n2 ≤ maxLen) :
    Calls Tryd.prog 17 #[.agg #[.string m1, .string s1, .slice a1 n1 c1], .agg #[.string m1, .string s1, .slice a2 n2 c2]] w fun e w' => e = .returned (.bool true) ∧ Below w.heap.size w w' := by
  have hb0 : Below w.heap.size w ((w.alloc (.cells #[.string m1, .string s1, .slice a1 n1 c1] 25)).alloc (.cells #[.string m1, .string s1, .slice a2 n2 c2] 25)) := ((Below.refl _ _).alloc (Nat.le_refl _) _).alloc (by simp) _
  have HC := Lib.hid (fun u (k1 : RdF u a1 n1 xs) (k2 : RdF u a2 n2 xs) => eqFieldS_any a1 a2 n1 c1 n2 c2 xs xs u k1 k2 hn1 hn2)
  rw [decide_eq_true (rfl : xs = xs)] at HC
  have H1 := Lib.hid (h1.below hb0)
  have H2 := Lib.hid (h2.below hb0)
  have d0 : (m1.toList != m1.toList) = false := by simp
  have d1 : (s1.toList != s1.toList) = false := by simp
  clear h1 h2 hn1 hn2
  go_enter Tryd.func17, Tryd.ntmps17
  go_wp2_with fail
  refine (HC.out _ H1.out H2.out).mono ?_
  rintro e w1 ⟨rfl, hb1⟩
  go_wp2
  go_ret
  exact ⟨rfl, nx hb0 hb1⟩
def SizedK (t : Int) (m s : ByteArray) (xs : List Fld) (w : World) (e : Ending) (w' : World) : Prop := ∃ r : Int, e = .returned (.int .i64 r) ∧ -1 ≤ r ∧ r ≤ t ∧ (0 ≤ r → (m.size : Int) ≤ t ∧ (s.size : Int) ≤ t ∧ (xs.length : Int) ≤ t ∧ ∀ x ∈ xs, SmallF 1048576 x) ∧ Below w.heap.size w w'
set_option maxRecDepth 100000 in
set_option maxHeartbeats 1000000 in
theorem szKind_any (m s : ByteArray) (a : Option Addr) (n c : Nat) (xs : List Fld) (t : Int) (w : World) (hm : m.size ≤ maxLen) (hs : s.size ≤ maxLen) (hr : RdF w a n xs) (hn : n ≤ maxLen) (hx : ∀ x ∈ xs, SmallF maxLen x) (ht0 : 0 ≤ t) (ht : t ≤ 1048576) :
    Calls Tryd.prog 13 #[.agg #[.string m, .string s, .slice a n c], .int .i64 t] w (SizedK t m s xs w) := by
  unfold maxLen at hm hs
  have hb0 : Below w.heap.size w (w.alloc (.cells #[.string m, .string s, .slice a n c] 35)) := (Below.refl _ _).alloc (Nat.le_refl _) _
  have HR := Lib.hid (hr.below hb0)
  have HN := Lib.hid hn
  have HX := Lib.hid hx
  have HL := Lib.hid hr.1
  clear hr hn hx
  by_cases h1 : t - m.size < 0
  · go_enter Tryd.func13, Tryd.ntmps13
    go_wp2
    go_ret
    exact ⟨-1, rfl, by omega, by omega, fun h => by omega, hb0⟩
  · by_cases h2 : t - m.size - s.size < 0
    · go_enter Tryd.func13, Tryd.ntmps13
      go_wp2
      go_ret
      exact ⟨-1, rfl, by omega, by omega, fun h => by omega, hb0⟩
    · go_enter Tryd.func13, Tryd.ntmps13
      go_wp2_with fail
      refine (szFieldS_any a n c xs (t - m.size - s.size) _ HR.out HN.out (by omega) (by omega) HX.out).mono ?_
      rintro e w1 ⟨r, rfl, hr1, hr2, hsz, hb1⟩
      have HS := Lib.hid hsz
      clear hsz
      by_cases hneg : r < 0
      · go_wp2
        go_ret
        exact ⟨-1, rfl, by omega, by omega, fun h => by omega, nx hb0 hb1⟩
      · go_wp2
        go_ret
        exact ⟨r, rfl, by omega, by omega, fun h => ⟨by omega, by omega, by have := (HS.out h).1; have := HL.out; omega, fun x hx => ((HS.out h).2 x hx).up (by omega)⟩, nx hb0 hb1⟩
def KindRet (m s : ByteArray) (xs : List Fld) (w : World) (e : Ending) (w' : World) : Prop := ∃ a c, e = .returned (.agg #[.string m, .string s, .slice a xs.length c]) ∧ OwnF w.heap.size (.slice a xs.length c) xs w' ∧ RdF w' a xs.length xs ∧ Below w.heap.size w w'
set_option maxRecDepth 100000 in
set_option maxHeartbeats 1000000 in
theorem toKind_any (m s : ByteArray) (a : Option Addr) (n c : Nat) (xs : List Fld) (w : World) (hr : RdF w a n xs) (hn : n ≤ 1073741824) :
    Calls Tryd.prog 15 #[.agg #[.string m, .string s, .slice a n c]] w (KindRet m s xs w) := by
  have HR := Lib.hid hr
  clear hr
  go_enter Tryd.func15, Tryd.ntmps15
  go_wp2_with fail
  have hb0 : Below w.heap.size w (((w.alloc (.cells #[.string m, .string s, .slice a n c] 35)).alloc (.cells #[.string ⟨#[]⟩, .string ⟨#[]⟩, .slice none 0 0] 25)).alloc (.cells #[.string m, .string s, .slice none 0 0] 25)) := (((Below.refl _ _).alloc (Nat.le_refl _) _).alloc (by simp) _).alloc (by simp; omega) _
  refine (toFieldS_any a n c xs _ (HR.out.below hb0) hn).mono ?_
  rintro e w1 ⟨a1, c1, rfl, ho, _, _, hb1⟩
  obtain ⟨hc, hf⟩ := bcell hb1
  have hsz := hb1.size
  simp at hsz
  have hlt0 : w.heap.size < w1.heap.size := by omega
  have hlt1 : w.heap.size + 1 < w1.heap.size := by omega
  have hlt2 : w.heap.size + 1 + 1 < w1.heap.size := by omega
  have HO := Lib.hid ho
  have HB1 := Lib.hid (nx hb0 hb1)
  have KEY : Hid (∀ (u : World) (g i : Nat) (v : Value), OwnF (w.heap.size + 3) (.slice a1 xs.length c1) xs u → g < w.heap.size + 3 → OwnF (w.heap.size + 3) (.slice a1 xs.length c1) xs (u.setCell ⟨g, i, none⟩ v)) := fun u g i v h hg =>
    OwnR.only h ((Only.refl (some g) u).setCell v) (fun q hq e => by injection e with e; have := (OwnR.lt h q hq).1; omega)
  have HO3 : Hid (OwnF (w.heap.size + 3) (.slice a1 xs.length c1) xs w1) := OwnR.base HO.out (by simp)
  clear ho
  go_wp2
  refine bodyPost_ret (v := .agg #[.string m, .string s, .slice a1 xs.length c1]) (by simp [results, Tryd.results15, go_sem, hc]) rfl ?_
  have hF := KEY.out _ (w.heap.size + 1) 2 (.slice a1 xs.length c1) (KEY.out _ (w.heap.size + 1) 1 (.string s) (KEY.out _ (w.heap.size + 1) 0 (.string m) (KEY.out _ (w.heap.size + 1 + 1) 2 (.slice a1 xs.length c1) HO3.out (by omega)) (by omega)) (by omega)) (by omega)
  obtain ⟨a', c', hv, hrd, _⟩ := hF.read fldC_len
  injection hv with e1 _ e3
  subst e1 e3
  exact ⟨a1, c1, rfl, hF.base (by omega), hrd, (((HB1.out.setCell (by simp; omega) _).setCell (by simp) _).setCell (by simp) _).setCell (by simp) _⟩
set_option maxRecDepth 100000 in
theorem open_knd {H : Type} {enc : TypeId × Value → H} {W : World} {r : Reach} {b0 : Nat} {v : Value} {d : DataW H} {p : List MemPlace} (hv : Value.okWide Tryd.prog W r b0 35 v)
    (h : DataW.Trod enc Tryd.prog W 0 (fun _ => true) true 35 v d p) : ∃ (m s : ByteArray) (a : Option Addr) (n c : Nat) (xs : List Fld), v = .agg #[.string m, .string s, .slice a n c] ∧ m.size ≤ maxLen ∧ s.size ≤ maxLen ∧ RdF W a n xs ∧ n ≤ maxLen ∧ ∀ x ∈ xs, SmallF maxLen x := by
  obtain ⟨v0, v1, v2, y0, y1, y2, q, rfl, rfl, rfl, t0, t1, t2⟩ := Joins.open_agg3 Tryd.underlying35 (by kernel_rfl) (by kernel_rfl) hv h
  obtain ⟨s0, e0, _, z0⟩ := DataW.trod_string Tryd.underlying9 t0
  obtain ⟨s1, e1, _, z1⟩ := DataW.trod_string Tryd.underlying9 t1
  injection e0 with e0 _
  injection e1 with e1 _
  subst e0 e1
  obtain ⟨d2, p2⟩ := y2
  rcases DataW.trod_slice Tryd.underlying33 t2 with ⟨e2, _⟩ | ⟨g, len, cap, _, _, _, _, e2, _⟩
  · injection e2 with e2 _
    subst e2
    exact ⟨s0, s1, none, 0, 0, [], rfl, z0, z1, ⟨rfl, .inl rfl⟩, Nat.zero_le _, fun x hx => by cases hx⟩
  · injection e2 with e2 _
    subst e2
    obtain ⟨xs, h1, h2, h3⟩ := flds_of_trod (a := some g) (n := len) (c := cap) (d := d2) (p := p2) ⟨_, t2⟩
    exact ⟨s0, s1, some g, len, cap, xs, rfl, z0, z1, h1, h2, h3⟩
end Go.Proofs.YtdoclfbfhlgejacDoor
