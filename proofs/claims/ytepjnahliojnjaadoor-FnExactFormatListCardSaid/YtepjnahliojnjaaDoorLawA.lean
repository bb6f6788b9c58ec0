/-
  The exact laws of chapter 2 on one address: how an address that came in reads; its size, its copy, comparisons; each law's walk. For every input of the law: it returns true, and the input reads as it did. Conditions: none but the statement's own.
-/
import Derived.Test.YtepjnahliojnjaaDoorLaw2
import Derived.Test.YtepjnahliojnjaaDoorAdrV
import Derived.Test.YtepjnahliojnjaaDoorParse2
import Derived.Test.YtepjnahliojnjaaDoorParseS2
import Derived.Test.YtepjnahliojnjaaDoorBoxA
import Derived.Lib.SmallJoins
namespace Go.Proofs.YtepjnahliojnjaaDoor
open Go.ChangeShapes Go.WideShapes Go.ChangeAt Go.RowKit
open Go.ChangeMaps (open_string shut_string)

set_option maxRecDepth 100000 in
theorem open_adr {H : Type} {enc : TypeId × Value → H} {W : World} {r : Reach} {b0 : Nat} {v : Value} {d : DataW H} {p : List MemPlace} (hv : Value.okWide Tryd.prog W r b0 45 v)
    (h : DataW.Trod enc Tryd.prog W 0 (fun _ => true) true 45 v d p) : ∃ n l e : ByteArray, v = .agg #[.string n, .string l, .string e] ∧ n.size ≤ maxLen ∧ l.size ≤ maxLen ∧ e.size ≤ maxLen := by
  obtain ⟨v0, v1, v2, y0, y1, y2, m, rfl, rfl, rfl, t0, t1, t2⟩ := Joins.open_agg3 Tryd.underlying45 (by kernel_rfl) (by kernel_rfl) hv h
  obtain ⟨s0, e0, _, z0⟩ := DataW.trod_string Tryd.underlying9 t0
  obtain ⟨s1, e1, _, z1⟩ := DataW.trod_string Tryd.underlying9 t1
  obtain ⟨s2, e2, _, z2⟩ := DataW.trod_string Tryd.underlying9 t2
  injection e0 with e0 _
  injection e1 with e1 _
  injection e2 with e2 _
  subst e0 e1 e2
  exact ⟨s0, s1, s2, rfl, z0, z1, z2⟩
/-- A size is what is left, or below 0 where it does not fit. -/
def SizedA (m : Int) (n l d : ByteArray) (w : World) (e : Ending) (w' : World) : Prop := ∃ r : Int, e = .returned (.int .i64 r) ∧ -1 ≤ r ∧ r ≤ m ∧ (0 ≤ r → (n.size : Int) ≤ m ∧ (l.size : Int) ≤ m ∧ (d.size : Int) ≤ m) ∧ Below w.heap.size w w'
set_option maxRecDepth 100000 in
set_option maxHeartbeats 1000000 in
theorem szAddress_any (n l d : ByteArray) (m : Int) (w : World) (hn : n.size ≤ maxLen) (hl : l.size ≤ maxLen) (hd : d.size ≤ maxLen) (hm0 : 0 ≤ m) (hm : m ≤ 1073741824) :
    Calls Tryd.prog 36 #[.agg #[.string n, .string l, .string d], .int .i64 m] w (SizedA m n l d w) := by
  unfold maxLen at hn hl hd
  have hb0 : Below w.heap.size w (w.alloc (.cells #[.string n, .string l, .string d] 45)) := (Below.refl _ _).alloc (Nat.le_refl _) _
  by_cases h1 : m - n.size < 0
  · go_enter Tryd.func36, Tryd.ntmps36
    go_wp2
    go_ret
    exact ⟨-1, rfl, by omega, by omega, fun h => by omega, hb0⟩
  · by_cases h2 : m - n.size - l.size < 0
    · go_enter Tryd.func36, Tryd.ntmps36
      go_wp2
      go_ret
      exact ⟨-1, rfl, by omega, by omega, fun h => by omega, hb0⟩
    · by_cases h3 : m - n.size - l.size - d.size < 0
      · go_enter Tryd.func36, Tryd.ntmps36
        go_wp2
        go_ret
        exact ⟨-1, rfl, by omega, by omega, fun h => by omega, hb0⟩
      · go_enter Tryd.func36, Tryd.ntmps36
        go_wp2
        go_ret
        exact ⟨m - n.size - l.size - d.size, rfl, by omega, by omega, fun _ => ⟨by omega, by omega, by omega⟩, hb0⟩
set_option maxRecDepth 100000 in
set_option maxHeartbeats 1000000 in
theorem toAddress_any (n l d : ByteArray) (w : World) :
    Calls Tryd.prog 37 #[.agg #[.string n, .string l, .string d]] w fun e w' => e = .returned (.agg #[.string n, .string l, .string d]) ∧ Below w.heap.size w w' := by
  go_enter Tryd.func37, Tryd.ntmps37
  go_wp2
  refine bodyPost_ret (v := .agg #[.string n, .string l, .string d]) (by simp [results, Tryd.results37, go_sem]) rfl ⟨rfl, ?_⟩
  exact (((Below.refl _ _).alloc (Nat.le_refl _) _).alloc (by simp) _).alloc (by simp; omega) _
set_option maxRecDepth 100000 in
set_option maxHeartbeats 1000000 in
theorem eqAddress_any (n l d n2 l2 d2 : ByteArray) (w : World) :
    Calls Tryd.prog 38 #[.agg #[.string n, .string l, .string d], .agg #[.string n2, .string l2, .string d2]] w fun e w' => e = .returned (.bool (decide (adr n l d = adr n2 l2 d2))) ∧ Below w.heap.size w w' := by
  have hb0 : Below w.heap.size w ((w.alloc (.cells #[.string n, .string l, .string d] 30)).alloc (.cells #[.string n2, .string l2, .string d2] 30)) := ((Below.refl _ _).alloc (Nat.le_refl _) _).alloc (by simp) _
  have HI : Hid (adr n l d = adr n2 l2 d2 ↔ n = n2 ∧ l = l2 ∧ d = d2) := by
    show _ ↔ _
    unfold adr
    constructor
    · intro h; injection h with h1 h2 h3; exact ⟨bytes_ext h1, bytes_ext h2, bytes_ext h3⟩
    · rintro ⟨rfl, rfl, rfl⟩; rfl
  by_cases h1 : n = n2
  · have e1 : (n.toList == n2.toList) = true := by rw [h1]; simp
    by_cases h2 : l = l2
    · have e2 : (l.toList == l2.toList) = true := by rw [h2]; simp
      by_cases h3 : d = d2
      · have e3 : (d.toList == d2.toList) = true := by rw [h3]; simp
        have HV : Hid (decide (adr n l d = adr n2 l2 d2) = true) := by show _ = _; rw [decide_eq_true_iff, HI.out]; exact ⟨h1, h2, h3⟩
        clear h1 h2 h3
        go_enter Tryd.func38, Tryd.ntmps38
        go_wp2
        go_ret
        exact ⟨ret_bool HV.out.symm, hb0⟩
      · have e3 : (d.toList == d2.toList) = false := by rw [beq_dec, decide_eq_false h3]
        have HV : Hid (decide (adr n l d = adr n2 l2 d2) = false) := by show _ = _; rw [decide_eq_false_iff_not, HI.out]; exact fun h => h3 h.2.2
        clear h1 h2 h3
        go_enter Tryd.func38, Tryd.ntmps38
        go_wp2
        go_ret
        exact ⟨ret_bool HV.out.symm, hb0⟩
    · have e2 : (l.toList == l2.toList) = false := by rw [beq_dec, decide_eq_false h2]
      have HV : Hid (decide (adr n l d = adr n2 l2 d2) = false) := by show _ = _; rw [decide_eq_false_iff_not, HI.out]; exact fun h => h2 h.2.1
      clear h1 h2
      go_enter Tryd.func38, Tryd.ntmps38
      go_wp2
      go_ret
      exact ⟨ret_bool HV.out.symm, hb0⟩
  · have e1 : (n.toList == n2.toList) = false := by rw [beq_dec, decide_eq_false h1]
    have HV : Hid (decide (adr n l d = adr n2 l2 d2) = false) := by show _ = _; rw [decide_eq_false_iff_not, HI.out]; exact fun h => h1 h.1
    clear h1
    go_enter Tryd.func38, Tryd.ntmps38
    go_wp2
    go_ret
    exact ⟨ret_bool HV.out.symm, hb0⟩
theorem eqAddress_adr (a b : Adr) (w : World) :
    Calls Tryd.prog 38 #[adrV a, adrV b] w fun e w' => e = .returned (.bool (decide (a = b))) ∧ Below w.heap.size w w' := by
  have := eqAddress_any (str a.name) (str a.loc) (str a.dom) (str b.name) (str b.loc) (str b.dom) w
  rw [adr_str, adr_str] at this; exact this
set_option maxRecDepth 100000 in
set_option maxHeartbeats 1000000 in
theorem fnExactAddressValid_walk (n l d : ByteArray) (w : World) (en : Env w) (hn : n.size ≤ maxLen) (hl : l.size ≤ maxLen) (hd : d.size ≤ maxLen) :
    Calls Tryd.prog 11 #[.agg #[.string n, .string l, .string d]] w fun e w' => e = .returned (.bool true) ∧ Below w.heap.size w w' := by
  have hb0 : Below w.heap.size w (w.alloc (.cells #[.string n, .string l, .string d] 45)) := (Below.refl _ _).alloc (Nat.le_refl _) _
  go_enter Tryd.func11, Tryd.ntmps11
  go_wp2_with fail
  refine (szAddress_any n l d 1048576 _ hn hl hd (by omega) (by omega)).mono ?_
  rintro e w1 ⟨r, rfl, hr1, hr2, hsz, hb1⟩
  have hb01 := nx hb0 hb1
  by_cases hneg : r < 0
  · go_wp2
    go_ret
    exact ⟨rfl, hb01⟩
  · obtain ⟨g0, g1, g2⟩ := hsz (by omega)
    clear hsz
    obtain ⟨hc1, hf1⟩ := bcell hb1
    go_wp2_with fail
    refine (toAddress_any n l d _).mono ?_
    rintro e w2 ⟨rfl, hb2⟩
    go_wp2_with fail
    refine (addressValidS_any n l d _ (by omega) (by omega) (by omega)).mono ?_
    rintro e w3 ⟨rfl, hb3⟩
    have hb03 := nx (nx hb01 hb2) hb3
    obtain ⟨hc3, hf3⟩ := bcell (nx (nx hb1 hb2) hb3)
    go_wp2_with fail
    refine (toAddress_any n l d _).mono ?_
    rintro e w4 ⟨rfl, hb4⟩
    have hb04 := nx hb03 hb4
    go_wp2_with fail
    refine (addressValid_any n l d _ (en.below hb04) (by omega) (by omega) (by omega)).mono ?_
    rintro e w5 ⟨rfl, hb5⟩
    go_wp2
    go_ret
    exact ⟨rfl, nx hb04 hb5⟩
set_option maxRecDepth 100000 in
set_option maxHeartbeats 1000000 in
theorem fnExactFormatAddress_walk (n l d : ByteArray) (w : World) (en : Env w) (hn : n.size ≤ maxLen) (hl : l.size ≤ maxLen) (hd : d.size ≤ maxLen) :
    Calls Tryd.prog 12 #[.agg #[.string n, .string l, .string d]] w fun e w' => e = .returned (.bool true) ∧ Below w.heap.size w w' := by
  have hb0 : Below w.heap.size w (w.alloc (.cells #[.string n, .string l, .string d] 45)) := (Below.refl _ _).alloc (Nat.le_refl _) _
  go_enter Tryd.func12, Tryd.ntmps12
  go_wp2_with fail
  refine (szAddress_any n l d 1048576 _ hn hl hd (by omega) (by omega)).mono ?_
  rintro e w1 ⟨r, rfl, hr1, hr2, hsz, hb1⟩
  have hb01 := nx hb0 hb1
  by_cases hneg : r < 0
  · go_wp2
    go_ret
    exact ⟨rfl, hb01⟩
  · obtain ⟨g0, g1, g2⟩ := hsz (by omega)
    clear hsz
    obtain ⟨hc1, hf1⟩ := bcell hb1
    go_wp2_with fail
    refine (toAddress_any n l d _).mono ?_
    rintro e w2 ⟨rfl, hb2⟩
    go_wp2_with fail
    refine (formatAddressS_any n l d _ (by omega) (by omega) (by omega)).mono ?_
    rintro e w3 ⟨rfl, hb3⟩
    have hb03 := nx (nx hb01 hb2) hb3
    obtain ⟨hc3, hf3⟩ := bcell (nx (nx hb1 hb2) hb3)
    go_wp2_with fail
    refine (toAddress_any n l d _).mono ?_
    rintro e w4 ⟨rfl, hb4⟩
    have hb04 := nx hb03 hb4
    go_wp2_with fail
    refine (formatAddress_any n l d _ (en.below hb04) (by omega) (by omega) (by omega)).mono ?_
    rintro e w5 ⟨rfl, hb5⟩
    go_wp2
    go_ret
    exact ⟨rfl, nx hb04 hb5⟩
set_option maxRecDepth 100000 in
set_option maxHeartbeats 1000000 in
theorem fnExactParseAddress_walk (s : ByteArray) (w : World) (en : Env w) (hs : s.size ≤ maxLen) :
    Calls Tryd.prog 13 #[.string s] w fun e w' => e = .returned (.bool true) ∧ Below w.heap.size w w' := by
  have hm' := hs
  unfold maxLen at hm'
  by_cases hn : 1048576 < s.size
  · have hd : decide ((1048576 : Int) < s.size) = true := by simp; omega
    go_enter Tryd.func13, Tryd.ntmps13
    go_wp2
    go_ret
    exact ⟨rfl, Below.refl _ _⟩
  · have hd : decide ((1048576 : Int) < s.size) = false := by simp; omega
    go_enter Tryd.func13, Tryd.ntmps13
    go_wp2_with fail
    refine (parseAddressS_any s _ (by omega)).mono ?_
    rintro e w1 ⟨rfl, hb1⟩
    generalize hx : parseR s.data.toList = x at *
    generalize hok : (parseA s.data.toList).isSome = ok at *
    have HPRX : Hid (parseR s.data.toList = x ∧ (parseA s.data.toList).isSome = ok) := ⟨hx, hok⟩
    clear hx hok
    have hXV : adrV x = .agg #[.string (str x.name), .string (str x.loc), .string (str x.dom)] := rfl
    have HXV := Lib.hid hXV
    rw [hXV]
    clear hXV
    have hbA := hb1.alloc hb1.size (.cells #[.string (str x.name), .string (str x.loc), .string (str x.dom)] 30)
    have HPR : Hid (parseR s.data.toList = x ∧ (parseA s.data.toList).isSome = ok) := HPRX
    go_wp2_with fail
    refine (parseAddress_any s _ (en.below hbA) (by omega)).mono ?_
    rintro e w2 ⟨rfl, hb2⟩
    rw [HPR.out.1, HPR.out.2, HXV.out]
    obtain ⟨cA, fA, zA⟩ := fresh1 hb2
    have hbA2 := nx hbA hb2
    have hbB := hbA2.alloc hbA2.size (.cells #[.string (str x.name), .string (str x.loc), .string (str x.dom)] 30)
    go_wp2_with fail
    refine (eqAddress_any (str x.name) (str x.loc) (str x.dom) (str x.name) (str x.loc) (str x.dom) _).mono ?_
    rintro e w3 ⟨rfl, hb3⟩
    rw [decide_eq_true (rfl : adr (str x.name) (str x.loc) (str x.dom) = adr (str x.name) (str x.loc) (str x.dom))]
    go_wp2
    go_ret
    exact ⟨rfl, nx hbB hb3⟩
end Go.Proofs.YtepjnahliojnjaaDoor
