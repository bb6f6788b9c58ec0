/-
  Lists of fields in the exact laws: their sizes, copies, comparisons. No statement is proved here.
-/
import Derived.Test.YtdoclfbfhlgejacDoorFldE
import Derived.Test.YtdoclfbfhlgejacDoorLists
import Derived.Test.YtdoclfbfhlgejacDoorOnly
import Derived.Deep.RegionWith
import Derived.Deep.RegionHeld3
import Derived.Deep.Slices
import Derived.Deep.Fields
import Derived.ChangeSame
namespace Go.Proofs.YtdoclfbfhlgejacDoor
open Go.ChangeShapes Go.WideShapes Go.RowKit Go.Deep

theorem set2 {L : List Value} {k : Nat} (hk : k * 2 + 1 < L.length) (a b : Value) :
    ((L.set (k * 2) a).set (k * 2 + 1) b)[k * 2]? = some a ∧ ((L.set (k * 2) a).set (k * 2 + 1) b)[k * 2 + 1]? = some b ∧ ∀ i, i < k * 2 → ((L.set (k * 2) a).set (k * 2 + 1) b)[i]? = L[i]? := by
  refine ⟨?_, ?_, fun i hi => ?_⟩
  · rw [List.getElem?_set_ne (by omega), List.getElem?_set_self (by omega)]
  · rw [List.getElem?_set_self (by simp; omega)]
  · rw [List.getElem?_set_ne (by omega), List.getElem?_set_ne (by omega)]
theorem set2_row {L : List Value} {k : Nat} {xs : List Fld} (x : Fld) (hk : k * 2 + 1 < L.length) (hx : ∀ (hj : k < xs.length), xs[k] = x)
    (h : ∀ j, j < k → (hj : j < xs.length) → ∀ d, d < 2 → L[j * 2 + d]? = (fldC xs[j])[d]?) :
    ∀ j, j < k + 1 → (hj : j < xs.length) → ∀ d, d < 2 → ((L.set (k * 2) (.string (str x.name))).set (k * 2 + 1) (.string (str x.val)))[j * 2 + d]? = (fldC xs[j])[d]? := by
  intro j hj hjx d hd
  obtain ⟨g0, g1, g3⟩ := set2 hk (.string (str x.name)) (.string (str x.val))
  by_cases e : j = k
  · subst e
    rw [hx hjx]
    rcases (by omega : d = 0 ∨ d = 1) with rfl | rfl
    · exact g0
    · exact g1
  · rw [g3 _ (by omega)]; exact h j (by omega) hjx d hd
/-- A list of fields of the call's own is returned; nothing that was there turns. -/
def FldsRet (xs : List Fld) (w : World) (e : Ending) (w' : World) : Prop := ∃ a c, e = .returned (.slice a xs.length c) ∧ OwnF w.heap.size (.slice a xs.length c) xs w' ∧ RdF w' a xs.length xs ∧ xs.length ≤ c ∧ Below w.heap.size w w'
theorem fldsRet_mk {xs : List Fld} {w w' : World} {a : Option Addr} {n c : Nat} (hn : n = xs.length) (ho : OwnF w.heap.size (.slice a n c) xs w') (hb : Below w.heap.size w w') : FldsRet xs w (.returned (.slice a n c)) w' := by
  subst hn
  obtain ⟨a', c', hv, hr, _, hc⟩ := ho.read fldC_len
  injection hv with h1 h2 h3
  subst h1 h3
  exact ⟨a, c, rfl, ho, hr, hc, hb⟩
set_option maxRecDepth 100000 in
set_option maxHeartbeats 1000000 in
theorem toFieldS_any (a : Option Addr) (n c : Nat) (xs : List Fld) (w : World) (hr : RdF w a n xs) (hn : n ≤ 1073741824) :
    Calls Tryd.prog 43 #[.slice a n c] w (FldsRet xs w) := by
  obtain ⟨i0, hi, hz0, hz1, hz2⟩ := info_parts fInfo
  obtain ⟨hl, hr2⟩ := hr
  have HLEN := Lib.hid hl
  have HR2 := Lib.hid hr2
  clear hl hr2
  go_enter Tryd.func43, Tryd.ntmps43
  go_wp2_with (at_make; refine wpList_make_full _ rfl _ _ 23 rfl w.heap.size 49 i0 (.agg #[.string ⟨#[]⟩, .string ⟨#[]⟩]) 2 Tryd.underlying23 hi hz0 hz1 _ _ (n : Int) (n : Int) n rfl rfl rfl rfl ?c1 ?c2 ?c3 ?_)
  case c1 => rw [hz2]; omega
  case c2 => unfold maxLen; omega
  case c3 => exact Nat.le_refl _
  intro w1 hown hgrow
  have hb1 : Below w.heap.size w w1 := (Below.refl _ _).grown hgrow (Nat.le_refl _) (fun k hk => by cases hk)
  have hsz1 := (hown.lt w.heap.size rfl).2
  go_wp2_with fail
  go_loopw [4] (fun i wr => ∃ (k : Nat) (L : List Value), k ≤ n ∧ i = .int .i64 k ∧ Below w.heap.size w wr ∧ wr.ownsRow w.heap.size 49 2 (.slice (some ⟨w.heap.size, 0, none⟩) n n) n L ∧ w.heap.size < wr.heap.size ∧ ∀ j, j < k → (hj : j < xs.length) → ∀ d, d < 2 → L[j * 2 + d]? = (fldC xs[j])[d]?) (fun i _ => n - (intOf i).toNat)
  case atStart => exact ⟨0, _, Nat.zero_le _, rfl, hb1, hown, hsz1, fun j h => by omega⟩
  case round =>
    obtain ⟨k, L, hk, rfl, hb, hO, hzr, hL⟩ := hrel
    have HL := Lib.hid hL
    clear hL
    by_cases hlt : k < n
    · have hkx : k < xs.length := by rw [HLEN.out]; exact hlt
      obtain ⟨b, off, rfl, hbl, hcell⟩ := HR2.out.resolve_left (by omega)
      obtain ⟨q0, q1⟩ := RdR.fld hcell hkx
      rw [← below_at hb hbl] at q0 q1
      have hlL : L.length = n * 2 := hO.1
      have h3 : k * 2 + 1 < L.length := by rw [hlL]; omega
      have HNX := Lib.hid (set2_row (xs := xs) xs[k] h3 (fun _ => rfl) HL.out)
      clear hcell
      generalize str xs[k].name = s0 at *
      generalize str xs[k].val = s1 at *
      go_wp2_with fail
      refine (toField_any s0 s1 _).mono ?_
      rintro e w2 ⟨rfl, hb2⟩
      have hO2 := row_keep hO hb2
      have hb02 := nx hb hb2
      have hz2' : w.heap.size < w2.heap.size := Nat.lt_of_lt_of_le hzr hb2.size
      obtain ⟨v0, hv0⟩ := row_cell hO2 (k * 2) (by omega)
      obtain ⟨v1, hv1⟩ := row_cell hO2 (k * 2 + 1) (by omega)
      have f0 : w2.frozen? ⟨w.heap.size, k * 2, none⟩ = false := hO2.frozenAt _
      have f1 : w2.frozen? ⟨w.heap.size, k * 2 + 1, none⟩ = false := hO2.frozenAt _
      have HST := Lib.hid ((hO2.stored (k * 2) (.string s0)).1.stored (k * 2 + 1) (.string s1)).1
      clear hlL h3 hO hO2
      go_wp2
      go_roundw
      case rel => exact ⟨k + 1, _, by omega, by go_num, ((hb02.setCell (by simp) _).setCell (by simp) _), HST.out, by simpa using hz2', HNX.out⟩
      case measure => simp [intOf]; omega
    · go_wp2
      go_ret
      refine fldsRet_mk HLEN.out.symm ?_ hb
      have hlx := HLEN.out
      unfold OwnF OwnR
      rw [← flat_ext fldC 2 (by omega) fldC_len xs L (by rw [hO.1, hlx]) (fun j hj => HL.out j (by omega) hj), hlx]
      exact hO
/-- A size is what is left, or below 0 where it does not fit. -/
def SizedG (m : Int) (xs : List Fld) (w : World) (e : Ending) (w' : World) : Prop := ∃ r : Int, e = .returned (.int .i64 r) ∧ -1 ≤ r ∧ r ≤ m ∧ (0 ≤ r → (xs.length : Int) ≤ m ∧ ∀ x ∈ xs, SmallF m.toNat x) ∧ Below w.heap.size w w'
set_option maxRecDepth 100000 in
set_option maxHeartbeats 1000000 in
theorem szFieldS_any (a : Option Addr) (n c : Nat) (xs : List Fld) (m : Int) (w : World) (hr : RdF w a n xs) (hn : n ≤ maxLen) (hm0 : 0 ≤ m) (hm : m ≤ 1073741824) (hx : ∀ x ∈ xs, SmallF maxLen x) :
    Calls Tryd.prog 38 #[.slice a n c, .int .i64 m] w (SizedG m xs w) := by
  unfold maxLen at hn
  obtain ⟨hl, hr2⟩ := hr
  have HLEN := Lib.hid hl
  have HR2 := Lib.hid hr2
  have HXX := Lib.hid hx
  clear hl hr2 hx
  by_cases hbig : m < n
  · have d1 : (m - n : Int) < 0 := by omega
    go_enter Tryd.func38, Tryd.ntmps38
    go_wp2
    go_ret
    exact ⟨-1, rfl, by omega, by omega, fun h => by omega, Below.refl _ _⟩
  · go_enter Tryd.func38, Tryd.ntmps38
    go_wp2_with fail
    go_loopw [1, 5] (fun l i wr => ∃ (k : Nat) (r : Int), k ≤ n ∧ i = .int .i64 k ∧ l = .int .i64 r ∧ 0 ≤ r ∧ r ≤ m ∧ Below w.heap.size w wr ∧ ∀ j, j < k → (hj : j < xs.length) → SmallF m.toNat xs[j]) (fun _ i _ => n - (intOf i).toNat)
    case atStart => exact ⟨0, m - n, Nat.zero_le _, rfl, rfl, by omega, by omega, Below.refl _ _, fun j h => by omega⟩
    case round =>
      obtain ⟨k, r, hk, rfl, rfl, hr0, hrm, hb, hall⟩ := hrel
      have HA := Lib.hid hall
      clear hall
      by_cases hlt : k < n
      · have hkx : k < xs.length := by rw [HLEN.out]; exact hlt
        obtain ⟨b, off, rfl, hbl, hcell⟩ := HR2.out.resolve_left (by omega)
        obtain ⟨q0, q1⟩ := RdR.fld hcell hkx
        rw [← below_at hb hbl] at q0 q1
        obtain ⟨z0, z1⟩ := HXX.out _ (List.getElem_mem hkx)
        have HZ : Hid ((str xs[k].name).size = xs[k].name.length ∧ (str xs[k].val).size = xs[k].val.length) := ⟨str_size _, str_size _⟩
        rw [← str_size] at z0 z1
        clear hcell
        generalize str xs[k].name = s0 at *
        generalize str xs[k].val = s1 at *
        go_wp2_with fail
        refine (szField_any s0 s1 r _ z0 z1 hr0 (by omega)).mono ?_
        rintro e w2 ⟨r2, rfl, hg1, hg2, hsm, hb2⟩
        have HSM := Lib.hid hsm
        clear hsm
        by_cases hneg : r2 < 0
        · go_wp2
          go_ret
          exact ⟨-1, rfl, by omega, by omega, fun h => by omega, nx hb hb2⟩
        · go_wp2
          go_roundw
          case rel => exact ⟨k + 1, r2, by omega, by go_num, rfl, by omega, by omega, nx hb hb2, fun j hj hjx => by
            by_cases e : j = k
            · subst e
              obtain ⟨u0, u1⟩ := HSM.out (by omega)
              obtain ⟨y0, y1⟩ := HZ.out
              exact ⟨by omega, by omega⟩
            · exact HA.out j (by omega) hjx⟩
          case measure => simp [intOf]; omega
      · go_wp2
        go_ret
        exact ⟨r, rfl, by omega, hrm, fun _ => ⟨by rw [HLEN.out]; omega, fun x hx => by
          obtain ⟨j, hj, rfl⟩ := List.getElem_of_mem hx
          exact HA.out j (by have := HLEN.out; omega) hj⟩, hb⟩
set_option maxRecDepth 100000 in
set_option maxHeartbeats 1000000 in
theorem eqFieldS_any (a1 a2 : Option Addr) (n1 c1 n2 c2 : Nat) (xs ys : List Fld) (w : World) (h1 : RdF w a1 n1 xs) (h2 : RdF w a2 n2 ys) (hn1 : n1 ≤ maxLen) (hn2 : n2 ≤ maxLen) :
    Calls Tryd.prog 46 #[.slice a1 n1 c1, .slice a2 n2 c2] w fun e w' => e = .returned (.bool (decide (xs = ys))) ∧ Below w.heap.size w w' := by
  unfold maxLen at hn1 hn2
  obtain ⟨l1, r1⟩ := h1
  obtain ⟨l2, r2⟩ := h2
  have L1 := Lib.hid l1
  have L2 := Lib.hid l2
  by_cases hn : n1 = n2
  · subst hn
    have e1 : ((n1 : Int) != (n1 : Int)) = false := by simp
    by_cases h0 : n1 = 0
    · have hxy : Hid (xs = ys) := by show xs = ys; rw [List.length_eq_zero_iff.1 (l1.trans h0), List.length_eq_zero_iff.1 (l2.trans h0)]
      subst h0
      clear l1 l2 r1 r2
      go_enter Tryd.func46, Tryd.ntmps46
      go_wp2_with fail
      go_loop [5] (fun i => i = .int .i64 0) (fun _ => 0)
      case atStart => rfl
      case round =>
        subst hrel
        go_wp2
        go_ret
        exact ⟨ret_bool (decide_eq_true hxy.out).symm, Below.refl _ _⟩
    · obtain ⟨b1, o1, rfl, hb1, x1⟩ := r1.resolve_left h0
      obtain ⟨b2, o2, rfl, hb2, x2⟩ := r2.resolve_left h0
      have X1 := Lib.hid x1
      have X2 := Lib.hid x2
      clear l1 l2 r1 r2 x1 x2 h0
      go_enter Tryd.func46, Tryd.ntmps46
      go_wp2_with fail
      go_loopw [5] (fun i wr => ∃ k : Nat, k ≤ n1 ∧ i = .int .i64 k ∧ Below w.heap.size w wr ∧ xs.take k = ys.take k) (fun i _ => n1 - (intOf i).toNat)
      case atStart => exact ⟨0, Nat.zero_le _, rfl, Below.refl _ _, rfl⟩
      case round =>
        obtain ⟨k, hk, rfl, hb, htk⟩ := hrel
        have HTK := Lib.hid htk
        clear htk
        by_cases hlt : k < n1
        · have k1 : k < xs.length := by rw [L1.out]; exact hlt
          have k2 : k < ys.length := by rw [L2.out]; exact hlt
          obtain ⟨q0, q1⟩ := RdR.fld X1.out k1
          obtain ⟨p0, p1⟩ := RdR.fld X2.out k2
          rw [← below_at hb hb1] at q0 q1
          rw [← below_at hb hb2] at p0 p1
          have HDE : Hid (decide (fld (str xs[k].name) (str xs[k].val) = fld (str ys[k].name) (str ys[k].val)) = decide (xs[k] = ys[k])) := by show _ = _; rw [fld_str, fld_str]
          have HT1 := Lib.hid (List.take_succ_eq_append_getElem k1)
          have HT2 := Lib.hid (List.take_succ_eq_append_getElem k2)
          have HXY : Hid (xs[k] ≠ ys[k] → xs ≠ ys) := fun h e => h (by subst e; rfl)
          have hkz : (0 : Int) ≤ (k : Int) := by omega
          have hkn : (k : Int) < (n1 : Int) := by omega
          generalize xs[k] = x at *
          generalize ys[k] = y at *
          generalize str x.name = s0 at *
          generalize str x.val = s1 at *
          generalize str y.name = t0 at *
          generalize str y.val = t1 at *
          by_cases hxy : x = y
          · have HD : Hid (decide (fld s0 s1 = fld t0 t1) = true) := by show _ = _; rw [HDE.out]; exact decide_eq_true hxy
            have HN : Hid (xs.take (k + 1) = ys.take (k + 1)) := by show _ = _; rw [HT1.out, HT2.out, HTK.out, hxy]
            clear hxy
            go_wp2
            go_region_with (go_at_call 78; refine (eqField_any _ _ _ _ _).mono ?_; rintro e w4 ⟨rfl, hb4⟩; rw [HD.out])
            all_goals
              go_wp2
              go_roundw
              case rel => first | exact ⟨k + 1, by omega, by go_num, nx hb.drew hb4, HN.out⟩ | exact ⟨k + 1, by omega, by go_num, nx hb hb4, HN.out⟩
              case measure => simp [intOf]; omega
          · have HD : Hid (decide (fld s0 s1 = fld t0 t1) = false) := by show _ = _; rw [HDE.out]; exact decide_eq_false hxy
            have HN : Hid (xs ≠ ys) := HXY.out hxy
            clear hxy
            go_wp2
            go_region_with (go_at_call 78; refine (eqField_any _ _ _ _ _).mono ?_; rintro e w4 ⟨rfl, hb4⟩; rw [HD.out])
            all_goals
              go_wp2
              go_ret
              first | exact ⟨ret_bool (decide_eq_false HN.out).symm, nx hb.drew hb4⟩ | exact ⟨ret_bool (decide_eq_false HN.out).symm, nx hb hb4⟩
        · have HN : Hid (xs = ys) := by
            show xs = ys
            have h := HTK.out
            rw [List.take_of_length_le (by rw [L1.out]; omega), List.take_of_length_le (by rw [L2.out]; omega)] at h
            exact h
          go_wp2
          go_ret
          exact ⟨ret_bool (decide_eq_true HN.out).symm, hb⟩
  · have e1 : ((n1 : Int) != (n2 : Int)) = true := by rw [bne_iff_ne]; omega
    have HN : Hid (xs ≠ ys) := by show _ ≠ _; intro e; exact hn (by rw [← l1, ← l2, e])
    clear l1 l2 r1 r2
    go_enter Tryd.func46, Tryd.ntmps46
    go_wp2
    go_ret
    exact ⟨ret_bool (decide_eq_false HN.out).symm, Below.refl _ _⟩
end Go.Proofs.YtdoclfbfhlgejacDoor
