/-
  Lists of strings in the exact laws: their sizes, copies and comparisons. No statement is proved here.
-/
import Derived.Test.YtombejhpfobehaaGreatDoorDraw2
import Derived.Deep.QuietTactic
import Derived.BigQuiet
import Derived.Deep.RegionWith
namespace Go.Proofs.YtombejhpfobehaaGreatDoor
open Go.RowKit

theorem conv_one (w : World) (c : UInt8) {n : Int} (hn : (c.toNat : Int) = n) : (convert 116 9 (.slice (some ⟨w.heap.size, 0, none⟩) 1 1)).run Tryz.prog (w.alloc (.cells #[.int .u8 n] 5)) = .ok (.string ⟨#[c]⟩) (w.alloc (.cells #[.int .u8 n] 5)) := by
  subst hn
  exact run_convert_bytes_back (P := Tryz.prog) (w.alloc (.cells #[.int .u8 (c.toNat : Int)] 5)) 116 9 5 ⟨w.heap.size, 0, none⟩ 1 [c] Tryz.underlying116 Tryz.underlying5 Tryz.underlying9 (fun j hj => by
    obtain rfl : j = 0 := by simpa using hj
    rw [add0, World.cell?_alloc_at _ _ _ _ rfl]; rfl)
def dg : Nat → Nat → List UInt8 → List UInt8
  | 0, _, acc => acc
  | f + 1, k, acc => if k = 0 then acc else dg f (k / 10) (UInt8.ofNat (48 + k % 10) :: acc)
theorem dg_zero (f : Nat) (acc : List UInt8) : dg f 0 acc = acc := by cases f <;> simp [dg]
theorem dg_step {f k : Nat} (hk : 0 < k) (hf : k < f) (acc : List UInt8) : dg f k acc = dg (f - 1) (k / 10) (UInt8.ofNat (48 + k % 10) :: acc) := by
  match f, hf with
  | f + 1, _ => rw [dg, if_neg (by omega)]; rfl
/-- The mark of a number. -/
def markT (k : Nat) : ByteArray := str (109 :: dg (k + 1) k [])
def mT (k : Nat) : List UInt8 := 109 :: dg (k + 1) k []
theorem mT_eq (k : Nat) : markT k = str (mT k) := rfl
set_option maxRecDepth 100000 in
set_option maxHeartbeats 2000000 in
theorem markText_any (k : Nat) (w : World) (hk0 : 0 < k) (hk : k ≤ 1073741824) :
    Calls Tryz.prog 54 #[.int .i64 k] w fun e w' => e = .returned (.string (markT k)) ∧ Below w.heap.size w w' := by
  go_enter Tryz.func54, Tryz.ntmps54
  go_wp2_with fail
  go_loopw [0, 3] (fun i v wr => ∃ (m f : Nat) (o : ByteArray), i = .int .i64 m ∧ v = .string o ∧ m < f ∧ o.size + m ≤ k ∧ dg f m o.data.toList = dg (k + 1) k [] ∧ Below w.heap.size w wr) (fun i _ _ => (intOf i).toNat)
  case atStart => exact ⟨k, k + 1, _, rfl, rfl, by omega, (by show 0 + k ≤ k; omega), rfl, Below.refl _ _⟩
  case round =>
    obtain ⟨m, f, o, rfl, rfl, hmf, hos, hdg, hb⟩ := hrel
    have HD := Lib.hid hdg
    clear hdg
    by_cases hm : 0 < m
    · have HN : Hid (dg (f - 1) (m / 10) (UInt8.ofNat (48 + m % 10) :: o.data.toList) = dg (k + 1) k []) := by show _ = _; rw [← HD.out, dg_step hm hmf]
      have hcv := conv_one wr (UInt8.ofNat (48 + m % 10)) (n := (48 : Int) + (m : Int) % 10) (by rw [UInt8.toNat_ofNat_of_lt' (by show _ < 256; omega)]; omega)
      have q1 : 0 ≤ (m : Int) % 10 := Int.emod_nonneg _ (by omega)
      have q2 : (m : Int) % 10 < 10 := Int.emod_lt_of_pos _ (by omega)
      generalize UInt8.ofNat (48 + m % 10) = ch at *
      have hz1 : (ByteArray.mk #[ch]).size = 1 := rfl
      go_wp2
      go_roundw
      case rel => exact ⟨m / 10, f - 1, _, by go_num, rfl, by omega, by rw [ByteArray.size_append, hz1]; omega, by rw [Joins.data_append]; exact HN.out, hb.alloc hb.size _⟩
      case measure => simp [intOf]; omega
    · have hm0 : m = 0 := by omega
      subst hm0
      have HE : Hid (o.data.toList = dg (k + 1) k []) := by show _ = _; rw [← HD.out, dg_zero]
      have hz1 : (ByteArray.mk #[109]).size = 1 := rfl
      clear hm
      go_wp2
      go_ret
      exact ⟨ret_str (bytes_ext (by rw [Joins.data_append, HE.out]; unfold markT; rw [str_list]; rfl)), hb⟩
/-- A list of the call's own is returned; nothing that was there turns. -/
def ListRet (xs : List (List UInt8)) (w : World) (e : Ending) (w' : World) : Prop := ∃ a c, e = .returned (.slice a xs.length c) ∧ OwnL w.heap.size (.slice a xs.length c) xs w' ∧ RdL w' a xs.length xs ∧ Below w.heap.size w w'
theorem list_of_row {B g n : Nat} {xs : List (List UInt8)} {L : List Value} {w : World} (h : w.ownsRow B 9 1 (.slice (some ⟨g, 0, none⟩) n n) n L) (hl : xs.length = n) (hx : ∀ j, (hj : j < xs.length) → L[j]? = some (strV xs[j])) : OwnL B (.slice (some ⟨g, 0, none⟩) n n) xs w := by
  have hL : L = xs.map strV := by
    apply List.ext_getElem?
    intro j
    by_cases hj : j < xs.length
    · rw [hx j hj]; simp [List.getElem?_map, List.getElem?_eq_getElem hj]
    · rw [List.getElem?_eq_none (by have := h.1; omega), List.getElem?_eq_none (by simp; omega)]
  unfold OwnL
  rw [← hL, hl]; exact h
theorem listRet_mk {xs : List (List UInt8)} {w w' : World} {a : Option Addr} {n c : Nat} (hn : n = xs.length) (ho : OwnL w.heap.size (.slice a n c) xs w') (hb : Below w.heap.size w w') : ListRet xs w (.returned (.slice a n c)) w' := by
  subst hn
  obtain ⟨a', c', hv, hr, _⟩ := ho.read
  injection hv with h1 h2 h3
  subst h1 h3
  exact ⟨a, c, rfl, ho, hr, hb⟩
set_option maxRecDepth 100000 in
set_option maxHeartbeats 2000000 in
theorem toStringS_any (a : Option Addr) (n c : Nat) (xs : List (List UInt8)) (w : World) (hr : RdL w a n xs) (hn : n ≤ 1073741824) :
    Calls Tryz.prog 40 #[.slice a n c] w (ListRet xs w) := by
  obtain ⟨i0, hi, hz0, hz1, hz2⟩ := info_parts sInfo
  obtain ⟨hl, hr2⟩ := hr
  have HLEN := Lib.hid hl
  have HR2 := Lib.hid hr2
  clear hl hr2
  go_enter Tryz.func40, Tryz.ntmps40
  go_wp2_with (at_make; refine wpList_make_full _ rfl _ _ 31 rfl w.heap.size 9 i0 (.string ⟨#[]⟩) 1 Tryz.underlying31 hi hz0 hz1 _ _ (n : Int) (n : Int) n rfl rfl rfl rfl ?c1 ?c2 ?c3 ?_)
  case c1 => rw [hz2]; omega
  case c2 => unfold maxLen; omega
  case c3 => exact Nat.le_refl _
  intro w1 hown hgrow
  have hb1 : Below w.heap.size w w1 := (Below.refl _ _).grown hgrow (Nat.le_refl _) (fun k hk => by cases hk)
  go_wp2_with fail
  go_loopw [4] (fun i wr => ∃ (k : Nat) (L : List Value), k ≤ n ∧ i = .int .i64 k ∧ Below w.heap.size w wr ∧ wr.ownsRow w.heap.size 9 1 (.slice (some ⟨w.heap.size, 0, none⟩) n n) n L ∧ ∀ j, j < k → (hj : j < xs.length) → L[j]? = some (strV xs[j])) (fun i _ => n - (intOf i).toNat)
  case atStart => exact ⟨0, _, Nat.zero_le _, rfl, hb1, hown, fun j h => by omega⟩
  case round =>
    obtain ⟨k, L, hk, rfl, hb, hO, hL⟩ := hrel
    have HL := Lib.hid hL
    clear hL
    by_cases hlt : k < n
    · have hkx : k < xs.length := by rw [HLEN.out]; exact hlt
      obtain ⟨b, off, rfl, hbl, hcell⟩ := HR2.out.resolve_left (by omega)
      have hc1 : wr.cell? ⟨b, off + k, none⟩ = some (.string (str xs[k])) := by rw [below_at hb hbl]; exact hcell k hkx
      have hlL : L.length = n := by have := hO.1; omega
      obtain ⟨v0, hv0⟩ : ∃ v0, L[k]? = some v0 := ⟨L[k]'(by omega), List.getElem?_eq_getElem (by omega)⟩
      have hc2 : wr.cell? ⟨w.heap.size, k, none⟩ = some v0 := by
        have := hO.cells (g := w.heap.size) rfl k v0 hv0
        rw [add0] at this; exact this
      have hf2 : wr.frozen? ⟨w.heap.size, k, none⟩ = false := hO.frozenAt k
      have hst := hO.stored k (.string (str xs[k]))
      have HST := Lib.hid hst
      have HLL := Lib.hid hlL
      clear hst hlL hcell hv0
      go_wp2
      go_roundw
      case rel => exact ⟨k + 1, _, by omega, by go_num, hb.setCell (by simp) _, HST.out.1, fun j hj hjx => by
        by_cases e : j = k
        · subst e; rw [List.getElem?_set_self (by rw [HLL.out]; omega)]; rfl
        · rw [List.getElem?_set_ne (fun h => e h.symm)]; exact HL.out j (by omega) hjx⟩
      case measure => simp [intOf]; omega
    · go_wp2
      go_ret
      exact listRet_mk HLEN.out.symm (list_of_row hO HLEN.out (fun j hj => HL.out j (by have := HLEN.out; omega) hj)) hb
set_option maxRecDepth 100000 in
set_option maxHeartbeats 2000000 in
/-- A size is what is left, or below 0 where it does not fit. -/
def Sized (m : Int) (xs : List (List UInt8)) (w : World) (e : Ending) (w' : World) : Prop := ∃ r : Int, e = .returned (.int .i64 r) ∧ -1 ≤ r ∧ r ≤ m ∧ (0 ≤ r → (xs.length : Int) ≤ m ∧ ∀ x ∈ xs, (x.length : Int) ≤ m) ∧ w = w'
theorem szStringS_any (a : Option Addr) (n c : Nat) (xs : List (List UInt8)) (m : Int) (w : World) (hr : RdL w a n xs) (hn : n ≤ maxLen) (hm0 : 0 ≤ m) (hm : m ≤ 1073741824) (hx : ∀ j, (h : j < xs.length) → xs[j].length ≤ maxLen) :
    Calls Tryz.prog 38 #[.slice a n c, .int .i64 m] w (Sized m xs w) := by
  unfold maxLen at hn hx
  obtain ⟨hl, hr2⟩ := hr
  have HLEN := Lib.hid hl
  have HR2 := Lib.hid hr2
  have HXX := Lib.hid hx
  clear hl hr2 hx
  by_cases hbig : m < n
  · have d1 : (m - n : Int) < 0 := by omega
    go_enter Tryz.func38, Tryz.ntmps38
    go_wp2
    go_ret
    exact ⟨-1, rfl, by omega, by omega, fun h => by omega, rfl⟩
  · go_enter Tryz.func38, Tryz.ntmps38
    go_wp2_with fail
    go_loop [1, 5] (fun l i => ∃ (k : Nat) (r : Int), k ≤ n ∧ i = .int .i64 k ∧ l = .int .i64 r ∧ 0 ≤ r ∧ r ≤ m ∧ ∀ j, j < k → (hj : j < xs.length) → (xs[j].length : Int) ≤ m) (fun _ i => n - (intOf i).toNat)
    case atStart => exact ⟨0, m - n, Nat.zero_le _, rfl, rfl, by omega, by omega, fun j h => by omega⟩
    case round =>
      obtain ⟨k, r, hk, rfl, rfl, hr0, hrm, hall⟩ := hrel
      have HA := Lib.hid hall
      clear hall
      by_cases hlt : k < n
      · have hkx : k < xs.length := by rw [HLEN.out]; exact hlt
        obtain ⟨b, off, rfl, hbl, hcell⟩ := HR2.out.resolve_left (by omega)
        have hc1 : w.cell? ⟨b, off + k, none⟩ = some (.string (str xs[k])) := hcell k hkx
        have hxl := HXX.out k hkx
        have HSZ := Lib.hid (str_size xs[k])
        have hsz : (str xs[k]).size ≤ 9223372036854775807 := by rw [HSZ.out]; omega
        clear hcell
        by_cases hs : r < (str xs[k]).size
        · go_wp2
          go_ret
          exact ⟨-1, rfl, by omega, by omega, fun h => by omega, rfl⟩
        · have HN : Hid ((xs[k].length : Int) ≤ m) := by show _ ≤ _; rw [← HSZ.out]; omega
          go_wp2
          go_round
          case rel => exact ⟨k + 1, r - (str xs[k]).size, by omega, by go_num, rfl, by omega, by omega, fun j hj hjx => by
            by_cases e : j = k
            · subst e; exact HN.out
            · exact HA.out j (by omega) hjx⟩
          case measure => simp [intOf]; omega
      · go_wp2
        go_ret
        exact ⟨r, rfl, by omega, hrm, fun _ => ⟨by rw [HLEN.out]; omega, fun x hx => by
          obtain ⟨j, hj, rfl⟩ := List.getElem_of_mem hx
          exact HA.out j (by have := HLEN.out; omega) hj⟩, rfl⟩
set_option maxRecDepth 100000 in
set_option maxHeartbeats 2000000 in
theorem eqStringS_any (a1 a2 : Option Addr) (n1 c1 n2 c2 : Nat) (xs ys : List (List UInt8)) (w : World) (h1 : RdL w a1 n1 xs) (h2 : RdL w a2 n2 ys) (hn1 : n1 ≤ maxLen) (hn2 : n2 ≤ maxLen) :
    Calls Tryz.prog 42 #[.slice a1 n1 c1, .slice a2 n2 c2] w fun e w' => e = .returned (.bool (decide (xs = ys))) ∧ Below w.heap.size w w' := by
  unfold maxLen at hn1 hn2
  obtain ⟨l1, r1⟩ := h1
  obtain ⟨l2, r2⟩ := h2
  have L1 := Lib.hid l1
  have L2 := Lib.hid l2
  by_cases hn : n1 = n2
  · subst hn
    have e1 : ((n1 : Int) != (n1 : Int)) = false := by simp
    by_cases h0 : n1 = 0
    · have hxy : Hid (xs = ys) := by show xs = ys; rw [List.length_eq_zero_iff.1 (l1.trans h0), List.length_eq_zero_iff.1 (l2.trans h0)]
      subst h0
      clear l1 l2 r1 r2
      go_enter Tryz.func42, Tryz.ntmps42
      go_wp2_with fail
      go_loop [5] (fun i => i = .int .i64 0) (fun _ => 0)
      case atStart => rfl
      case round =>
        subst hrel
        go_wp2
        go_ret
        exact ⟨ret_bool (decide_eq_true hxy.out).symm, Below.refl _ _⟩
    · obtain ⟨b1, o1, rfl, hb1, x1⟩ := r1.resolve_left h0
      obtain ⟨b2, o2, rfl, hb2, x2⟩ := r2.resolve_left h0
      have X1 := Lib.hid x1
      have X2 := Lib.hid x2
      clear l1 l2 r1 r2 x1 x2 h0
      go_enter Tryz.func42, Tryz.ntmps42
      go_wp2_with fail
      go_loopw [5] (fun i wr => ∃ k : Nat, k ≤ n1 ∧ i = .int .i64 k ∧ Below w.heap.size w wr ∧ xs.take k = ys.take k) (fun i _ => n1 - (intOf i).toNat)
      case atStart => exact ⟨0, Nat.zero_le _, rfl, Below.refl _ _, rfl⟩
      case round =>
        obtain ⟨k, hk, rfl, hb, htk⟩ := hrel
        have HTK := Lib.hid htk
        clear htk
        by_cases hlt : k < n1
        · have k1 : k < xs.length := by rw [L1.out]; exact hlt
          have k2 : k < ys.length := by rw [L2.out]; exact hlt
          have g1 : wr.cell? ⟨b1, o1 + k, none⟩ = some (.string (str xs[k])) := by rw [below_at hb hb1]; exact X1.out k k1
          have g2 : wr.cell? ⟨b2, o2 + k, none⟩ = some (.string (str ys[k])) := by rw [below_at hb hb2]; exact X2.out k k2
          by_cases hxy : xs[k] = ys[k]
          · have e3 : ((str xs[k]).toList == (str ys[k]).toList) = true := by rw [hxy]; simp
            have e4 : ((str xs[k]).toList != (str ys[k]).toList) = false := by rw [hxy]; simp
            have HN : Hid (xs.take (k + 1) = ys.take (k + 1)) := by show _ = _; rw [List.take_succ_eq_append_getElem k1, List.take_succ_eq_append_getElem k2, HTK.out, hxy]
            clear hxy
            go_wp2
            go_quiet (fail)
            go_wp2
            go_roundw
            case rel => exact ⟨k + 1, by omega, by go_num, below_drewN hb _, HN.out⟩
            case measure => simp [intOf]; omega
          · have hne : str xs[k] ≠ str ys[k] := fun e => hxy (by rw [← str_list xs[k], e, str_list])
            have e3 : ((str xs[k]).toList == (str ys[k]).toList) = false := by rw [beq_dec]; simpa using hne
            have e4 : ((str xs[k]).toList != (str ys[k]).toList) = true := by rw [bne, e3]; rfl
            have HN : Hid (xs ≠ ys) := by show _ ≠ _; intro e; subst e; exact hxy rfl
            clear hxy hne
            go_wp2
            go_quiet (fail)
            go_wp2
            go_ret
            exact ⟨ret_bool (decide_eq_false HN.out).symm, below_drewN hb _⟩
        · have HN : Hid (xs = ys) := by
            show xs = ys
            have h := HTK.out
            rw [List.take_of_length_le (by rw [L1.out]; omega), List.take_of_length_le (by rw [L2.out]; omega)] at h
            exact h
          go_wp2
          go_ret
          exact ⟨ret_bool (decide_eq_true HN.out).symm, hb⟩
  · have e1 : ((n1 : Int) != (n2 : Int)) = true := by rw [bne_iff_ne]; omega
    have HN : Hid (xs ≠ ys) := by show _ ≠ _; intro e; exact hn (by rw [← l1, ← l2, e])
    clear l1 l2 r1 r2
    go_enter Tryz.func42, Tryz.ntmps42
    go_wp2
    go_ret
    exact ⟨ret_bool (decide_eq_false HN.out).symm, Below.refl _ _⟩
/-- The marks from k on. -/
def marksFrom (k n : Nat) : List (List UInt8) := (List.range n).map fun i => mT (k + i)
theorem marksFrom_len (k n : Nat) : (marksFrom k n).length = n := by simp [marksFrom]
theorem marksFrom_at (k n j : Nat) (h : j < (marksFrom k n).length) : (marksFrom k n)[j] = mT (k + j) := by simp [marksFrom]
/-- A row in which the marks from k on stand. -/
def Marked (B k : Nat) (a : Option Addr) (n c : Nat) (w : World) (e : Ending) (w' : World) : Prop := e = .returned (.int .i64 ((k + n : Nat) : Int)) ∧ OwnL B (.slice a n c) (marksFrom k n) w' ∧ Below B w w'
theorem marked_mk {B k : Nat} {a : Option Addr} {n c : Nat} {w w' : World} {q : Int} (hq : q = ((k + n : Nat) : Int)) (ho : OwnL B (.slice a n c) (marksFrom k n) w') (hb : Below B w w') : Marked B k a n c w (.returned (.int .i64 q)) w' := ⟨by rw [hq], ho, hb⟩
set_option maxRecDepth 100000 in
set_option maxHeartbeats 2000000 in
theorem markStringS_any (B : Nat) (a : Option Addr) (n c : Nat) (xs : List (List UInt8)) (k : Nat) (w : World) (ho : OwnL B (.slice a n c) xs w) (hn : xs.length = n) (hB : B ≤ w.heap.size) (hk0 : 0 < k) (hk : k + n ≤ 1073741824) :
    Calls Tryz.prog 43 #[.slice a n c, .int .i64 k] w (Marked B k a n c w) := by
  unfold OwnL at ho
  rw [hn] at ho
  rcases ho.2 with ⟨hv, h0⟩ | ⟨g, cap, cur, hv, hBg, _⟩
  · subst h0
    have HO : Hid (OwnL B (.slice a 0 c) (marksFrom k 0) w) := by show OwnL _ _ _ _; rw [hv]; exact OwnL.nil B w
    clear hv ho
    go_enter Tryz.func43, Tryz.ntmps43
    go_wp2_with fail
    go_loop [1, 5] (fun q i => q = .int .i64 k ∧ i = .int .i64 0) (fun _ _ => 0)
    case atStart => exact ⟨rfl, rfl⟩
    case round =>
      obtain ⟨rfl, rfl⟩ := hrel
      go_wp2
      go_ret
      exact marked_mk (by omega) HO.out (Below.refl _ _)
  · injection hv with h1 h2 h3
    subst h1 h3
    go_enter Tryz.func43, Tryz.ntmps43
    go_wp2_with fail
    go_loopw [1, 5] (fun q i wr => ∃ (j : Nat) (L : List Value), j ≤ n ∧ i = .int .i64 j ∧ q = .int .i64 ((k + j : Nat) : Int) ∧ Below B w wr ∧ wr.ownsRow B 9 1 (.slice (some ⟨g, 0, none⟩) n c) n L ∧ g < wr.heap.size ∧ ∀ u, u < j → L[u]? = some (strV (mT (k + u)))) (fun _ i _ => n - (intOf i).toNat)
    case atStart => exact ⟨0, _, Nat.zero_le _, rfl, rfl, Below.refl _ _, ho, (ho.lt g rfl).2, fun j h => by omega⟩
    case round =>
      obtain ⟨j, L, hj, rfl, rfl, hb, hO, hg, hL⟩ := hrel
      have HL := Lib.hid hL
      clear hL
      by_cases hlt : j < n
      · go_wp2_with fail
        refine (markText_any (k + j) _ (by omega) (by omega)).mono ?_
        rintro e w1 ⟨rfl, hb1⟩
        rw [mT_eq]
        have hO1 : w1.ownsRow B 9 1 (.slice (some ⟨g, 0, none⟩) n c) n L := by
          refine ⟨hO.1, ?_⟩
          rcases hO.2 with hn | ⟨g', cap', cur', hv', hg1, hg2, rest⟩
          · exact .inl hn
          · refine .inr ⟨g', cap', cur', hv', hg1, ?_, rest⟩
            injection hv' with e1 _ _
            injection e1 with e1
            injection e1 with e1 _ _
            rw [← e1] at hg2 ⊢
            rw [hb1.block g hg, hg2]
        have hlL : L.length = n := by have := hO.1; omega
        obtain ⟨v0, hv0⟩ : ∃ v0, L[j]? = some v0 := ⟨L[j]'(by omega), List.getElem?_eq_getElem (by omega)⟩
        have hc2 : w1.cell? ⟨g, j, none⟩ = some v0 := by
          have := hO1.cells (g := g) rfl j v0 hv0
          rw [add0] at this; exact this
        have hf2 : w1.frozen? ⟨g, j, none⟩ = false := hO1.frozenAt j
        have HST := Lib.hid (hO1.stored j (.string (str (mT (k + j)))))
        have HLL := Lib.hid hlL
        have hbs := hb.size
        have hb2 : Below B w w1 := hb.trans (hb1.mono (by omega))
        have hg1' : g < w1.heap.size := Nat.lt_of_lt_of_le hg hb1.size
        clear hlL hv0 hO1 hO
        go_wp2
        go_roundw
        case rel => exact ⟨j + 1, _, by omega, by go_num, by go_num, hb2.setCell hBg _, HST.out.1, by simpa using hg1', fun u hu => by
          by_cases e : u = j
          · subst e; rw [List.getElem?_set_self (by rw [HLL.out]; omega)]; rfl
          · rw [List.getElem?_set_ne (fun h => e h.symm)]; exact HL.out u (by omega)⟩
        case measure => simp [intOf]; omega
      · have hjn : j = n := by omega
        have hlL : L.length = n := by have := hO.1; omega
        have hLe : L = (marksFrom k n).map strV := by
          apply List.ext_getElem?
          intro u
          by_cases hu : u < n
          · rw [HL.out u (by omega)]
            rw [List.getElem?_map, List.getElem?_eq_getElem (by rw [marksFrom_len]; exact hu), marksFrom_at]; rfl
          · rw [List.getElem?_eq_none (by omega), List.getElem?_eq_none (by rw [List.length_map, marksFrom_len]; omega)]
        have HO : Hid (OwnL B (.slice (some ⟨g, 0, none⟩) n c) (marksFrom k n) wr) := by show OwnL _ _ _ _; unfold OwnL; rw [marksFrom_len, ← hLe]; exact hO
        clear hlL hLe hO
        subst hjn
        go_wp2
        go_ret
        exact marked_mk (by omega) HO.out hb
set_option maxRecDepth 100000 in
set_option maxHeartbeats 2000000 in
theorem heldStringS_any (a : Option Addr) (n c : Nat) (k : Nat) (w : World) (hr : RdL w a n (marksFrom k n)) (hk0 : 0 < k) (hk : k + n ≤ 1073741824) :
    Calls Tryz.prog 60 #[.slice a n c, .int .i64 k] w fun e w' => e = .returned (.int .i64 ((k + n : Nat) : Int)) ∧ Below w.heap.size w w' := by
  have HR := Lib.hid hr.2
  clear hr
  go_enter Tryz.func60, Tryz.ntmps60
  go_wp2_with fail
  go_loopw [1, 5] (fun q i wr => ∃ j : Nat, j ≤ n ∧ i = .int .i64 j ∧ q = .int .i64 ((k + j : Nat) : Int) ∧ Below w.heap.size w wr) (fun _ i _ => n - (intOf i).toNat)
  case atStart => exact ⟨0, Nat.zero_le _, rfl, rfl, Below.refl _ _⟩
  case round =>
    obtain ⟨j, hj, rfl, rfl, hb⟩ := hrel
    by_cases hlt : j < n
    · obtain ⟨b, off, rfl, hbl, hcell⟩ := HR.out.resolve_left (by omega)
      have hc1 : wr.cell? ⟨b, off + j, none⟩ = some (.string (str (mT (k + j)))) := by
        rw [below_at hb hbl, hcell j (by rw [marksFrom_len]; exact hlt), marksFrom_at]
      have hbs := Nat.lt_of_lt_of_le hbl hb.size
      have e1 : ((str (mT (k + j))).toList != (str (mT (k + j))).toList) = false := by simp
      generalize hM : str (mT (k + j)) = M at *
      have HM := Lib.hid hM
      clear hcell hM
      go_wp2
      go_region_with (go_at_call 54; refine (markText_any (k + j) _ ?_ ?_).mono ?_; omega; omega; rintro e w4 ⟨rfl, hb4⟩; rw [mT_eq, HM.out]; have hc4 := (below_at (o := off + j) hb4 hbs).trans hc1)
      all_goals
        go_wp2
        go_roundw
        case rel => exact ⟨j + 1, by omega, by go_num, by go_num, nx hb.drew hb4⟩
        case measure => simp [intOf]; omega
    · have hjn : j = n := by omega
      subst hjn
      go_wp2
      go_ret
      exact ⟨rfl, hb⟩
end Go.Proofs.YtombejhpfobehaaGreatDoor
