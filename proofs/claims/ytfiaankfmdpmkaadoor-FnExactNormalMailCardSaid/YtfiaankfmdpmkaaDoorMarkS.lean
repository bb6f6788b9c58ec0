/-
  Lists of strings in the exact laws: marks that leave other lists alone; sizes added up. No statement is proved here.
-/
import Derived.Test.YtfiaankfmdpmkaaDoorLists
import Derived.Test.YtfiaankfmdpmkaaDoorOnly
namespace Go.Proofs.YtfiaankfmdpmkaaDoor
open Go.RowKit

def MarkedO (B k : Nat) (a : Option Addr) (n c : Nat) (w : World) (e : Ending) (w' : World) : Prop := e = .returned (.int .i64 ((k + n : Nat) : Int)) ∧ OwnL B (.slice a n c) (marksFrom k n) w' ∧ Only (Value.slice a n c).ownBlock w w'
theorem markedO_mk {B k : Nat} {a : Option Addr} {n c : Nat} {w w' : World} {q : Int} (hq : q = ((k + n : Nat) : Int)) (ho : OwnL B (.slice a n c) (marksFrom k n) w') (hb : Only (Value.slice a n c).ownBlock w w') : MarkedO B k a n c w (.returned (.int .i64 q)) w' := ⟨by rw [hq], ho, hb⟩
set_option maxRecDepth 100000 in
set_option maxHeartbeats 2000000 in
theorem markStringS_only (B : Nat) (a : Option Addr) (n c : Nat) (xs : List (List UInt8)) (k : Nat) (w : World) (ho : OwnL B (.slice a n c) xs w) (hn : xs.length = n) (hk0 : 0 < k) (hk : k + n ≤ 1073741824) :
    Calls Tryd.prog 45 #[.slice a n c, .int .i64 k] w (MarkedO B k a n c w) := by
  unfold OwnL at ho
  rw [hn] at ho
  rcases ho.2 with ⟨hv, h0⟩ | ⟨g, cap, cur, hv, hBg, _⟩
  · subst h0
    have HO : Hid (OwnL B (.slice a 0 c) (marksFrom k 0) w) := by show OwnL _ _ _ _; rw [hv]; exact OwnL.nil B w
    clear hv ho
    go_enter Tryd.func45, Tryd.ntmps45
    go_wp2_with fail
    go_loop [1, 5] (fun q i => q = .int .i64 k ∧ i = .int .i64 0) (fun _ _ => 0)
    case atStart => exact ⟨rfl, rfl⟩
    case round =>
      obtain ⟨rfl, rfl⟩ := hrel
      go_wp2
      go_ret
      exact markedO_mk (by omega) HO.out (Only.refl _ _)
  · injection hv with h1 h2 h3
    subst h1 h3
    go_enter Tryd.func45, Tryd.ntmps45
    go_wp2_with fail
    go_loopw [1, 5] (fun q i wr => ∃ (j : Nat) (L : List Value), j ≤ n ∧ i = .int .i64 j ∧ q = .int .i64 ((k + j : Nat) : Int) ∧ Only (some g) w wr ∧ wr.ownsRow B 9 1 (.slice (some ⟨g, 0, none⟩) n c) n L ∧ g < wr.heap.size ∧ ∀ u, u < j → L[u]? = some (strV (mT (k + u)))) (fun _ i _ => n - (intOf i).toNat)
    case atStart => exact ⟨0, _, Nat.zero_le _, rfl, rfl, Only.refl _ _, ho, (ho.lt g rfl).2, fun j h => by omega⟩
    case round =>
      obtain ⟨j, L, hj, rfl, rfl, hb, hO, hg, hL⟩ := hrel
      have HL := Lib.hid hL
      clear hL
      by_cases hlt : j < n
      · go_wp2_with fail
        refine (markText_any (k + j) _ (by omega) (by omega)).mono ?_
        rintro e w1 ⟨rfl, hb1⟩
        rw [mT_eq]
        have hO1 : w1.ownsRow B 9 1 (.slice (some ⟨g, 0, none⟩) n c) n L := by
          refine ⟨hO.1, ?_⟩
          rcases hO.2 with hn | ⟨g', cap', cur', hv', hg1, hg2, rest⟩
          · exact .inl hn
          · refine .inr ⟨g', cap', cur', hv', hg1, ?_, rest⟩
            injection hv' with e1 _ _
            injection e1 with e1
            injection e1 with e1 _ _
            rw [← e1] at hg2 ⊢
            rw [hb1.block g hg, hg2]
        have hlL : L.length = n := by have := hO.1; omega
        obtain ⟨v0, hv0⟩ : ∃ v0, L[j]? = some v0 := ⟨L[j]'(by omega), List.getElem?_eq_getElem (by omega)⟩
        have hc2 : w1.cell? ⟨g, j, none⟩ = some v0 := by
          have := hO1.cells (g := g) rfl j v0 hv0
          rw [add0] at this; exact this
        have hf2 : w1.frozen? ⟨g, j, none⟩ = false := hO1.frozenAt j
        have HST := Lib.hid (hO1.stored j (.string (str (mT (k + j)))))
        have HLL := Lib.hid hlL
        have hb2 : Only (some g) w w1 := hb.ext hb1
        have hg1' : g < w1.heap.size := Nat.lt_of_lt_of_le hg hb1.size
        clear hlL hv0 hO1 hO
        go_wp2
        go_roundw
        case rel => exact ⟨j + 1, _, by omega, by go_num, by go_num, hb2.setCell _, HST.out.1, by simpa using hg1', fun u hu => by
          by_cases e : u = j
          · subst e; rw [List.getElem?_set_self (by rw [HLL.out]; omega)]; rfl
          · rw [List.getElem?_set_ne (fun h => e h.symm)]; exact HL.out u (by omega)⟩
        case measure => simp [intOf]; omega
      · have hjn : j = n := by omega
        have hlL : L.length = n := by have := hO.1; omega
        have hLe : L = (marksFrom k n).map strV := by
          apply List.ext_getElem?
          intro u
          by_cases hu : u < n
          · rw [HL.out u (by omega)]
            rw [List.getElem?_map, List.getElem?_eq_getElem (by rw [marksFrom_len]; exact hu), marksFrom_at]; rfl
          · rw [List.getElem?_eq_none (by omega), List.getElem?_eq_none (by rw [List.length_map, marksFrom_len]; omega)]
        have HO : Hid (OwnL B (.slice (some ⟨g, 0, none⟩) n c) (marksFrom k n) wr) := by show OwnL _ _ _ _; unfold OwnL; rw [marksFrom_len, ← hLe]; exact hO
        clear hlL hLe hO
        subst hjn
        go_wp2
        go_ret
        exact markedO_mk (by omega) HO.out hb
set_option maxRecDepth 100000 in
set_option maxHeartbeats 2000000 in
/-- A size is what is left, or below 0 where it does not fit. -/
def SizedT (m : Int) (xs : List (List UInt8)) (w : World) (e : Ending) (w' : World) : Prop := ∃ r : Int, e = .returned (.int .i64 r) ∧ -1 ≤ r ∧ r ≤ m ∧ (0 ≤ r → (xs.length : Int) + (xs.flatten.length : Int) ≤ m) ∧ w = w'
theorem szStringS_sum (a : Option Addr) (n c : Nat) (xs : List (List UInt8)) (m : Int) (w : World) (hr : RdL w a n xs) (hn : n ≤ maxLen) (hm0 : 0 ≤ m) (hm : m ≤ 1073741824) (hx : ∀ j, (h : j < xs.length) → xs[j].length ≤ maxLen) :
    Calls Tryd.prog 36 #[.slice a n c, .int .i64 m] w (SizedT m xs w) := by
  unfold maxLen at hn hx
  obtain ⟨hl, hr2⟩ := hr
  have HLEN := Lib.hid hl
  have HR2 := Lib.hid hr2
  have HXX := Lib.hid hx
  clear hl hr2 hx
  by_cases hbig : m < n
  · have d1 : (m - n : Int) < 0 := by omega
    go_enter Tryd.func36, Tryd.ntmps36
    go_wp2
    go_ret
    exact ⟨-1, rfl, by omega, by omega, fun h => by omega, rfl⟩
  · go_enter Tryd.func36, Tryd.ntmps36
    go_wp2_with fail
    go_loop [1, 5] (fun l i => ∃ (k : Nat) (r : Int), k ≤ n ∧ i = .int .i64 k ∧ l = .int .i64 r ∧ 0 ≤ r ∧ r ≤ m ∧ r + (n : Int) + ((xs.take k).flatten.length : Int) = m) (fun _ i => n - (intOf i).toNat)
    case atStart => exact ⟨0, m - n, Nat.zero_le _, rfl, rfl, by omega, by omega, by simp⟩
    case round =>
      obtain ⟨k, r, hk, rfl, rfl, hr0, hrm, hall⟩ := hrel
      have HA := Lib.hid hall
      clear hall
      by_cases hlt : k < n
      · have hkx : k < xs.length := by rw [HLEN.out]; exact hlt
        obtain ⟨b, off, rfl, hbl, hcell⟩ := HR2.out.resolve_left (by omega)
        have hc1 : w.cell? ⟨b, off + k, none⟩ = some (.string (str xs[k])) := hcell k hkx
        have hxl := HXX.out k hkx
        have HSZ := Lib.hid (str_size xs[k])
        have hsz : (str xs[k]).size ≤ 9223372036854775807 := by rw [HSZ.out]; omega
        clear hcell
        by_cases hs : r < (str xs[k]).size
        · go_wp2
          go_ret
          exact ⟨-1, rfl, by omega, by omega, fun h => by omega, rfl⟩
        · have HN : Hid (((xs.take (k + 1)).flatten.length : Int) = ((xs.take k).flatten.length : Int) + ((str xs[k]).size : Int)) := by
            show _ = _
            rw [List.take_succ_eq_append_getElem hkx, List.flatten_append, List.length_append, HSZ.out]; simp
          go_wp2
          go_round
          case rel => exact ⟨k + 1, r - (str xs[k]).size, by omega, by go_num, rfl, by omega, by omega, by have := HN.out; have := HA.out; omega⟩
          case measure => simp [intOf]; omega
      · go_wp2
        go_ret
        exact ⟨r, rfl, by omega, hrm, fun _ => by
          have h1 := HA.out
          rw [List.take_of_length_le (by rw [HLEN.out]; omega)] at h1
          have h2 := HLEN.out
          omega, rfl⟩
end Go.Proofs.YtfiaankfmdpmkaaDoor
