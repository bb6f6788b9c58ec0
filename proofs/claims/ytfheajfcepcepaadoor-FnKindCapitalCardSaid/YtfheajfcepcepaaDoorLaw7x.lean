/-
  The law of chapter 7 that kinds are in small letters: its walk. For every input of the law: it returns true, and the input reads as it did. Conditions: none but the statement's own.
-/
import Derived.Test.YtfheajfcepcepaaDoorLaw0
import Derived.Test.YtfheajfcepcepaaDoorZip
namespace Go.Proofs.YtfheajfcepcepaaDoor
open Go.ChangeShapes Go.WideShapes Go.ChangeAt Go.RowKit
open Go.ChangeMaps (open_string shut_string)

def smB (c : UInt8) : Bool := decide (97 ≤ c.toNat) && decide (c.toNat ≤ 122)
def upB (c : UInt8) : UInt8 := if smB c then c - 32 else c
def up (l : List UInt8) : List UInt8 := l.map upB
theorem low_upB_nat : ∀ n, n < 256 → lowB (upB (UInt8.ofNat n)) = lowB (UInt8.ofNat n) := by decide +kernel
theorem low_up (l : List UInt8) : low (up l) = low l := by
  unfold low up
  rw [List.map_map]
  refine List.map_congr_left fun c _ => ?_
  have := low_upB_nat c.toNat c.toNat_lt
  rw [UInt8.ofNat_toNat] at this; exact this
theorem smB_t {c : UInt8} (h : smB c = true) : (97 : Int) ≤ c.toNat ∧ (c.toNat : Int) ≤ 122 := by unfold smB at h; simp at h; omega
theorem smB_f {c : UInt8} (h : smB c = false) : (c.toNat : Int) < 97 ∨ (97 ≤ (c.toNat : Int) ∧ 122 < (c.toNat : Int)) := by unfold smB at h; simp at h; omega
theorem upB_t_nat : ∀ n, n < 256 → smB (UInt8.ofNat n) = true → ((UInt8.ofNat n).toNat : Int) - 32 = (upB (UInt8.ofNat n)).toNat := by decide +kernel
theorem upB_t {c : UInt8} (h : smB c = true) : (c.toNat : Int) - 32 = (upB c).toNat := by
  have := upB_t_nat c.toNat c.toNat_lt
  rw [UInt8.ofNat_toNat] at this; exact this h
theorem upB_f {c : UInt8} (h : smB c = false) : upB c = c := by unfold upB; rw [if_neg (by simp [h])]
def upCells (s : ByteArray) (b k : Nat) (wr : World) : Prop :=
  (∀ j, (h : j < s.size) → wr.cell? ⟨b, j, none⟩ = some (.int .u8 ((if j < k then upB s[j] else s[j]).toNat : Int))) ∧ (∀ j, j < s.size → wr.frozen? ⟨b, j, none⟩ = false)
theorem upCells_start (s : ByteArray) (w : World) (cap : Nat) (t : TypeId) : upCells s w.heap.size 0 (w.alloc (.cells (bytesRow s cap) t ((bytesRow s cap).size, (bytesRow s cap).size + 1))) := by
  refine ⟨fun j h => ?_, fun j h => ?_⟩
  · rw [World.cell?_alloc_mark, bytesRow_at s cap j h]; simp; rfl
  · rw [World.frozen?_alloc_mark]; simp [bytesRow]; intro _; omega
theorem upCells_drew {s : ByteArray} {b k : Nat} {w : World} (h : upCells s b k w) : upCells s b k w.drew := h
theorem upCells_keep {s : ByteArray} {b k : Nat} {w : World} (h : upCells s b k w) (hk : k < s.size) (hc : smB s[k] = false) : upCells s b (k + 1) w := by
  refine ⟨fun j hj => ?_, h.2⟩
  rw [h.1 j hj]
  by_cases e : j = k
  · subst e; rw [if_neg (Nat.lt_irrefl _), if_pos (by omega), upB_f hc]
  · by_cases e2 : j < k
    · rw [if_pos e2, if_pos (by omega)]
    · rw [if_neg e2, if_neg (by omega)]
theorem upCells_set {s : ByteArray} {b k : Nat} {w : World} (h : upCells s b k w) (hk : k < s.size) (v : Int) (hv : v = (upB s[k]).toNat) : upCells s b (k + 1) (w.setCell ⟨b, k, none⟩ (.int .u8 v)) := by
  refine ⟨fun j hj => ?_, fun j hj => ?_⟩
  · by_cases e : j = k
    · subst e; rw [cell_same (h.1 j hk), if_pos (by omega), hv]
    · rw [cell_off (fun he => e he.symm), h.1 j hj]
      by_cases e2 : j < k
      · rw [if_pos e2, if_pos (by omega)]
      · rw [if_neg e2, if_neg (by omega)]
  · rw [World.frozen?_setCell]; exact h.2 j hj
def upS (s : ByteArray) : ByteArray := str (up s.data.toList)
theorem upS_size (s : ByteArray) : (upS s).size = s.size := by simp [upS, up, str_size]
theorem upS_at (s : ByteArray) (j : Nat) (h : j < s.size) : (upS s)[j]'(by rw [upS_size]; exact h) = upB s[j] := by
  show (upS s).data.toList[j]'(by rw [size_list, upS_size]; exact h) = upB (s.data.toList[j]'(by rw [size_list]; exact h))
  simp [upS, str_list, up]
theorem upCells_back {P : Program} {s : ByteArray} {b : Nat} {w : World} (h : upCells s b s.size w) (src dst e : TypeId) (cap : Nat) (hs : P.underlying src = some (.slice e)) (he : P.underlying e = some (.int .u8)) (hd : P.underlying dst = some .string) :
    (convert src dst (.slice (some ⟨b, 0, none⟩) s.size cap)).run P w = .ok (.string (upS s)) w := by
  have hl : ((upS s).data.toList).length = s.size := upS_size s
  have := run_convert_bytes_back (P := P) w src dst e ⟨b, 0, none⟩ cap (upS s).data.toList hs he hd (fun j hj => by
    have hj' : j < s.size := by omega
    rw [add0, h.1 j hj', if_pos hj']
    simp [upS, up, str]; rfl)
  rw [hl] at this
  rw [this]
set_option maxRecDepth 100000 in
set_option maxHeartbeats 4000000 in
theorem fnKindCapital_walk (a : Option Addr) (n c : Nat) (w : World) (tab : Tab w) (hc : Code w a n) (hnc : n ≤ c) (hm : c ≤ maxLen) :
    Calls Tryd.prog 6 #[.slice a n c] w fun e w' => e = .returned (.bool true) ∧ Below w.heap.size w w' := by
  have hm' := hm
  unfold maxLen at hm'
  by_cases hn : 1048576 < n
  · have hd : decide ((1048576 : Int) < n) = true := by simp; omega
    go_enter Tryd.func6, Tryd.ntmps6
    go_wp2
    go_ret
    exact ⟨rfl, Below.refl _ _⟩
  have hd : decide ((1048576 : Int) < n) = false := by simp; omega
  go_enter Tryd.func6, Tryd.ntmps6
  go_wp2_with fail
  refine (drawFormatKind_any a n c w hc hnc hm).mono ?_
  rintro e w1 ⟨k, ak, dk, rfl, hok, hnk, hsk, hb1⟩
  rw [kndV_agg]
  have HK := Lib.hid (RdK.own hok (smallK2_of hsk (by omega) (by omega)))
  have hkz : (str (fmtK k)).size ≤ 150 := by rw [str_size]; exact fmtK_len k
  have HNE : Hid (isKnd k = true → ((str (fmtK k)).toList.isEmpty) = false) := fun h => by
    rw [ByteArray.toList_eq, str_list]
    have := fmtK_ne.2 h
    cases hq : fmtK k with
    | nil => exact absurd hq this
    | cons x xs => rfl
  have HEM : Hid (isKnd k = false → str (fmtK k) = ⟨#[]⟩) := fun h => by rw [fmtK_no h]; rfl
  have HF1 : Hid (∀ u, Below w1.heap.size w1 u → Calls Tryd.prog 10 #[.agg #[.string (str k.main), .string (str k.sub), .slice ak k.params.length dk]] u fun e w' => e = .returned (.string (str (fmtK k))) ∧ Below u.heap.size u w') := fun u h => formatKind_k u (tab.below (nx hb1 h)) (HK.out.below h)
  have HF2 : Hid (∀ u, Below w1.heap.size w1 u → Calls Tryd.prog 11 #[.agg #[.string (str k.main), .string (str k.sub), .slice ak k.params.length dk]] u fun e w' => e = .returned (.string (str (fmtK k))) ∧ Below u.heap.size u w') := fun u h => formatKindS_k u (HK.out.below h)
  have HUP : Hid (isKnd k = true → k.params.length = 0 → ∀ u, Below w.heap.size w u → Calls Tryd.prog 14 #[.string (upS (str (fmtK k)))] u fun e w' => ∃ b f, e = .returned (.tuple #[.agg #[.string (str k.main), .string (str k.sub), .slice b k.params.length f], .bool true]) ∧ RdK w' k b f ∧ Below u.heap.size u w') := fun hv h0 u h => by
    have hp : k.params = [] := List.length_eq_zero_iff.1 h0
    have := parseKind_k (upS (str (fmtK k))) u (tab.below h) (by rw [upS_size]; omega)
    have hlow : low (textK k) = textK k := by
      obtain ⟨h1, h2, _⟩ := isKnd_iff.1 hv
      rw [textK_split, hp]
      show low ((k.main ++ 47 :: k.sub) ++ []) = (k.main ++ 47 :: k.sub) ++ []
      rw [List.append_nil, low_head h1 h2]
    have hu : (upS (str (fmtK k))).data.toList = up (fmtK k) := by unfold upS; rw [str_list, str_list]
    rw [hu, parse_upper hv hp (by rw [low_up, fmtK_val hv, hlow])] at this
    exact this
  have HSK : Hid (∀ u b f b2 f2, RdK u k b f → RdK u k b2 f2 → Calls Tryd.prog 15 #[.agg #[.string (str k.main), .string (str k.sub), .slice b k.params.length f], .agg #[.string (str k.main), .string (str k.sub), .slice b2 k.params.length f2]] u fun e w' => e = .returned (.bool true) ∧ Below u.heap.size u w') := fun u b f b2 f2 h1 h2 => by
    have := kindSame_k u h1 h2
    rw [decide_eq_true (rfl : k = k)] at this; exact this
  have HB1 := Lib.hid hb1
  have hnk5 : k.params.length ≤ 5 := hnk
  clear hok hsk hnk
  generalize str (fmtK k) = FK at *
  generalize k.params.length = nk at *
  generalize str k.main = M1 at *
  generalize str k.sub = S1 at *
  have e0 : (FK.toList != FK.toList) = false := by simp
  have e1 : (FK.toList == FK.toList) = true := by simp
  have hA1 : Below w1.heap.size w1 (w1.alloc (.cells #[.string M1, .string S1, .slice ak nk dk] 25)) := (Below.refl _ _).alloc (Nat.le_refl _) _
  have HC1 := Lib.hid (KK3.new w1 (.string M1) (.string S1) (.slice ak nk dk) 25)
  have hz1 : w1.heap.size < (w1.alloc (.cells #[.string M1, .string S1, .slice ak nk dk] 25)).heap.size := by simp
  clear hb1
  go_wp2_with fail
  generalize hW1 : w1.alloc (.cells #[.string M1, .string S1, .slice ak nk dk] 25) = W1 at *
  clear hW1
  refine (HF1.out _ hA1).mono ?_
  rintro e w2 ⟨rfl, hb2⟩
  have hb12 := nx hA1 hb2
  have HC2 := Lib.hid (HC1.out.below hb2)
  obtain ⟨y0, y1, y2⟩ := HC2.out
  cases hv : isKnd k
  · have hFE := HEM.out hv
    subst hFE
    clear hv HUP HEM HNE
    go_wp2_with fail
    refine (HF2.out _ hb12).mono ?_
    rintro e w3 ⟨rfl, hb3⟩
    clear y0 y1 y2
    obtain ⟨y0, y1, y2⟩ := HC2.out.below hb3
    go_wp2_with fail
    refine (HF2.out _ (nx hb12 hb3)).mono ?_
    rintro e w4 ⟨rfl, hb4⟩
    go_wp2
    go_ret
    exact ⟨rfl, nx HB1.out (nx (nx hb12 hb3) hb4)⟩
  · have hne := HNE.out hv
    by_cases hp : nk = 0
    · have HU := Lib.hid (HUP.out hv hp)
      have hp0 : decide ((0 : Int) < (nk : Int)) = false := by simp; omega
      clear hv HUP HEM HNE
      have hnki : ¬ ((0 : Int) < (nk : Int)) := by omega
      have HP0 := Lib.hid hp
      clear hp
      have hconv := fun w => run_bytes_of_string (P := Tryd.prog) w 9 22 5 FK Tryd.underlying9 Tryd.underlying22 Tryd.underlying5
      go_wp2_with fail
      refine (HF2.out _ hb12).mono ?_
      rintro e w3 ⟨rfl, hb3⟩
      clear y0 y1 y2
      have HB3 := Lib.hid (nx HB1.out (nx hb12 hb3))
      have hb13 := nx hb12 hb3
      have HC3 := Lib.hid (HC2.out.below hb3)
      obtain ⟨y0, y1, y2⟩ := HC3.out
      have hz3 : w1.heap.size < w3.heap.size := lt_of_cell y0
      go_wp2_with fail
      generalize grownCap w3 FK.size 0 5 = cap
      clear y0 y1 y2
      go_loopw [6] (fun i wr => ∃ j : Nat, j ≤ FK.size ∧ i = .int .i64 j ∧ Below w3.heap.size w3 wr ∧ w3.heap.size < wr.heap.size ∧ upCells FK w3.heap.size j wr) (fun i _ => FK.size - (intOf i).toNat)
      case atStart =>
        exact ⟨0, Nat.zero_le _, rfl, ((Below.refl _ _).alloc (Nat.le_refl _) _).drew, by simp, upCells_drew (upCells_start FK w3 cap _)⟩
      case round =>
        obtain ⟨j, hj, rfl, hb, hz, hcc⟩ := hrel
        have HC := Lib.hid hcc
        clear hcc
        by_cases hlt : j < FK.size
        · have c1 : wr.cell? ⟨w3.heap.size, j, none⟩ = some (.int .u8 (FK[j].toNat : Int)) := by rw [HC.out.1 j hlt, if_neg (Nat.lt_irrefl _)]
          have f1 := HC.out.2 j hlt
          cases h : smB FK[j]
          · have HB := Lib.hid h
            rcases smB_f h with h1 | ⟨h0, h1⟩ <;> clear h
            all_goals
              go_wp2
              go_roundw
              case rel =>
                have HN := upCells_keep HC.out hlt HB.out
                first
                  | exact ⟨j + 1, by omega, by go_num, hb, hz, HN⟩
                  | exact ⟨j + 1, by omega, by go_num, HN⟩
                  | exact ⟨j + 1, by omega, by go_num, HN.1, HN.2⟩
              case measure => simp [intOf]; omega
          · obtain ⟨h1, h2⟩ := smB_t h
            have HB := Lib.hid h
            clear h
            go_wp2
            go_roundw
            case rel => exact ⟨j + 1, by omega, by go_num, hb.setCell (by simp) _, by simpa using hz, upCells_set HC.out hlt _ (upB_t HB.out)⟩
            case measure => simp [intOf]; omega
        · have hk2 : j = FK.size := by omega
          subst hk2
          have hback := fun c => upCells_back (P := Tryd.prog) HC.out 22 9 5 c Tryd.underlying22 Tryd.underlying5 Tryd.underlying9
          clear hlt hconv
          have HCr := Lib.hid (HC3.out.below hb)
          have HBr := Lib.hid (nx HB3.out hb)
          have HRr := Lib.hid (HK.out.below (nx hb13 hb))
          have hzr : w1.heap.size < wr.heap.size := by omega
          have hup : (upS FK).size ≤ 150 := by rw [upS_size]; exact hkz
          go_wp2_with fail
          refine (HU.out _ HBr.out).mono ?_
          rintro e w5 ⟨b5, f5, rfl, hr5, hb5⟩
          have hA5 : Below w5.heap.size w5 (w5.alloc (.cells #[.string M1, .string S1, .slice b5 nk f5] 25)) := (Below.refl _ _).alloc (Nat.le_refl _) _
          have HB5 := Lib.hid (nx HBr.out (nx hb5 hA5))
          have HC5 := Lib.hid (HCr.out.below (nx hb5 hA5))
          have HR5 := Lib.hid (HRr.out.below (nx hb5 hA5))
          have HD5 := Lib.hid (KK3.new w5 (.string M1) (.string S1) (.slice b5 nk f5) 25)
          have HS5 := Lib.hid (hr5.below hA5)
          clear hA5 hr5 hb5 hback
          obtain ⟨y0, y1, y2⟩ := HC5.out
          obtain ⟨z0, z1, z2⟩ := HD5.out
          go_wp2_with fail
          generalize hW5 : w5.alloc (.cells #[.string M1, .string S1, .slice b5 nk f5] 25) = W5 at *
          clear hW5
          refine (HSK.out _ _ _ _ _ HS5.out HR5.out).mono ?_
          rintro e w6 ⟨rfl, hb6⟩
          go_wp2
          go_ret
          exact ⟨rfl, nx HB5.out hb6⟩
    · have hp0 : decide ((0 : Int) < (nk : Int)) = true := by simp; omega
      have hnki : (0 : Int) < (nk : Int) := by omega
      clear hv HUP HEM HNE hp
      go_wp2_with fail
      refine (HF2.out _ hb12).mono ?_
      rintro e w3 ⟨rfl, hb3⟩
      clear y0 y1 y2
      obtain ⟨y0, y1, y2⟩ := HC2.out.below hb3
      go_wp2_with fail
      refine (HF2.out _ (nx hb12 hb3)).mono ?_
      rintro e w4 ⟨rfl, hb4⟩
      go_wp2
      go_ret
      exact ⟨rfl, nx HB1.out (nx (nx hb12 hb3) hb4)⟩
end Go.Proofs.YtfheajfcepcepaaDoor
