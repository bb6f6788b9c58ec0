/-
  Codes of bytes: letters: what the program's functions return. No statement is proved here.
-/
import Derived.Test.YtjnpkmenlecdmabDoorCodN
import Derived.Test.YtjnpkmenlecdmabDoorAddr
import Derived.Test.YtjnpkmenlecdmabDoorBuilder
import Derived.Laws.AppendOwn
import Derived.Laws.OwnMore
import Derived.Laws.AppendOwnNone
import Derived.Laws.BitsLemmas
import Derived.Outline
namespace Go.Proofs.YtjnpkmenlecdmabDoor
open Go.RowKit

theorem str_app (a b : List UInt8) : str a ++ str b = str (a ++ b) := by apply bytes_ext; rw [Joins.data_append, str_list, str_list, str_list]
theorem ext_tkC (l : List UInt8) (a : Nat) : (str l).extract 0 a = str (l.take a) := by rw [ext_take, str_list]
theorem ext_drC (l : List UInt8) (a : Nat) : (str l).extract a (str l).size = str (l.drop a) := by rw [ext_drop, str_list]
/-- Lines, and whether there are any. -/
def EncRet (o : Option (List (List UInt8))) (w : World) (e : Ending) (w' : World) : Prop := ∃ v, e = .returned (.tuple #[v, .bool o.isSome]) ∧ OwnL w.heap.size v (o.getD []) w' ∧ Below w.heap.size w w'
theorem encRet_none {o : Option (List (List UInt8))} {w w' : World} {v : Value} (h : o = none) (ho : OwnL w.heap.size v [] w') (hb : Below w.heap.size w w') : EncRet o w (.returned (.tuple #[v, .bool false])) w' := by subst h; exact ⟨v, rfl, ho, hb⟩
theorem encRet_some {o : Option (List (List UInt8))} {xs : List (List UInt8)} {w w' : World} {v : Value} (h : o = some xs) (ho : OwnL w.heap.size v xs w') (hb : Below w.heap.size w w') : EncRet o w (.returned (.tuple #[v, .bool true])) w' := by subst h; exact ⟨v, rfl, ho, hb⟩
/-- Bytes, and whether there are any. -/
def DecRet (o : Option (List UInt8)) (w : World) (e : Ending) (w' : World) : Prop := e = .returned (.tuple #[.string (str (o.getD [])), .bool o.isSome]) ∧ Below w.heap.size w w'
theorem decRet_none {o : Option (List UInt8)} {w w' : World} {x : ByteArray} (h : o = none) (hx : x = str []) (hb : Below w.heap.size w w') : DecRet o w (.returned (.tuple #[.string x, .bool false])) w' := by subst h hx; exact ⟨rfl, hb⟩
theorem decRet_some {o : Option (List UInt8)} {b : List UInt8} {w w' : World} {x : ByteArray} (h : o = some b) (hx : x = str b) (hb : Below w.heap.size w w') : DecRet o w (.returned (.tuple #[.string x, .bool true])) w' := by subst h hx; exact ⟨rfl, hb⟩
theorem take3 (s : ByteArray) (k e : Nat) (h : e = k + 3 ∨ (s.size ≤ k + 3 ∧ e = s.size)) : (s.extract k e).data.toList = (s.data.toList.drop k).take 3 := by
  rw [Lib.extract_data]
  rcases h with rfl | ⟨h, rfl⟩
  · congr 1; omega
  · rw [List.take_of_length_le (by rw [List.length_drop, size_list]; omega), List.take_of_length_le (by rw [List.length_drop, size_list]; omega)]
theorem b64_step (s : ByteArray) (k : Nat) (acc : List UInt8) (h : b64 s.data.toList = acc ++ b64 (s.data.toList.drop k)) (hk : k < s.size) : b64 s.data.toList = (acc ++ four ((s.data.toList.drop k).take 3)) ++ b64 (s.data.toList.drop (k + 3)) := by
  rw [h, b64_drop (s.data.toList.drop k) (by intro e; have := congrArg List.length e; rw [List.length_drop, size_list] at this; simp at this; omega), List.drop_drop, List.append_assoc]
/-- The number of the first k bytes of three. -/
def acc3 (g : List UInt8) : Nat → Nat
  | 0 => 0
  | k + 1 => acc3 g k * 256 + (g.getD k 0).toNat
theorem acc3_lt (g : List UInt8) : ∀ k, acc3 g k < 256 ^ k
  | 0 => by simp [acc3]
  | k + 1 => by
    have := acc3_lt g k
    have := (g.getD k 0).toNat_lt
    rw [acc3, Nat.pow_succ]; omega
theorem acc3_num (g : List UInt8) : acc3 g 3 = num3 g := by simp only [acc3, num3]; omega
theorem alpha_at {n : Nat} (h : n < 64) (h' : n < (ByteArray.mk #[65, 66, 67, 68, 69, 70, 71, 72, 73, 74, 75, 76, 77, 78, 79, 80, 81, 82, 83, 84, 85, 86, 87, 88, 89, 90, 97, 98, 99, 100, 101, 102, 103, 104, 105, 106, 107, 108, 109, 110, 111, 112, 113, 114, 115, 116, 117, 118, 119, 120, 121, 122, 48, 49, 50, 51, 52, 53, 54, 55, 56, 57, 43, 47]).size) : (ByteArray.mk #[65, 66, 67, 68, 69, 70, 71, 72, 73, 74, 75, 76, 77, 78, 79, 80, 81, 82, 83, 84, 85, 86, 87, 88, 89, 90, 97, 98, 99, 100, 101, 102, 103, 104, 105, 106, 107, 108, 109, 110, 111, 112, 113, 114, 115, 116, 117, 118, 119, 120, 121, 122, 48, 49, 50, 51, 52, 53, 54, 55, 56, 57, 43, 47])[n] = l64 n := by
  have hl : alphaL.length = 64 := rfl
  unfold l64
  rw [List.getD_eq_getElem?_getD, List.getElem?_eq_getElem (by rw [hl]; exact h)]
  rfl
/-- Four letters in a row: those before k are written. -/
def Four (F : Nat → UInt8) (R k : Nat) (w : World) : Prop := (∀ j, j < 4 → w.cell? ⟨R, j, none⟩ = some (.int .u8 ((if j < k then F j else 61).toNat : Int))) ∧ (∀ j, w.frozen? ⟨R, j, none⟩ = false)
theorem four_start (F : Nat → UInt8) (w : World) (t : TypeId) : Four F w.heap.size 0 (w.alloc (.cells #[.int .u8 61, .int .u8 61, .int .u8 61, .int .u8 61] t)) :=
  ⟨fun j hj => by
    rw [World.cell?_alloc_at _ _ _ _ rfl]
    rcases (by omega : j = 0 ∨ j = 1 ∨ j = 2 ∨ j = 3) with rfl | rfl | rfl | rfl <;> rfl, fun j => World.frozen?_alloc_at _ _ _ _ rfl⟩
theorem four_set {F : Nat → UInt8} {R k : Nat} {w : World} (h : Four F R k w) (hk : k < 4) (x : Int) (hx : x = ((F k).toNat : Int)) : Four F R (k + 1) (w.setCell ⟨R, k, none⟩ (.int .u8 x)) := by
  refine ⟨fun j hj => ?_, fun j => by rw [World.frozen?_setCell]; exact h.2 j⟩
  by_cases e : j = k
  · subst e; rw [cell_same (h.1 j hk), if_pos (by omega), hx]
  · rw [cell_off (fun he => e he.symm), h.1 j hj]
    by_cases e2 : j < k
    · rw [if_pos e2, if_pos (by omega)]
    · rw [if_neg e2, if_neg (by omega)]
theorem four_back {F : Nat → UInt8} {R k : Nat} {w : World} {g : List UInt8} (h : Four F R k w) (hF : ∀ j, j < 4 → F j = l64 (num3 g / 2 ^ (18 - 6 * j) % 64)) (h1 : 1 ≤ g.length) (hk : k = g.length + 1) (src dst e : TypeId) (hs : Tryd.prog.underlying src = some (.slice e)) (he : Tryd.prog.underlying e = some (.int .u8)) (hd : Tryd.prog.underlying dst = some .string) :
    (convert src dst (.slice (some ⟨R, 0, none⟩) 4 4)).run Tryd.prog w = .ok (.string (str (four g))) w := by
  have := run_convert_bytes_back (P := Tryd.prog) w src dst e ⟨R, 0, none⟩ 4 (four g) hs he hd (fun j hj => by
    rw [four_len] at hj
    rw [add0, h.1 j hj, hF j hj, hk]
    rcases (by omega : j = 0 ∨ j = 1 ∨ j = 2 ∨ j = 3) with rfl | rfl | rfl | rfl
    · rw [if_pos (by omega)]; rfl
    · rw [if_pos (by omega)]; rfl
    · by_cases h2 : 2 ≤ g.length
      · rw [if_pos (by omega)]; simp only [four, if_pos h2]; rfl
      · rw [if_neg (by omega)]; simp only [four, if_neg h2]; rfl
    · by_cases h2 : 3 ≤ g.length
      · rw [if_pos (by omega)]; simp only [four, if_pos h2]; simp
      · rw [if_neg (by omega)]; simp only [four, if_neg h2]; rfl)
  exact this
set_option maxRecDepth 100000 in
set_option maxHeartbeats 2000000 in
theorem lettersOfGroup_any (g : ByteArray) (w : World) (h1 : 1 ≤ g.size) (h3 : g.size ≤ 3) :
    Calls Tryd.prog 91 #[.string g] w fun e w' => e = .returned (.string (str (four g.data.toList))) ∧ Below w.heap.size w w' := by
  go_enter Tryd.func91, Tryd.ntmps91
  go_wp2_with fail
  go_loopw [3, 7] (fun v i wr => ∃ k : Nat, k ≤ 3 ∧ i = .int .i64 k ∧ v = .int .i64 (acc3 g.data.toList k : Nat) ∧ Below w.heap.size w wr) (fun _ i _ => 3 - (intOf i).toNat)
  case atStart => exact ⟨0, by omega, rfl, rfl, Below.refl _ _⟩
  case round =>
    obtain ⟨k, hk, rfl, rfl, hb⟩ := hrel
    have hlt := acc3_lt g.data.toList k
    by_cases hk3 : k < 3
    · have hp : acc3 g.data.toList k < 65536 := Nat.lt_of_lt_of_le hlt (Nat.pow_le_pow_right (by omega) (show k ≤ 2 by omega))
      have HS : Hid (acc3 g.data.toList (k + 1) = acc3 g.data.toList k * 256 + (g.data.toList.getD k 0).toNat) := rfl
      clear hlt
      generalize acc3 g.data.toList k = A at *
      by_cases hg : k < g.size
      · have hgd : g.data.toList.getD k 0 = g[k] := by rw [List.getD_eq_getElem?_getD, List.getElem?_eq_getElem (by rw [size_list]; exact hg)]; rfl
        rw [hgd] at HS
        have hgz := g[k].toNat_lt
        clear hgd
        go_wp2
        go_roundw
        case rel => exact ⟨k + 1, by omega, by go_num, by rw [HS.out]; go_num, hb⟩
        case measure => simp [intOf]; omega
      · have hgd : g.data.toList.getD k 0 = 0 := by rw [List.getD_eq_getElem?_getD, List.getElem?_eq_none (by rw [size_list]; omega)]; rfl
        rw [hgd] at HS
        clear hgd
        go_wp2
        go_roundw
        case rel => exact ⟨k + 1, by omega, by go_num, by rw [HS.out]; go_num, hb⟩
        case measure => simp [intOf]; omega
    · have e3 : acc3 g.data.toList k = num3 g.data.toList := by rw [show k = 3 by omega, acc3_num]
      rw [e3] at hlt ⊢
      clear e3
      have hnl := num3_lt g.data.toList
      have HBK : Hid (∀ (R k : Nat) (u : World), k = g.size + 1 → Four (fun j => l64 (num3 g.data.toList / 2 ^ (18 - 6 * j) % 64)) R k u → (convert 31 9 (.slice (some ⟨R, 0, none⟩) 4 4)).run Tryd.prog u = .ok (.string (str (four g.data.toList))) u) :=
        fun R k u hk h => four_back h (fun _ _ => rfl) (by rw [size_list]; exact h1) (by rw [size_list]; exact hk) _ _ 5 Tryd.underlying31 Tryd.underlying5 Tryd.underlying9
      clear hlt
      generalize num3 g.data.toList = N at *
      have hbA := hb.alloc hb.size (.cells #[.int .u8 61, .int .u8 61, .int .u8 61, .int .u8 61] 97)
      have HST := Lib.hid (four_start (fun j => l64 (N / 2 ^ (18 - 6 * j) % 64)) wr 97)
      have HWR := Lib.hid hb.size
      go_wp2_with fail
      generalize hR : wr.heap.size = R at *
      go_loopw [27] (fun i wi => ∃ (k : Nat), k ≤ g.size + 1 ∧ i = .int .i64 k ∧ Below w.heap.size w wi ∧ Four (fun j => l64 (N / 2 ^ (18 - 6 * j) % 64)) R k wi) (fun i _ => g.size + 1 - (intOf i).toNat)
      case atStart => exact ⟨0, by omega, rfl, hbA, HST.out⟩
      case round =>
        obtain ⟨k, hk, rfl, hbi, hf⟩ := hrel
        have HF := Lib.hid hf
        by_cases hlt : k < g.size + 1
        · have c0 := hf.1 k (by omega)
          have f0 := hf.2 k
          clear hf
          rcases (by omega : k = 0 ∨ k = 1 ∨ k = 2 ∨ k = 3) with rfl | rfl | rfl | rfl
          all_goals
            go_wp2
            go_roundw
            case rel => exact ⟨_, hlt, by go_num, hbi.setCell HWR.out _, four_set HF.out (by omega) _ (by rw [alpha_at (by omega)]; try (first | rfl | simp))⟩
            case measure => simp [intOf]; try omega
        · have hback := HBK.out R k wr (by omega) hf
          clear hf
          go_wp2
          go_ret
          exact ⟨rfl, hbi⟩
set_option maxRecDepth 100000 in
set_option maxHeartbeats 2000000 in
theorem lettersOf_any (s : ByteArray) (w : World) (hs : s.size ≤ 1073741000) :
    Calls Tryd.prog 66 #[.string s] w fun e w' => e = .returned (.string (str (b64 s.data.toList))) ∧ Below w.heap.size w w' := by
  go_enter Tryd.func66, Tryd.ntmps66
  go_wp2_with fail
  go_loopw [4] (fun i wr => ∃ (k : Nat) (acc : List UInt8), k ≤ s.size + 2 ∧ i = .int .i64 k ∧ acc.length ≤ 4 * k ∧ b64 s.data.toList = acc ++ b64 (s.data.toList.drop k) ∧ Bld w.heap.size w.heap.size acc wr ∧ Below w.heap.size w wr) (fun i _ => s.size + 2 - (intOf i).toNat)
  case atStart => exact ⟨0, [], by omega, rfl, by simp, by simp, bld_fresh w, (Below.refl _ _).alloc (Nat.le_refl _) _⟩
  case round =>
    obtain ⟨k, acc, hk, rfl, hal, hg, hB, hb⟩ := hrel
    have HG := Lib.hid hg
    clear hg
    by_cases hlt : k < s.size
    · have HN := Lib.hid (b64_step s k acc HG.out hlt)
      have hmn : (min ((k : Int) + 3) (s.size : Int)).toNat = min (k + 3) s.size := by omega
      have hmin : 0 ≤ min ((k : Int) + 3) (s.size : Int) ∧ min ((k : Int) + 3) (s.size : Int) ≤ s.size := by omega
      have hgs : (s.extract k (min (k + 3) s.size)).size = min (k + 3) s.size - k := by rw [ByteArray.size_extract]; omega
      have HT := Lib.hid (take3 s k (min (k + 3) s.size) (by omega))
      have HA := Lib.hid hal
      go_wp2_with fail
      refine (lettersOfGroup_any (s.extract k (min (k + 3) s.size)) _ (by rw [hgs]; omega) (by rw [hgs]; omega)).mono ?_
      rintro e w1 ⟨rfl, hb1⟩
      rw [HT.out]
      go_wp2_with fail
      refine (writeString_any _ _ _ (str (four ((s.data.toList.drop k).take 3))) _ (hB.keep hb1) (by rw [str_size, four_len]; have := HA.out; omega)).mono ?_
      rintro e w2 ⟨rfl, hB2, hb2⟩
      rw [str_list] at hB2
      go_wp2
      go_roundw
      case rel => exact ⟨k + 3, _, by omega, by go_num, by rw [List.length_append, four_len]; have := HA.out; omega, HN.out, hB2, (nx hb hb1).trans hb2⟩
      case measure => simp [intOf]; omega
    · have HE : Hid (b64 s.data.toList = acc) := by show _ = _; rw [HG.out, drop_out s k (by omega)]; simp [b64]
      go_wp2_with fail
      refine (bString_any _ _ _ _ hB).mono ?_
      rintro e w5 ⟨rfl, hb5⟩
      go_wp2
      go_ret
      exact ⟨ret_str (by rw [HE.out]), hb.trans hb5⟩
theorem l5Letters_any (w : World) : Calls Tryd.prog 101 #[] w fun e w' => e = .returned (.string (str alphaL)) ∧ w = w' := by
  go_enter Tryd.func101, Tryd.ntmps101
  go_wp2
  go_ret
  exact ⟨rfl, rfl⟩
theorem alphaL_size : (str alphaL).size = 64 := rfl
theorem alpha_ext {n : Nat} (h : n < 64) : (str alphaL).extract n (n + 1) = str [l64 n] := by
  have hl : alphaL.length = 64 := rfl
  apply bytes_ext
  rw [Lib.extract_data, str_list, str_list, show n + 1 - n = 1 by omega, List.drop_eq_getElem_cons (by rw [hl]; exact h)]
  unfold l64
  rw [List.getD_eq_getElem?_getD, List.getElem?_eq_getElem (by rw [hl]; exact h)]
  rfl
theorem num_of (s : ByteArray) (k : Nat) (hk : k < s.size) : num3 ((s.data.toList.drop k).take 3) = s[k].toNat * 65536 + (if h : k + 1 < s.size then s[k + 1].toNat * 256 else 0) + (if h : k + 2 < s.size then s[k + 2].toNat else 0) := by
  have hg : ∀ j, j < 3 → (((s.data.toList.drop k).take 3).getD j 0).toNat = if h : k + j < s.size then s[k + j].toNat else 0 := fun j hj => by
    rw [List.getD_eq_getElem?_getD, List.getElem?_take, if_pos hj, List.getElem?_drop]
    split
    · rename_i h; rw [List.getElem?_eq_getElem (by rw [size_list]; exact h)]; rfl
    · rename_i h; rw [List.getElem?_eq_none (by rw [size_list]; omega)]; rfl
  unfold num3
  rw [hg 0 (by omega), hg 1 (by omega), hg 2 (by omega)]
  rw [dif_pos (by omega : k + 0 < s.size)]
  congr 1
  congr 1
  by_cases h : k + 1 < s.size
  · rw [dif_pos h, dif_pos h]
  · rw [dif_neg h, dif_neg h]
theorem four_grow (g : List UInt8) (j : Nat) (h : j < 4) : (four g).take (j + 1) = (four g).take j ++ [(four g)[j]'h] := List.take_succ_eq_append_getElem h
theorem wraps_i64C (n : Int) (h0 : 0 ≤ n) (h1 : n < 2 ^ 63) : IntKind.i64.wrap n = n := by rw [IntKind.wrap_i64]; omega
theorem and63C (x : Int) (h0 : 0 ≤ x) (h1 : x < 2 ^ 63) : bits .and .i64 x 63 = x % 64 := bits_mask .i64 63 (by decide) wraps_i64C 6 (by decide) x h0 h1
set_option maxRecDepth 100000 in
set_option maxHeartbeats 4000000 in
theorem l5Base_same (s : ByteArray) (w : World) (hs : s.size ≤ 1073741000) :
    Calls Tryd.prog 88 #[.string s] w fun e w' => e = .returned (.string (str (b64 s.data.toList))) ∧ w' = w := by
  go_enter Tryd.func88, Tryd.ntmps88
  go_wp2_with fail
  go_loop [3, 4] (fun o i => ∃ (k : Nat) (acc : List UInt8), k ≤ s.size + 2 ∧ i = .int .i64 k ∧ o = .string (str acc) ∧ acc.length ≤ 4 * k ∧ b64 s.data.toList = acc ++ b64 (s.data.toList.drop k)) (fun _ i => s.size + 2 - (intOf i).toNat)
  case atStart => exact ⟨0, [], by omega, rfl, rfl, by simp, by simp⟩
  case round =>
    obtain ⟨k, acc, hk, rfl, rfl, hal, hg⟩ := hrel
    have HG := Lib.hid hg
    clear hg
    by_cases hlt : k < s.size
    · have HN := Lib.hid (b64_step s k acc HG.out hlt)
      have HNUM := Lib.hid (num_of s k hlt)
      have hnl := num3_lt ((s.data.toList.drop k).take 3)
      have HGL : Hid (((s.data.toList.drop k).take 3).length = min 3 (s.size - k)) := by show _ = _; rw [List.length_take, List.length_drop, size_list]
      have hq0 := s[k].toNat_lt
      rcases (by omega : s.size ≤ k + 1 ∨ (k + 1 < s.size ∧ s.size ≤ k + 2) ∨ k + 2 < s.size) with hc | hc | hc
      · have HV : Hid (((num3 ((s.data.toList.drop k).take 3) : Nat) : Int) = (s[k].toNat : Int) * 65536) := by show _ = _; rw [HNUM.out, dif_neg (by omega), dif_neg (by omega)]; omega
        have HL : Hid (((s.data.toList.drop k).take 3).length = 1) := by show _ = _; rw [HGL.out]; omega
        clear HNUM HGL
        generalize (s.data.toList.drop k).take 3 = G at *
        go_wp2_with fail
        rw [← HV.out]
        generalize hNN : num3 G = N at *
        have HE0 : Hid ((four G).take 1 = (four G).take 0 ++ [l64 (N / 262144 % 64)]) := by show _ = _; rw [four_grow G 0 (by omega)]; subst hNN; rfl
        have HE1 : Hid ((four G).take 2 = (four G).take 1 ++ [l64 (N / 4096 % 64)]) := by show _ = _; rw [four_grow G 1 (by omega)]; subst hNN; rfl
        have HE2 : Hid ((four G).take 3 = (four G).take 2 ++ [61]) := by show _ = _; rw [four_grow G 2 (by omega)]; subst hNN; simp [four, HL.out]
        have HE3 : Hid ((four G).take 4 = (four G).take 3 ++ [61]) := by show _ = _; rw [four_grow G 3 (by omega)]; subst hNN; simp [four, HL.out]
        have HF4 : Hid ((four G).take 4 = four G) := rfl
        clear hNN
        go_loop [3, 6] (fun o i => ∃ j : Nat, j ≤ 4 ∧ i = .int .i64 j ∧ o = .string (str (acc ++ (four G).take j))) (fun _ i => 4 - (intOf i).toNat)
        case atStart => exact ⟨0, by omega, rfl, by simp⟩
        case round =>
          obtain ⟨j, hj, rfl, rfl⟩ := hrel
          have hlt' : (str (acc ++ (four G).take j)).size ≤ 4 * k + 4 := by rw [str_size, List.length_append]; have := List.length_take_le j (four G); omega
          have hls := alphaL_size
          have hA0 := and63C ((N : Int) / 262144) (by omega) (by omega)
          have hA1 := and63C ((N : Int) / 4096) (by omega) (by omega)
          have hA2 := and63C ((N : Int) / 64) (by omega) (by omega)
          have hA3 := and63C (N : Int) (by omega) (by omega)
          have hm0 : N / 262144 % 64 < 64 := Nat.mod_lt _ (by omega)
          have hm1 : N / 4096 % 64 < 64 := Nat.mod_lt _ (by omega)
          have hm2 : N / 64 % 64 < 64 := Nat.mod_lt _ (by omega)
          have hm3 : N % 64 < 64 := Nat.mod_lt _ (by omega)
          by_cases h4 : j < 4
          · rcases (by omega : j = 0 ∨ j = 1 ∨ j = 2 ∨ j = 3) with rfl | rfl | rfl | rfl
            · have HO : Hid (str (acc ++ (four G).take 1) = str (acc ++ (four G).take 0) ++ (str alphaL).extract (N / 262144 % 64) (N / 262144 % 64 + 1)) := by show _ = _; rw [HE0.out, alpha_ext (by omega), str_app]; simp
              clear hA1 hA2 hA3
              generalize str (acc ++ (four G).take 0) = o at *
              go_wp2_with fail
              refine (l5Letters_any _).mono ?_
              rintro e w' ⟨rfl, rfl⟩
              go_wp2
              go_round
              case rel => exact ⟨1, by omega, by go_num, by rw [HO.out]⟩
              case measure => simp [intOf]
            · have HO : Hid (str (acc ++ (four G).take 2) = str (acc ++ (four G).take 1) ++ (str alphaL).extract (N / 4096 % 64) (N / 4096 % 64 + 1)) := by show _ = _; rw [HE1.out, alpha_ext (by omega), str_app]; simp
              clear hA0 hA2 hA3
              generalize str (acc ++ (four G).take 1) = o at *
              go_wp2_with fail
              refine (l5Letters_any _).mono ?_
              rintro e w' ⟨rfl, rfl⟩
              go_wp2
              go_round
              case rel => exact ⟨2, by omega, by go_num, by rw [HO.out]⟩
              case measure => simp [intOf]
            · have HO : Hid (str (acc ++ (four G).take 3) = str (acc ++ (four G).take 2) ++ ⟨#[61]⟩) := by show _ = _; rw [HE2.out]; exact (by rw [show (ByteArray.mk #[61]) = str [61] from rfl, str_app]; simp)
              have hs61 : (ByteArray.mk #[61]).size = 1 := rfl
              clear hA0 hA1 hA2 hA3
              generalize str (acc ++ (four G).take 2) = o at *
              go_wp2
              go_round
              case rel => exact ⟨3, by omega, by go_num, by rw [HO.out]⟩
              case measure => simp [intOf]
            · have HO : Hid (str (acc ++ (four G).take 4) = str (acc ++ (four G).take 3) ++ ⟨#[61]⟩) := by show _ = _; rw [HE3.out]; exact (by rw [show (ByteArray.mk #[61]) = str [61] from rfl, str_app]; simp)
              have hs61 : (ByteArray.mk #[61]).size = 1 := rfl
              clear hA0 hA1 hA2 hA3
              generalize str (acc ++ (four G).take 3) = o at *
              go_wp2
              go_round
              case rel => exact ⟨4, by omega, by go_num, by rw [HO.out]⟩
              case measure => simp [intOf]
          · have HJ : Hid (acc ++ (four G).take j = acc ++ four G) := by show _ = _; rw [show j = 4 by omega, HF4.out]
            rw [HJ.out]
            go_wp2
            go_round
            case rel => exact ⟨k + 3, acc ++ four G, by omega, by go_num, rfl, by rw [List.length_append, four_len]; omega, HN.out⟩
            case measure => simp [intOf]; omega
      · have hq1 := s[k + 1].toNat_lt
        have HV : Hid (((num3 ((s.data.toList.drop k).take 3) : Nat) : Int) = (s[k].toNat : Int) * 65536 + (s[k + 1].toNat : Int) * 256) := by show _ = _; rw [HNUM.out, dif_pos (by omega), dif_neg (by omega)]; omega
        have HL : Hid (((s.data.toList.drop k).take 3).length = 2) := by show _ = _; rw [HGL.out]; omega
        clear HNUM HGL
        generalize (s.data.toList.drop k).take 3 = G at *
        go_wp2_with fail
        rw [← HV.out]
        generalize hNN : num3 G = N at *
        have HE0 : Hid ((four G).take 1 = (four G).take 0 ++ [l64 (N / 262144 % 64)]) := by show _ = _; rw [four_grow G 0 (by omega)]; subst hNN; rfl
        have HE1 : Hid ((four G).take 2 = (four G).take 1 ++ [l64 (N / 4096 % 64)]) := by show _ = _; rw [four_grow G 1 (by omega)]; subst hNN; rfl
        have HE2 : Hid ((four G).take 3 = (four G).take 2 ++ [l64 (N / 64 % 64)]) := by show _ = _; rw [four_grow G 2 (by omega)]; subst hNN; simp [four, HL.out]
        have HE3 : Hid ((four G).take 4 = (four G).take 3 ++ [61]) := by show _ = _; rw [four_grow G 3 (by omega)]; subst hNN; simp [four, HL.out]
        have HF4 : Hid ((four G).take 4 = four G) := rfl
        clear hNN
        go_loop [3, 6] (fun o i => ∃ j : Nat, j ≤ 4 ∧ i = .int .i64 j ∧ o = .string (str (acc ++ (four G).take j))) (fun _ i => 4 - (intOf i).toNat)
        case atStart => exact ⟨0, by omega, rfl, by simp⟩
        case round =>
          obtain ⟨j, hj, rfl, rfl⟩ := hrel
          have hlt' : (str (acc ++ (four G).take j)).size ≤ 4 * k + 4 := by rw [str_size, List.length_append]; have := List.length_take_le j (four G); omega
          have hls := alphaL_size
          have hA0 := and63C ((N : Int) / 262144) (by omega) (by omega)
          have hA1 := and63C ((N : Int) / 4096) (by omega) (by omega)
          have hA2 := and63C ((N : Int) / 64) (by omega) (by omega)
          have hA3 := and63C (N : Int) (by omega) (by omega)
          have hm0 : N / 262144 % 64 < 64 := Nat.mod_lt _ (by omega)
          have hm1 : N / 4096 % 64 < 64 := Nat.mod_lt _ (by omega)
          have hm2 : N / 64 % 64 < 64 := Nat.mod_lt _ (by omega)
          have hm3 : N % 64 < 64 := Nat.mod_lt _ (by omega)
          by_cases h4 : j < 4
          · rcases (by omega : j = 0 ∨ j = 1 ∨ j = 2 ∨ j = 3) with rfl | rfl | rfl | rfl
            · have HO : Hid (str (acc ++ (four G).take 1) = str (acc ++ (four G).take 0) ++ (str alphaL).extract (N / 262144 % 64) (N / 262144 % 64 + 1)) := by show _ = _; rw [HE0.out, alpha_ext (by omega), str_app]; simp
              clear hA1 hA2 hA3
              generalize str (acc ++ (four G).take 0) = o at *
              go_wp2_with fail
              refine (l5Letters_any _).mono ?_
              rintro e w' ⟨rfl, rfl⟩
              go_wp2
              go_round
              case rel => exact ⟨1, by omega, by go_num, by rw [HO.out]⟩
              case measure => simp [intOf]
            · have HO : Hid (str (acc ++ (four G).take 2) = str (acc ++ (four G).take 1) ++ (str alphaL).extract (N / 4096 % 64) (N / 4096 % 64 + 1)) := by show _ = _; rw [HE1.out, alpha_ext (by omega), str_app]; simp
              clear hA0 hA2 hA3
              generalize str (acc ++ (four G).take 1) = o at *
              go_wp2_with fail
              refine (l5Letters_any _).mono ?_
              rintro e w' ⟨rfl, rfl⟩
              go_wp2
              go_round
              case rel => exact ⟨2, by omega, by go_num, by rw [HO.out]⟩
              case measure => simp [intOf]
            · have HO : Hid (str (acc ++ (four G).take 3) = str (acc ++ (four G).take 2) ++ (str alphaL).extract (N / 64 % 64) (N / 64 % 64 + 1)) := by show _ = _; rw [HE2.out, alpha_ext (by omega), str_app]; simp
              clear hA0 hA1 hA3
              generalize str (acc ++ (four G).take 2) = o at *
              go_wp2_with fail
              refine (l5Letters_any _).mono ?_
              rintro e w' ⟨rfl, rfl⟩
              go_wp2
              go_round
              case rel => exact ⟨3, by omega, by go_num, by rw [HO.out]⟩
              case measure => simp [intOf]
            · have HO : Hid (str (acc ++ (four G).take 4) = str (acc ++ (four G).take 3) ++ ⟨#[61]⟩) := by show _ = _; rw [HE3.out]; exact (by rw [show (ByteArray.mk #[61]) = str [61] from rfl, str_app]; simp)
              have hs61 : (ByteArray.mk #[61]).size = 1 := rfl
              clear hA0 hA1 hA2 hA3
              generalize str (acc ++ (four G).take 3) = o at *
              go_wp2
              go_round
              case rel => exact ⟨4, by omega, by go_num, by rw [HO.out]⟩
              case measure => simp [intOf]
          · have HJ : Hid (acc ++ (four G).take j = acc ++ four G) := by show _ = _; rw [show j = 4 by omega, HF4.out]
            rw [HJ.out]
            go_wp2
            go_round
            case rel => exact ⟨k + 3, acc ++ four G, by omega, by go_num, rfl, by rw [List.length_append, four_len]; omega, HN.out⟩
            case measure => simp [intOf]; omega
      · have hq1 := s[k + 1].toNat_lt
        have hq2 := s[k + 2].toNat_lt
        have HV : Hid (((num3 ((s.data.toList.drop k).take 3) : Nat) : Int) = (s[k].toNat : Int) * 65536 + (s[k + 1].toNat : Int) * 256 + (s[k + 2].toNat : Int)) := by show _ = _; rw [HNUM.out, dif_pos (by omega), dif_pos (by omega)]; omega
        have HL : Hid (((s.data.toList.drop k).take 3).length = 3) := by show _ = _; rw [HGL.out]; omega
        clear HNUM HGL
        generalize (s.data.toList.drop k).take 3 = G at *
        go_wp2_with fail
        rw [← HV.out]
        generalize hNN : num3 G = N at *
        have HE0 : Hid ((four G).take 1 = (four G).take 0 ++ [l64 (N / 262144 % 64)]) := by show _ = _; rw [four_grow G 0 (by omega)]; subst hNN; rfl
        have HE1 : Hid ((four G).take 2 = (four G).take 1 ++ [l64 (N / 4096 % 64)]) := by show _ = _; rw [four_grow G 1 (by omega)]; subst hNN; rfl
        have HE2 : Hid ((four G).take 3 = (four G).take 2 ++ [l64 (N / 64 % 64)]) := by show _ = _; rw [four_grow G 2 (by omega)]; subst hNN; simp [four, HL.out]
        have HE3 : Hid ((four G).take 4 = (four G).take 3 ++ [l64 (N % 64)]) := by show _ = _; rw [four_grow G 3 (by omega)]; subst hNN; simp [four, HL.out]
        have HF4 : Hid ((four G).take 4 = four G) := rfl
        clear hNN
        go_loop [3, 6] (fun o i => ∃ j : Nat, j ≤ 4 ∧ i = .int .i64 j ∧ o = .string (str (acc ++ (four G).take j))) (fun _ i => 4 - (intOf i).toNat)
        case atStart => exact ⟨0, by omega, rfl, by simp⟩
        case round =>
          obtain ⟨j, hj, rfl, rfl⟩ := hrel
          have hlt' : (str (acc ++ (four G).take j)).size ≤ 4 * k + 4 := by rw [str_size, List.length_append]; have := List.length_take_le j (four G); omega
          have hls := alphaL_size
          have hA0 := and63C ((N : Int) / 262144) (by omega) (by omega)
          have hA1 := and63C ((N : Int) / 4096) (by omega) (by omega)
          have hA2 := and63C ((N : Int) / 64) (by omega) (by omega)
          have hA3 := and63C (N : Int) (by omega) (by omega)
          have hm0 : N / 262144 % 64 < 64 := Nat.mod_lt _ (by omega)
          have hm1 : N / 4096 % 64 < 64 := Nat.mod_lt _ (by omega)
          have hm2 : N / 64 % 64 < 64 := Nat.mod_lt _ (by omega)
          have hm3 : N % 64 < 64 := Nat.mod_lt _ (by omega)
          by_cases h4 : j < 4
          · rcases (by omega : j = 0 ∨ j = 1 ∨ j = 2 ∨ j = 3) with rfl | rfl | rfl | rfl
            · have HO : Hid (str (acc ++ (four G).take 1) = str (acc ++ (four G).take 0) ++ (str alphaL).extract (N / 262144 % 64) (N / 262144 % 64 + 1)) := by show _ = _; rw [HE0.out, alpha_ext (by omega), str_app]; simp
              clear hA1 hA2 hA3
              generalize str (acc ++ (four G).take 0) = o at *
              go_wp2_with fail
              refine (l5Letters_any _).mono ?_
              rintro e w' ⟨rfl, rfl⟩
              go_wp2
              go_round
              case rel => exact ⟨1, by omega, by go_num, by rw [HO.out]⟩
              case measure => simp [intOf]
            · have HO : Hid (str (acc ++ (four G).take 2) = str (acc ++ (four G).take 1) ++ (str alphaL).extract (N / 4096 % 64) (N / 4096 % 64 + 1)) := by show _ = _; rw [HE1.out, alpha_ext (by omega), str_app]; simp
              clear hA0 hA2 hA3
              generalize str (acc ++ (four G).take 1) = o at *
              go_wp2_with fail
              refine (l5Letters_any _).mono ?_
              rintro e w' ⟨rfl, rfl⟩
              go_wp2
              go_round
              case rel => exact ⟨2, by omega, by go_num, by rw [HO.out]⟩
              case measure => simp [intOf]
            · have HO : Hid (str (acc ++ (four G).take 3) = str (acc ++ (four G).take 2) ++ (str alphaL).extract (N / 64 % 64) (N / 64 % 64 + 1)) := by show _ = _; rw [HE2.out, alpha_ext (by omega), str_app]; simp
              clear hA0 hA1 hA3
              generalize str (acc ++ (four G).take 2) = o at *
              go_wp2_with fail
              refine (l5Letters_any _).mono ?_
              rintro e w' ⟨rfl, rfl⟩
              go_wp2
              go_round
              case rel => exact ⟨3, by omega, by go_num, by rw [HO.out]⟩
              case measure => simp [intOf]
            · have HO : Hid (str (acc ++ (four G).take 4) = str (acc ++ (four G).take 3) ++ (str alphaL).extract (N % 64) (N % 64 + 1)) := by show _ = _; rw [HE3.out, alpha_ext (by omega), str_app]; simp
              clear hA0 hA1 hA2
              generalize str (acc ++ (four G).take 3) = o at *
              go_wp2_with fail
              refine (l5Letters_any _).mono ?_
              rintro e w' ⟨rfl, rfl⟩
              go_wp2
              go_round
              case rel => exact ⟨4, by omega, by go_num, by rw [HO.out]⟩
              case measure => simp [intOf]
          · have HJ : Hid (acc ++ (four G).take j = acc ++ four G) := by show _ = _; rw [show j = 4 by omega, HF4.out]
            rw [HJ.out]
            go_wp2
            go_round
            case rel => exact ⟨k + 3, acc ++ four G, by omega, by go_num, rfl, by rw [List.length_append, four_len]; omega, HN.out⟩
            case measure => simp [intOf]; omega
    · have HE : Hid (b64 s.data.toList = acc) := by show _ = _; rw [HG.out, drop_out s k (by omega)]; simp [b64]
      go_wp2
      go_ret
      exact ⟨ret_str (by rw [HE.out]), rfl⟩
theorem l5Base_any (s : ByteArray) (w : World) (hs : s.size ≤ 1073741000) :
    Calls Tryd.prog 88 #[.string s] w fun e w' => e = .returned (.string (str (b64 s.data.toList))) ∧ Below w.heap.size w w' := by
  refine (l5Base_same s w hs).mono ?_
  rintro e w' ⟨rfl, rfl⟩
  exact ⟨rfl, Below.refl _ _⟩
end Go.Proofs.YtjnpkmenlecdmabDoor
