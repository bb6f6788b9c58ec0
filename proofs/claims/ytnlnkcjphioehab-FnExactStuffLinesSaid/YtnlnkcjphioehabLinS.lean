/-
  Lines with points: what the model's functions return. No statement is proved here.
-/
import Derived.Test.YtnlnkcjphioehabLin
namespace Go.Proofs.Ytnlnkcjphioehab
open Go.RowKit

theorem ext_takeW (s : ByteArray) (k : Nat) : s.extract 0 k = str (s.data.toList.take k) := by
  apply bytes_ext; rw [str_list, Lib.extract_data]; simp
theorem ext_dropW (s : ByteArray) (k : Nat) : s.extract k s.size = str (s.data.toList.drop k) := by
  apply bytes_ext; rw [str_list, Lib.extract_data, List.take_of_length_le (by rw [List.length_drop, size_list]; omega)]
theorem occW_s {s : ByteArray} {k : Nat} (h : k + 1 < s.size) : occW s.data.toList k ↔ (s[k] = 13 ∧ s[k + 1] = 10) := by
  unfold occW
  rw [List.getElem?_eq_getElem (by rw [size_list]; omega), List.getElem?_eq_getElem (by rw [size_list]; omega), getElem_list s k (by omega), getElem_list s (k + 1) h]
  simp
theorem occW_lt {l : List UInt8} {k : Nat} (h : occW l k) : k + 1 < l.length := (List.getElem?_eq_some_iff.1 h.2).1
/-- The first line, and the place behind its end. -/
def LineRet (s : ByteArray) (e : Ending) : Prop :=
  (cutW s.data.toList = none ∧ e = .returned (.tuple #[.string ⟨#[]⟩, .int .i64 (-1)])) ∨
  ∃ l t, ∃ m : Nat, cutW s.data.toList = some (l, t) ∧ m ≤ s.size ∧ s.extract m s.size = str t ∧ e = .returned (.tuple #[.string (str l), .int .i64 m])
theorem lineRet_none {s x : ByteArray} (h : cutW s.data.toList = none) (hx : x = ⟨#[]⟩) : LineRet s (.returned (.tuple #[.string x, .int .i64 (-1)])) := .inl ⟨h, by rw [hx]⟩
theorem lineRet_some {s x : ByteArray} {k : Nat} {i : Int} (h : cutW s.data.toList = some (s.data.toList.take k, s.data.toList.drop (k + 2))) (hk : k + 2 ≤ s.size) (hx : x = str (s.data.toList.take k)) (hi : i = ((k + 2 : Nat) : Int)) : LineRet s (.returned (.tuple #[.string x, .int .i64 i])) :=
  .inr ⟨_, _, k + 2, h, hk, ext_dropW s (k + 2), by rw [hx, hi]⟩
set_option maxRecDepth 100000 in
set_option maxHeartbeats 1000000 in
theorem l9Line_any (s : ByteArray) (w : World) (hs : s.size ≤ 1073741824) :
    Calls Try.prog 29 #[.string s] w fun e w' => LineRet s e ∧ w = w' := by
  go_enter Try.func29, Try.ntmps29
  go_wp2_with fail
  go_loop [4] (fun i => ∃ k : Nat, k ≤ s.size ∧ i = .int .i64 k ∧ ∀ j, j < k → ¬ occW s.data.toList j) (fun i => s.size - (intOf i).toNat)
  case atStart => exact ⟨0, Nat.zero_le _, rfl, fun j h => by omega⟩
  case round =>
    obtain ⟨k, hk, rfl, hno⟩ := hrel
    have HNO := Lib.hid hno
    clear hno
    by_cases hlt : k + 1 < s.size
    · have d0 : decide ((k : Int) + 1 < (s.size : Int)) = true := by simp; omega
      have hk0 : k < s.size := by omega
      by_cases h13 : s[k] = 13
      · have e13 := beqW_t h13 (n := 13) rfl
        by_cases h10 : s[k + 1] = 10
        · have e10 := beqW_t h10 (n := 10) rfl
          have HC : Hid (cutW s.data.toList = some (s.data.toList.take k, s.data.toList.drop (k + 2))) := cutW_at k _ ((occW_s hlt).2 ⟨h13, h10⟩) HNO.out
          have HX := Lib.hid (ext_takeW s k)
          clear h13 h10
          go_wp2
          go_ret2
          exact ⟨lineRet_some HC.out (by omega) HX.out (by go_num), rfl⟩
        · have e10 := beqW_f h10 (n := 10) rfl
          have HN : Hid (¬ occW s.data.toList k) := fun c => h10 ((occW_s hlt).1 c).2
          clear h13 h10
          go_wp2
          go_round
          case rel => exact ⟨k + 1, by omega, by go_num, fun j hj => by
            by_cases e : j = k
            · subst e; exact HN.out
            · exact HNO.out j (by omega)⟩
          case measure => simp [intOf]; omega
      · have e13 := beqW_f h13 (n := 13) rfl
        have HN : Hid (¬ occW s.data.toList k) := fun c => h13 ((occW_s hlt).1 c).1
        clear h13
        go_wp2
        go_round
        case rel => exact ⟨k + 1, by omega, by go_num, fun j hj => by
          by_cases e : j = k
          · subst e; exact HN.out
          · exact HNO.out j (by omega)⟩
        case measure => simp [intOf]; omega
    · have d0 : decide ((k : Int) + 1 < (s.size : Int)) = false := by simp; omega
      have HC : Hid (cutW s.data.toList = none) := cutW_none_of _ fun j c => by
        have := occW_lt c
        rw [size_list] at this
        exact HNO.out j (by omega) c
      go_wp2
      go_ret2
      exact ⟨lineRet_none HC.out rfl, rfl⟩
set_option maxRecDepth 100000 in
set_option maxHeartbeats 2000000 in
theorem splitWireS_any (s : ByteArray) (w : World) (hs : s.size ≤ 1073741) :
    Calls Try.prog 21 #[.string s] w (SplRet (spliL s.data.toList) w) := by
  have hss := str_of s
  go_enter Try.func21, Try.ntmps21
  go_wp2_with fail
  go_loopw [0, 4] (fun sv v wr => ∃ (acc : List (List UInt8)) (t : List UInt8), sv = .string (str t) ∧ acc.length + t.length ≤ s.size ∧ SplAt s.data.toList acc t ∧ OwnL w.heap.size v acc wr ∧ Below w.heap.size w wr) (fun sv _ _ => Lib.strSize sv)
  case atStart => exact ⟨[], s.data.toList, by rw [hss], by rw [size_list]; simp, splAt_start _, OwnL.empty w, (Below.refl _ _).alloc (Nat.le_refl _) _⟩
  case round =>
    obtain ⟨acc, t, rfl, hl, hg, hown, hb⟩ := hrel
    have hbs := hb.size
    have HST : Hid ((str t).data.toList = t) := str_list t
    have HSZ : Hid ((str t).size = t.length) := str_size t
    have HL := Lib.hid (l9Line_any (str t) wr (by rw [HSZ.out]; omega))
    have HO := Lib.hid hown
    obtain ⟨a3, c3, rfl, _, _, _, _⟩ := hown.readc
    have HG := Lib.hid hg
    clear hown hss hg
    go_wp2_with fail
    refine HL.out.mono ?_
    rintro e w2 ⟨h2, rfl⟩
    rcases h2 with ⟨hc, rfl⟩ | ⟨l, r, m, hc, hm, hx, rfl⟩
    · rw [HST.out] at hc
      have HE := Lib.hid (splAt_end HG.out hc)
      clear hc HL
      generalize str t = S at *
      go_wp2
      go_ret2
      exact splRet_mk HE.out (by rw [← HST.out]; exact (str_of S).symm) HO.out hb
    · rw [HST.out] at hc
      have hlen := cutW_len hc
      have HG2 := Lib.hid (splAt_step HG.out hc)
      have HX := Lib.hid hx
      have HXE : Hid ((str l).data.toList = l) := str_list _
      have HRZ : Hid ((str r).size = r.length) := str_size r
      have hm0 : decide ((m : Int) < 0) = false := by simp
      have HO2 : Hid (OwnL w.heap.size (.slice a3 acc.length c3) acc (wr.alloc (.cells #[.string (str l)] 9))) := OwnL.keep HO.out ((Below.refl _ _).alloc (Nat.le_refl _) _)
      clear hc HL hx
      generalize hS : str t = S at *
      clear hS
      generalize str l = X at *
      go_wp2_with (at_builtin; refine wpList_append_1L rfl _ _ rfl w.heap.size _ acc X wr.heap.size rfl rfl ?c1 HO2.out ?c2 ?c3 ?_)
      case c1 => rw [World.cell?_alloc_at _ _ _ _ rfl]; rfl
      case c2 => simp; omega
      case c3 => omega
      intro v' w3 hO3 hgr _
      have hb3 : Below w.heap.size w w3 := (hb.alloc hbs _).grown hgr (by simp; omega) (fun g hg => (HO2.out.lt g hg).1)
      rw [HXE.out] at hO3
      go_wp2
      go_roundw
      case rel => exact ⟨acc ++ [l], r, by rw [HX.out], by simp; omega, HG2.out, hO3, hb3⟩
      case measure =>
        show Lib.strSize _ < Lib.strSize _
        rw [HX.out, Lib.strSize_string, Lib.strSize_string, HRZ.out, str_size t]; omega
theorem ext_one (l : List UInt8) (h : l.head? = some 46) : (str l).extract 1 (str l).size = str (unP l) := by
  rw [ext_dropW, str_list]; unfold unP; rw [if_pos h]
  cases l <;> simp
set_option maxRecDepth 100000 in
set_option maxHeartbeats 4000000 in
theorem unstuffTextS_any (s : ByteArray) (w : World) (_hs : s.size ≤ 1073741824) :
    Calls Try.prog 13 #[.string s] w (UnsRet (unsW s.data.toList) w) := by
  have hss := str_of s
  go_enter Try.func13, Try.ntmps13
  go_wp2_with fail
  go_loopw [0, 5] (fun sv v wr => ∃ (acc : List (List UInt8)) (t : List UInt8), sv = .string (str t) ∧ (t.length ≤ 2000 → acc.length + t.length ≤ 2000 ∧ UnsAt s.data.toList acc t) ∧ (2000 < t.length → unsW s.data.toList = none) ∧ t.length ≤ s.size ∧ OwnL w.heap.size v acc wr ∧ Below w.heap.size w wr) (fun sv _ _ => Lib.strSize sv)
  case atStart => exact ⟨[], s.data.toList, by rw [hss], fun h => ⟨by simpa using h, unsAt_start h⟩, fun h => by unfold unsW; rw [if_neg (by omega)], by rw [size_list]; omega, OwnL.empty w, (Below.refl _ _).alloc (Nat.le_refl _) _⟩
  case round =>
    obtain ⟨acc, t, rfl, hl, hl2, hts, hown, hb⟩ := hrel
    have hbs := hb.size
    have HST : Hid ((str t).data.toList = t) := str_list t
    have hsz : (str t).size = t.length := str_size t
    by_cases h2 : 2000 < t.length
    · have HN := Lib.hid (hl2 h2)
      have d0 : decide (((str t).size : Int) ≤ 2000) = false := by simp; omega
      clear hl hl2 hown hss hsz
      generalize str t = S at *
      go_wp2
      go_ret3
      exact unsRet_none HN.out rfl ((OwnL.empty wr).base hb.size) (hb.alloc hbs _)
    obtain ⟨hl3, hg⟩ := hl (by omega)
    have d0 : decide (((str t).size : Int) ≤ 2000) = true := by simp; omega
    have HSZ := Lib.hid hsz
    have HL := Lib.hid (l9Line_any (str t) wr (by omega))
    have HO := Lib.hid hown
    obtain ⟨a3, c3, rfl, _, _, _, _⟩ := hown.readc
    have HG := Lib.hid hg
    clear hown hss hg hl hl2 hsz
    go_wp2_with fail
    refine HL.out.mono ?_
    rintro e w2 ⟨h2, rfl⟩
    rcases h2 with ⟨hc, rfl⟩ | ⟨l, r, m, hc, hm, hx, rfl⟩
    · rw [HST.out] at hc
      have HE := Lib.hid (unsAt_none HG.out hc)
      clear hc HL
      generalize str t = S at *
      go_wp2
      go_ret3
      exact unsRet_none HE.out rfl ((OwnL.empty wr).base hb.size) (hb.alloc hbs _)
    · rw [HST.out] at hc
      have hlen := cutW_len hc
      have HX := Lib.hid hx
      have hm0 : decide ((m : Int) < 0) = false := by simp
      by_cases h46 : l = [46]
      · have HE := Lib.hid (unsAt_end HG.out hc h46)
        have e46 := dot_t h46
        clear hc HL hx h46
        generalize str t = S at *
        generalize str l = X at *
        go_wp2
        go_ret3
        exact unsRet_some HE.out HX.out HO.out hb
      · have e46 := dot_f h46
        have hul := unP_le l
        have HUZ : Hid ((str (unP l)).size = (unP l).length) := str_size _
        have HUL : Hid ((str (unP l)).data.toList = unP l) := str_list _
        have HRZ : Hid ((str r).size = r.length) := str_size r
        have HT := Lib.hid (fun u => textValidS_any (str (unP l)) u (by rw [HUZ.out]; unfold maxLen; omega))
        rw [str_list (unP l)] at HT
        have hway : ((str l).toList.isEmpty = true ∧ str (unP l) = str l) ∨ ((str l).toList.isEmpty = false ∧ 0 < (str l).size ∧ ((∃ h : 0 < (str l).size, (str l)[0] = 46) ∧ (str l).extract 1 (str l).size = str (unP l) ∨ (∃ h : 0 < (str l).size, (str l)[0] ≠ 46) ∧ str (unP l) = str l)) := by
          cases hl0 : l with
          | nil => exact .inl ⟨by decide +kernel, rfl⟩
          | cons a q =>
            have hp : 0 < (str (a :: q)).size := by rw [str_size]; simp
            have h0 : (str (a :: q))[0] = a := by rw [← getElem_list _ _ hp]; simp [str]
            refine .inr ⟨empty_f hp, hp, ?_⟩
            by_cases ha : a = 46
            · exact .inl ⟨⟨hp, by rw [h0, ha]⟩, ext_one _ (by rw [ha]; rfl)⟩
            · exact .inr ⟨⟨hp, by rw [h0]; exact ha⟩, by unfold unP; rw [if_neg (by simpa using ha)]⟩
        have HO2 : Hid (∀ Y : ByteArray, OwnL w.heap.size (.slice a3 acc.length c3) acc (wr.alloc (.cells #[.string Y] 9))) := fun Y => OwnL.keep HO.out ((Below.refl _ _).alloc (Nat.le_refl _) _)
        cases ht : isText (unP l) with
        | false =>
          have HE := Lib.hid (unsAt_bad HG.out hc h46 ht)
          rw [ht] at HT
          clear hc HL hx h46 ht
          generalize str t = S at *
          generalize str l = X at *
          generalize str (unP l) = Y at *
          rcases hway with ⟨g1, g2⟩ | ⟨g1, g2, ⟨⟨_, g3⟩, g4⟩ | ⟨⟨_, g3⟩, g4⟩⟩
          · subst g2
            go_wp2_with fail
            refine (HT.out _).mono ?_
            rintro e w3 ⟨rfl, rfl⟩
            go_wp2
            go_ret3
            exact unsRet_none HE.out rfl ((OwnL.empty wr).base hb.size) (hb.alloc hbs _)
          · have e3 := beqW_t g3 (n := 46) rfl
            have G4 := Lib.hid g4
            clear g3 g4
            go_wp2_with fail
            rw [G4.out]
            refine (HT.out _).mono ?_
            rintro e w3 ⟨rfl, rfl⟩
            go_wp2
            go_ret3
            exact unsRet_none HE.out rfl ((OwnL.empty wr).base hb.size) (hb.alloc hbs _)
          · have e3 := beqW_f g3 (n := 46) rfl
            subst g4
            clear g3
            go_wp2_with fail
            refine (HT.out _).mono ?_
            rintro e w3 ⟨rfl, rfl⟩
            go_wp2
            go_ret3
            exact unsRet_none HE.out rfl ((OwnL.empty wr).base hb.size) (hb.alloc hbs _)
        | true =>
          have HG2 := Lib.hid (unsAt_step HG.out hc h46 ht)
          rw [ht] at HT
          clear hc HL hx h46 ht
          generalize str t = S at *
          generalize str l = X at *
          generalize str (unP l) = Y at *
          rcases hway with ⟨g1, g2⟩ | ⟨g1, g2, ⟨⟨_, g3⟩, g4⟩ | ⟨⟨_, g3⟩, g4⟩⟩
          · subst g2
            go_wp2_with fail
            refine (HT.out _).mono ?_
            rintro e w3 ⟨rfl, rfl⟩
            go_wp2_with (at_builtin; refine wpList_append_1L rfl _ _ rfl w.heap.size _ acc Y wr.heap.size rfl rfl ?c1 (HO2.out Y) ?c2 ?c3 ?_)
            case c1 => rw [World.cell?_alloc_at _ _ _ _ rfl]; rfl
            case c2 => simp; omega
            case c3 => omega
            intro v' w3 hO3 hgr _
            have hb3 : Below w.heap.size w w3 := (hb.alloc hbs _).grown hgr (by simp; omega) (fun g hg => ((HO2.out Y).lt g hg).1)
            rw [HUL.out] at hO3
            go_wp2
            go_roundw
            case rel => exact ⟨acc ++ [unP l], r, by rw [HX.out], fun _ => ⟨by simp; omega, HG2.out⟩, fun h => by omega, by omega, hO3, hb3⟩
            case measure =>
              show Lib.strSize _ < Lib.strSize _
              rw [HX.out, Lib.strSize_string, Lib.strSize_string, HRZ.out, str_size t]; omega
          · have e3 := beqW_t g3 (n := 46) rfl
            have G4 := Lib.hid g4
            clear g3 g4
            go_wp2_with fail
            rw [G4.out]
            refine (HT.out _).mono ?_
            rintro e w3 ⟨rfl, rfl⟩
            go_wp2_with (at_builtin; refine wpList_append_1L rfl _ _ rfl w.heap.size _ acc Y wr.heap.size rfl rfl ?d1 (HO2.out Y) ?d2 ?d3 ?_)
            case d1 => rw [World.cell?_alloc_at _ _ _ _ rfl]; rfl
            case d2 => simp; omega
            case d3 => omega
            intro v' w3 hO3 hgr _
            have hb3 : Below w.heap.size w w3 := (hb.alloc hbs _).grown hgr (by simp; omega) (fun g hg => ((HO2.out Y).lt g hg).1)
            rw [HUL.out] at hO3
            go_wp2
            go_roundw
            case rel => exact ⟨acc ++ [unP l], r, by rw [HX.out], fun _ => ⟨by simp; omega, HG2.out⟩, fun h => by omega, by omega, hO3, hb3⟩
            case measure =>
              show Lib.strSize _ < Lib.strSize _
              rw [HX.out, Lib.strSize_string, Lib.strSize_string, HRZ.out, str_size t]; omega
          · have e3 := beqW_f g3 (n := 46) rfl
            subst g4
            clear g3
            go_wp2_with fail
            refine (HT.out _).mono ?_
            rintro e w3 ⟨rfl, rfl⟩
            go_wp2_with (at_builtin; refine wpList_append_1L rfl _ _ rfl w.heap.size _ acc Y wr.heap.size rfl rfl ?e1 (HO2.out Y) ?e2 ?e3 ?_)
            case e1 => rw [World.cell?_alloc_at _ _ _ _ rfl]; rfl
            case e2 => simp; omega
            case e3 => omega
            intro v' w3 hO3 hgr _
            have hb3 : Below w.heap.size w w3 := (hb.alloc hbs _).grown hgr (by simp; omega) (fun g hg => ((HO2.out Y).lt g hg).1)
            rw [HUL.out] at hO3
            go_wp2
            go_roundw
            case rel => exact ⟨acc ++ [unP l], r, by rw [HX.out], fun _ => ⟨by simp; omega, HG2.out⟩, fun h => by omega, by omega, hO3, hb3⟩
            case measure =>
              show Lib.strSize _ < Lib.strSize _
              rw [HX.out, Lib.strSize_string, Lib.strSize_string, HRZ.out, str_size t]; omega
theorem stuP_way (X : ByteArray) : (X.toList.isEmpty = true ∧ stuP X.data.toList = X.data.toList) ∨ (X.toList.isEmpty = false ∧ 0 < X.size ∧ ((∃ h : 0 < X.size, X[0] = 46) ∧ stuP X.data.toList = 46 :: X.data.toList ∨ (∃ h : 0 < X.size, X[0] ≠ 46) ∧ stuP X.data.toList = X.data.toList)) := by
  by_cases h0 : X.size = 0
  · have : X.data.toList = [] := List.length_eq_zero_iff.1 (by rw [size_list]; exact h0)
    exact .inl ⟨empty_t h0, by rw [this]; rfl⟩
  · have hp : 0 < X.size := by omega
    have hh : X.data.toList.head? = some X[0] := by rw [List.head?_eq_getElem?, List.getElem?_eq_getElem (by rw [size_list]; exact hp), getElem_list]
    refine .inr ⟨empty_f hp, hp, ?_⟩
    by_cases ha : X[0] = 46
    · exact .inl ⟨⟨hp, ha⟩, by unfold stuP; rw [if_pos (by rw [hh, ha])]⟩
    · exact .inr ⟨⟨hp, ha⟩, by unfold stuP; rw [if_neg (by rw [hh]; simpa using ha)]⟩
set_option maxRecDepth 100000 in
set_option maxHeartbeats 4000000 in
theorem stuffLinesS_any (a : Option Addr) (n c : Nat) (xs : List (List UInt8)) (w : World) (hr : RdL w a n xs) (hn : n ≤ 1073741824) (hx : ∀ x ∈ xs, x.length ≤ 1073741000) :
    Calls Try.prog 9 #[.slice a n c] w fun e w' => e = .returned (.tuple #[.string (str ((stuW xs).getD [])), .bool (stuW xs).isSome]) ∧ w = w' := by
  have HX := Lib.hid hx
  have HLEN := Lib.hid hr.1
  have HR := Lib.hid hr.2
  clear hx hr
  have z1 : (ByteArray.mk #[46]).size = 1 := rfl
  have z2 : (ByteArray.mk #[13, 10]).size = 2 := rfl
  have z3 : (ByteArray.mk #[46, 13, 10]).size = 3 := rfl
  have RN : Hid (∀ x : ByteArray, stuW xs = none → x = ⟨#[]⟩ → (Ending.returned (.tuple #[.string x, .bool false])) = .returned (.tuple #[.string (str ((stuW xs).getD [])), .bool (stuW xs).isSome])) := fun x h hx => by rw [h, hx]; rfl
  have RS : Hid (∀ (x : ByteArray) (b : List UInt8), stuW xs = some b → x = str b → (Ending.returned (.tuple #[.string x, .bool true])) = .returned (.tuple #[.string (str ((stuW xs).getD [])), .bool (stuW xs).isSome])) := fun x b h hx => by rw [h, hx]; rfl
  go_enter Try.func9, Try.ntmps9
  go_wp2_with fail
  go_loop [4, 5] (fun o i => ∃ k : Nat, k ≤ n ∧ i = .int .i64 k ∧ o = .string (str (stuB (xs.take k))) ∧ (stuB (xs.take k)).length ≤ 2203 ∧ (∀ j, (h : j < k) → (h' : j < xs.length) → isText xs[j] = true)) (fun _ i => n - (intOf i).toNat)
  case atStart => exact ⟨0, by omega, rfl, rfl, by simp [stuB], fun j h => by omega⟩
  case round =>
    obtain ⟨k, hk, rfl, rfl, hal, hall⟩ := hrel
    have HALL := Lib.hid hall
    clear hall
    have hoz : (str (stuB (xs.take k))).size = (stuB (xs.take k)).length := str_size _
    by_cases hlt : k < n
    · have hkx : k < xs.length := by rw [HLEN.out]; exact hlt
      obtain ⟨b, off, rfl, hbl, hcell⟩ := HR.out.resolve_left (by omega)
      have c0 : w.cell? ⟨b, off + k, none⟩ = some (.string (str xs[k])) := hcell k hkx
      have hxk := HX.out _ (List.getElem_mem hkx)
      have HT := Lib.hid (fun u => textValidS_any (str xs[k]) u (by rw [str_size]; unfold maxLen; omega))
      rw [str_list] at HT
      cases ht : isText xs[k] with
      | false =>
        have HE := Lib.hid (stuW_bad (List.getElem_mem hkx) ht)
        rw [ht] at HT
        clear ht hcell hoz
        generalize str xs[k] = X at *
        generalize str (stuB (xs.take k)) = O at *
        go_wp2_with fail
        refine (HT.out _).mono ?_
        rintro e w1 ⟨rfl, rfl⟩
        go_wp2
        go_ret2
        exact ⟨RN.out _ HE.out rfl, rfl⟩
      | true =>
        rw [ht] at HT
        have HTX := Lib.hid ht
        by_cases hlong : 2000 < (stuB (xs.take k)).length
        · have HE := Lib.hid (stuW_long k hlong)
          have d1 : decide ((2000 : Int) < ((str (stuB (xs.take k))).size : Int)) = true := by simp; omega
          clear ht hcell hoz hlong hal
          generalize str xs[k] = X at *
          generalize str (stuB (xs.take k)) = O at *
          go_wp2_with fail
          refine (HT.out _).mono ?_
          rintro e w1 ⟨rfl, rfl⟩
          go_wp2
          go_ret2
          exact ⟨RN.out _ HE.out rfl, rfl⟩
        · have d1 : decide ((2000 : Int) < ((str (stuB (xs.take k))).size : Int)) = false := by simp; omega
          have HS := Lib.hid (stuB_step hkx)
          have hp := stuP_text ht
          have hxz : (str xs[k]).size ≤ 200 := by rw [str_size]; unfold isText at ht; simp at ht; exact ht.1
          have hzo : (str (stuB (xs.take k))).size ≤ 2000 := by omega
          have HO : Hid ((str (stuB (xs.take k))).data.toList = stuB (xs.take k)) := str_list _
          have HXL : Hid ((str xs[k]).data.toList = xs[k]) := str_list _
          have hal2 : (stuB (xs.take k)).length ≤ 2000 := by omega
          have HLN : Hid ((stuB (xs.take (k + 1))).length ≤ 2203) := by show _ ≤ _; rw [HS.out]; simp; omega
          have hway := stuP_way (str xs[k])
          clear ht hcell hoz hlong hal hal2
          generalize str xs[k] = X at *
          generalize str (stuB (xs.take k)) = O at *
          have HALN : Hid (∀ j, (h : j < k + 1) → (h' : j < xs.length) → isText xs[j] = true) := fun j h h' => by
            by_cases e : j = k
            · subst e; exact HTX.out
            · exact HALL.out j (by omega) h'
          rcases hway with ⟨g1, g2⟩ | ⟨g1, g2, ⟨⟨_, g3⟩, g4⟩ | ⟨⟨_, g3⟩, g4⟩⟩
          · have HN : Hid (O ++ X ++ ByteArray.mk #[13, 10] = str (stuB (xs.take (k + 1)))) := by
              show _ = _
              apply bytes_ext; rw [str_list, HS.out, ← HXL.out, g2, Joins.data_append, Joins.data_append, HO.out]; simp
            clear g2
            go_wp2_with fail
            refine (HT.out _).mono ?_
            rintro e w1 ⟨rfl, rfl⟩
            go_wp2
            go_round
            case rel => exact ⟨k + 1, by omega, by go_num, by rw [HN.out], HLN.out, HALN.out⟩
            case measure => simp [intOf]; omega
          · have HN : Hid (O ++ ByteArray.mk #[46] ++ X ++ ByteArray.mk #[13, 10] = str (stuB (xs.take (k + 1)))) := by
              show _ = _
              apply bytes_ext; rw [str_list, HS.out, ← HXL.out, g4, Joins.data_append, Joins.data_append, Joins.data_append, HO.out]; simp
            have e3 := beqW_t g3 (n := 46) rfl
            clear g3 g4
            go_wp2_with fail
            refine (HT.out _).mono ?_
            rintro e w1 ⟨rfl, rfl⟩
            go_wp2
            go_round
            case rel => exact ⟨k + 1, by omega, by go_num, by rw [HN.out], HLN.out, HALN.out⟩
            case measure => simp [intOf]; omega
          · have HN : Hid (O ++ X ++ ByteArray.mk #[13, 10] = str (stuB (xs.take (k + 1)))) := by
              show _ = _
              apply bytes_ext; rw [str_list, HS.out, ← HXL.out, g4, Joins.data_append, Joins.data_append, HO.out]; simp
            have e3 := beqW_f g3 (n := 46) rfl
            clear g3 g4
            go_wp2_with fail
            refine (HT.out _).mono ?_
            rintro e w1 ⟨rfl, rfl⟩
            go_wp2
            go_round
            case rel => exact ⟨k + 1, by omega, by go_num, by rw [HN.out], HLN.out, HALN.out⟩
            case measure => simp [intOf]; omega
    · have htk : xs.take k = xs := List.take_of_length_le (by rw [HLEN.out]; omega)
      rw [htk] at hoz hal ⊢
      have HTX : Hid (∀ l ∈ xs, isText l = true) := fun l hm => by
        obtain ⟨j, hj, rfl⟩ := List.getElem_of_mem hm
        exact HALL.out j (by rw [HLEN.out] at hj; omega) hj
      have HAL := stuAll_len xs
      have HA : Hid (str (stuB xs) ++ ByteArray.mk #[46, 13, 10] = str (stuAll xs)) := by
        show _ = _
        apply bytes_ext; rw [str_list, Joins.data_append, str_list]; rfl
      have hzz : (str (stuB xs) ++ ByteArray.mk #[46, 13, 10]).size = (stuAll xs).length := by rw [HA.out, str_size]
      clear htk
      by_cases hlong : 2000 < (stuAll xs).length
      · have HE := Lib.hid (stuW_long' hlong)
        have d1 : decide ((2000 : Int) < ((str (stuB xs)).size : Int) + 3) = true := by simp; omega
        have d2 : decide ((2000 : Int) < ((str (stuB xs) ++ ByteArray.mk #[46, 13, 10]).size : Int)) = true := by simp only [decide_eq_true_eq]; omega
        have hz9 : (str (stuB xs)).size ≤ 2203 := by omega
        clear HAL hoz hal hlong hzz
        generalize str (stuB xs) = O at *
        go_wp2
        go_ret2
        exact ⟨RN.out _ HE.out rfl, rfl⟩
      · have HE := Lib.hid (stuW_good HTX.out (by omega))
        have d1 : decide ((2000 : Int) < ((str (stuB xs)).size : Int) + 3) = false := by simp; omega
        have d2 : decide ((2000 : Int) < ((str (stuB xs) ++ ByteArray.mk #[46, 13, 10]).size : Int)) = false := by simp only [decide_eq_false_iff_not]; omega
        have hz9 : (str (stuB xs)).size ≤ 2203 := by omega
        clear HAL hoz hal hlong hzz
        generalize str (stuB xs) = O at *
        go_wp2
        go_ret2
        exact ⟨RS.out _ _ HE.out HA.out, rfl⟩
/-- What stands at a place, for a reader that takes ends whole. -/
theorem prev_two {s : ByteArray} {k : Nat} (hlt : k + 1 < s.size) (h13 : s[k] = 13) (h10 : s[k + 1] = 10) : normG (prevW s.data.toList k) (s.data.toList.drop k) = 13 :: 10 :: normG (prevW s.data.toList (k + 2)) (s.data.toList.drop (k + 2)) ∧ cntG (prevW s.data.toList k) (s.data.toList.drop k) = cntG (prevW s.data.toList (k + 2)) (s.data.toList.drop (k + 2)) ∧ prevW s.data.toList (k + 2) = false := by
  have hl1 : k < s.data.toList.length := by rw [size_list]; omega
  have hl2 : k + 1 < s.data.toList.length := by rw [size_list]; omega
  have p1 : prevW s.data.toList (k + 1) = true := by rw [prevW_succ hl1, getElem_list s k (by omega), h13]; rfl
  have p2 : prevW s.data.toList (k + 2) = false := by rw [prevW_succ hl2, getElem_list s (k + 1) hlt, h10]; rfl
  have b1 : bareB (prevW s.data.toList k) s[k] (s.data.toList.drop (k + 1)) = false := by
    unfold bareB; rw [h13, head_drop, List.getElem?_eq_getElem hl2, getElem_list s (k + 1) hlt, h10]; rfl
  have b2 : bareB true s[k + 1] (s.data.toList.drop (k + 2)) = false := by unfold bareB; rw [h10]; rfl
  refine ⟨?_, ?_, p2⟩
  · rw [norm_at hl1, norm_at hl2, getElem_list s k (by omega), getElem_list s (k + 1) hlt, b1, p1, b2, h13, h10]; rfl
  · rw [cnt_at hl1, cnt_at hl2, getElem_list s k (by omega), getElem_list s (k + 1) hlt, b1, p1, b2]; simp
theorem prev_bare {s : ByteArray} {k : Nat} (hlt : k < s.size) (hb : bareB (prevW s.data.toList k) s[k] (s.data.toList.drop (k + 1)) = true) : normG (prevW s.data.toList k) (s.data.toList.drop k) = 13 :: 10 :: normG (prevW s.data.toList (k + 1)) (s.data.toList.drop (k + 1)) ∧ cntG (prevW s.data.toList k) (s.data.toList.drop k) = 1 + cntG (prevW s.data.toList (k + 1)) (s.data.toList.drop (k + 1)) := by
  have hl1 : k < s.data.toList.length := by rw [size_list]; omega
  exact ⟨by rw [norm_at hl1, getElem_list s k hlt, hb]; rfl, by rw [cnt_at hl1, getElem_list s k hlt, hb]; rfl⟩
theorem prev_plain {s : ByteArray} {k : Nat} (hlt : k < s.size) (hb : bareB (prevW s.data.toList k) s[k] (s.data.toList.drop (k + 1)) = false) : normG (prevW s.data.toList k) (s.data.toList.drop k) = s[k] :: normG (prevW s.data.toList (k + 1)) (s.data.toList.drop (k + 1)) ∧ cntG (prevW s.data.toList k) (s.data.toList.drop k) = cntG (prevW s.data.toList (k + 1)) (s.data.toList.drop (k + 1)) := by
  have hl1 : k < s.data.toList.length := by rw [size_list]; omega
  exact ⟨by rw [norm_at hl1, getElem_list s k hlt, hb]; rfl, by rw [cnt_at hl1, getElem_list s k hlt, hb]; simp⟩
theorem prev_is {s : ByteArray} {k : Nat} (hlt : k < s.size) : prevW s.data.toList (k + 1) = (s[k] == 13) := by
  rw [prevW_succ (by rw [size_list]; exact hlt), getElem_list s k hlt]
/-- The four ways at a place. -/
inductive WayW (s : ByteArray) (k : Nat) : Prop
  | two (hlt : k + 1 < s.size) (h13 : s[k] = 13) (h10 : s[k + 1] = 10)
  | cr (hlt : k < s.size) (h13 : s[k] = 13) (hn : k + 1 = s.size ∨ ∃ h : k + 1 < s.size, s[k + 1] ≠ 10)
  | nl (hlt : k < s.size) (h10 : s[k] = 10)
  | other (hlt : k < s.size) (h13 : s[k] ≠ 13) (h10 : s[k] ≠ 10)
theorem wayW {s : ByteArray} {k : Nat} (hlt : k < s.size) : WayW s k := by
  by_cases h13 : s[k] = 13
  · by_cases hl : k + 1 < s.size
    · by_cases h10 : s[k + 1] = 10
      · exact .two hl h13 h10
      · exact .cr hlt h13 (.inr ⟨hl, h10⟩)
    · exact .cr hlt h13 (.inl (by omega))
  · by_cases h10 : s[k] = 10
    · exact .nl hlt h10
    · exact .other hlt h13 h10
theorem bare_cr {s : ByteArray} {k : Nat} (hlt : k < s.size) (h13 : s[k] = 13) (hn : k + 1 = s.size ∨ ∃ h : k + 1 < s.size, s[k + 1] ≠ 10) : bareB (prevW s.data.toList k) s[k] (s.data.toList.drop (k + 1)) = true ∧ s.data.toList[k + 1]? ≠ some 10 := by
  have h : s.data.toList[k + 1]? ≠ some 10 := by
    rcases hn with e | ⟨h, hne⟩
    · rw [List.getElem?_eq_none (by rw [size_list]; omega)]; simp
    · rw [List.getElem?_eq_getElem (by rw [size_list]; exact h), getElem_list s (k + 1) h]; simpa using hne
  refine ⟨?_, h⟩
  unfold bareB; rw [h13, head_drop, show (s.data.toList[k + 1]? == some 10) = false from by simpa using h]; rfl
theorem bare_nl {s : ByteArray} {k : Nat} (hlt : k < s.size) (h10 : s[k] = 10) (hp : prevW s.data.toList k = true → s.data.toList[k]? ≠ some 10) : bareB (prevW s.data.toList k) s[k] (s.data.toList.drop (k + 1)) = true := by
  have h : prevW s.data.toList k = false := by
    cases he : prevW s.data.toList k with
    | false => rfl
    | true => exact absurd (by rw [List.getElem?_eq_getElem (by rw [size_list]; exact hlt), getElem_list s k hlt, h10]) (hp he)
  unfold bareB; rw [h, h10]; rfl
theorem bare_other {s : ByteArray} {k : Nat} (hlt : k < s.size) (h13 : s[k] ≠ 13) (h10 : s[k] ≠ 10) : bareB (prevW s.data.toList k) s[k] (s.data.toList.drop (k + 1)) = false := by
  unfold bareB; rw [show (s[k] == (13 : UInt8)) = false from by simpa using h13, show (s[k] == (10 : UInt8)) = false from by simpa using h10]; rfl
set_option maxRecDepth 100000 in
set_option maxHeartbeats 2000000 in
theorem countBareS_any (s : ByteArray) (w : World) (hs : s.size ≤ 1073741824) :
    Calls Try.prog 19 #[.string s] w fun e w' => e = .returned (.int .i64 (cntG false s.data.toList : Nat)) ∧ w = w' := by
  go_enter Try.func19, Try.ntmps19
  go_wp2_with fail
  go_loop [3, 4] (fun c i => ∃ k n : Nat, k ≤ s.size ∧ i = .int .i64 k ∧ c = .int .i64 n ∧ n ≤ k ∧ (prevW s.data.toList k = true → s.data.toList[k]? ≠ some 10) ∧ cntG false s.data.toList = n + cntG (prevW s.data.toList k) (s.data.toList.drop k)) (fun _ i => s.size - (intOf i).toNat)
  case atStart => exact ⟨0, 0, Nat.zero_le _, rfl, rfl, Nat.le_refl _, (fun h => by cases h), by rw [List.drop_zero]; simp [prevW]⟩
  case round =>
    obtain ⟨k, n, hk, rfl, rfl, hn, hp, hg⟩ := hrel
    by_cases hlt : k < s.size
    · cases wayW hlt with
      | two hl2 h13 h10 =>
        obtain ⟨_, g2, g3⟩ := prev_two hl2 h13 h10
        have HA : Hid (cntG false s.data.toList = n + cntG (prevW s.data.toList (k + 2)) (s.data.toList.drop (k + 2))) := by show _ = _; rw [hg, g2]
        have HP : Hid (prevW s.data.toList (k + 2) = true → s.data.toList[k + 2]? ≠ some 10) := fun h => by rw [g3] at h; cases h
        have e13 := beqW_t h13 (n := 13) rfl
        have e10 := beqW_t h10 (n := 10) rfl
        have d0 : decide ((k : Int) + 1 < (s.size : Int)) = true := by simp; omega
        clear hg hp h13 h10 g2 g3
        go_wp2
        go_round
        case rel => exact ⟨k + 2, n, by omega, by go_num, rfl, by omega, HP.out, HA.out⟩
        case measure => simp [intOf]; omega
      | cr _ h13 hnx =>
        obtain ⟨b1, b2⟩ := bare_cr hlt h13 hnx
        have HA : Hid (cntG false s.data.toList = (n + 1) + cntG (prevW s.data.toList (k + 1)) (s.data.toList.drop (k + 1))) := by show _ = _; rw [hg, (prev_bare hlt b1).2]; omega
        have HP : Hid (prevW s.data.toList (k + 1) = true → s.data.toList[k + 1]? ≠ some 10) := fun _ => b2
        have e13 := beqW_t h13 (n := 13) rfl
        rcases hnx with hnx | ⟨hnx, h10⟩
        · have d0 : decide ((k : Int) + 1 < (s.size : Int)) = false := by simp; omega
          clear hg hp h13 b1 b2
          go_wp2
          go_round
          case rel => exact ⟨k + 1, n + 1, by omega, by go_num, by go_num, by omega, HP.out, HA.out⟩
          case measure => simp [intOf]; omega
        · have d0 : decide ((k : Int) + 1 < (s.size : Int)) = true := by simp; omega
          have e10 := beqW_f h10 (n := 10) rfl
          clear hg hp h13 b1 b2 h10
          go_wp2
          go_round
          case rel => exact ⟨k + 1, n + 1, by omega, by go_num, by go_num, by omega, HP.out, HA.out⟩
          case measure => simp [intOf]; omega
      | nl _ h10 =>
        have b1 := bare_nl hlt h10 hp
        have HA : Hid (cntG false s.data.toList = (n + 1) + cntG (prevW s.data.toList (k + 1)) (s.data.toList.drop (k + 1))) := by show _ = _; rw [hg, (prev_bare hlt b1).2]; omega
        have HP : Hid (prevW s.data.toList (k + 1) = true → s.data.toList[k + 1]? ≠ some 10) := fun h => by rw [prev_is hlt, h10] at h; cases h
        have e13 := beqW_f (c := s[k]) (d := 13) (by rw [h10]; decide) (n := 13) rfl
        have e10 := beqW_t h10 (n := 10) rfl
        clear hg hp h10 b1
        go_wp2
        go_round
        case rel => exact ⟨k + 1, n + 1, by omega, by go_num, by go_num, by omega, HP.out, HA.out⟩
        case measure => simp [intOf]; omega
      | other _ h13 h10 =>
        have b1 := bare_other hlt h13 h10
        have HA : Hid (cntG false s.data.toList = n + cntG (prevW s.data.toList (k + 1)) (s.data.toList.drop (k + 1))) := by show _ = _; rw [hg, (prev_plain hlt b1).2]
        have HP : Hid (prevW s.data.toList (k + 1) = true → s.data.toList[k + 1]? ≠ some 10) := fun h => by rw [prev_is hlt] at h; exact absurd (by simpa using h) h13
        have e13 := beqW_f h13 (n := 13) rfl
        have e10 := beqW_f h10 (n := 10) rfl
        clear hg hp h10 h13 b1
        go_wp2
        go_round
        case rel => exact ⟨k + 1, n, by omega, by go_num, rfl, by omega, HP.out, HA.out⟩
        case measure => simp [intOf]; omega
    · have HE : Hid (cntG false s.data.toList = n) := by
        show _ = _
        rw [hg, List.drop_of_length_le (by rw [size_list]; omega)]; simp [cntG]
      clear hg hp
      go_wp2
      go_ret
      exact ⟨ret_int (by rw [HE.out]), rfl⟩
set_option maxRecDepth 100000 in
set_option maxHeartbeats 4000000 in
theorem normalTextS_any (s : ByteArray) (w : World) (hs : s.size ≤ 1073741824) :
    Calls Try.prog 17 #[.string s] w fun e w' => e = .returned (.string (str (normG false s.data.toList))) ∧ Below w.heap.size w w' := by
  obtain ⟨i0, hi, hz0, hz1, hz2⟩ := info_parts bInfo
  go_enter Try.func17, Try.ntmps17
  go_wp2_with fail
  go_loopw [3, 4] (fun v i wr => ∃ (k : Nat) (acc : List UInt8), k ≤ s.size ∧ i = .int .i64 k ∧ acc.length ≤ 2 * k ∧ (prevW s.data.toList k = true → s.data.toList[k]? ≠ some 10) ∧ normG false s.data.toList = acc ++ normG (prevW s.data.toList k) (s.data.toList.drop k) ∧ RowB w.heap.size v acc wr ∧ Below w.heap.size w wr) (fun _ i _ => s.size - (intOf i).toNat)
  case atStart => exact ⟨0, [], Nat.zero_le _, rfl, by simp, (fun h => by cases h), by rw [List.drop_zero]; simp [prevW], RowB.empty w, (Below.refl _ _).alloc (Nat.le_refl _) _⟩
  case round =>
    obtain ⟨k, acc, hk, rfl, hal, hp, hg, hown, hb⟩ := hrel
    have hbs := hb.size
    have hbl := Lib.byteCells_length acc
    have hown1 := hown
    unfold RowB at hown1
    by_cases hlt : k < s.size
    · cases wayW hlt with
      | two hl2 h13 h10 =>
        obtain ⟨g2, _, g3⟩ := prev_two hl2 h13 h10
        have HA : Hid (normG false s.data.toList = (acc ++ [13, 10]) ++ normG (prevW s.data.toList (k + 2)) (s.data.toList.drop (k + 2))) := by show _ = _; rw [hg, g2]; simp
        have HP : Hid (prevW s.data.toList (k + 2) = true → s.data.toList[k + 2]? ≠ some 10) := fun h => by rw [g3] at h; cases h
        have e13 := beqW_t h13 (n := 13) rfl
        have e10 := beqW_t h10 (n := 10) rfl
        have d0 : decide ((k : Int) + 1 < (s.size : Int)) = true := by simp; omega
        clear hg hp h13 h10 g2 g3
        go_wp2_with (at_builtin; refine wpList_append_own _ rfl _ _ 37 rfl w.heap.size 5 i0 (.int .u8 0) 1 1 Try.underlying37 hi hz0 hz1 hz2 rfl (by decide) _ _ _ rfl (hown1.alloc _) ⟨wr.heap.size, 0, none⟩ 2 2 (Lib.byteCells [13, 10]) rfl rfl ?a1 ?a2 ?a3 ?a4 ?a5 ?_)
        case a1 =>
          intro u v hj
          match u, hj with
          | 0, hj => simp [Lib.byteCells] at hj; subst hj; rw [add0, World.cell?_alloc_at _ _ _ _ rfl]; rfl
          | 1, hj => simp [Lib.byteCells] at hj; subst hj; rw [add0, World.cell?_alloc_at _ _ _ _ rfl]; rfl
        case a2 => intro u hu; simp [Lib.byteCells] at hu; rcases hu with rfl | rfl <;> rfl
        case a3 => unfold maxLen; omega
        case a4 => omega
        case a5 => simp; omega
        intro v' w3 hown' hgrow _
        have hO3 := RowB.more (l := acc) (m := [13, 10]) hown'
        have hb3 : Below w.heap.size w w3 := (hb.alloc hbs _).grown hgrow (by simp; omega) (fun k hk => (World.ownsRow.lt hown1 k hk).1)
        go_wp2
        go_roundw
        case rel => exact ⟨k + 2, acc ++ [13, 10], by omega, by go_num, by simp; omega, HP.out, HA.out, hO3, hb3⟩
        case measure => simp [intOf]; omega
      | cr _ h13 hnx =>
        obtain ⟨b1, b2⟩ := bare_cr hlt h13 hnx
        have HA : Hid (normG false s.data.toList = (acc ++ [13, 10]) ++ normG (prevW s.data.toList (k + 1)) (s.data.toList.drop (k + 1))) := by show _ = _; rw [hg, (prev_bare hlt b1).1]; simp
        have HP : Hid (prevW s.data.toList (k + 1) = true → s.data.toList[k + 1]? ≠ some 10) := fun _ => b2
        have e13 := beqW_t h13 (n := 13) rfl
        rcases hnx with hnx | ⟨hnx, h10⟩
        · have d0 : decide ((k : Int) + 1 < (s.size : Int)) = false := by simp; omega
          clear hg hp h13 b1 b2
          go_wp2_with (at_builtin; refine wpList_append_own _ rfl _ _ 37 rfl w.heap.size 5 i0 (.int .u8 0) 1 1 Try.underlying37 hi hz0 hz1 hz2 rfl (by decide) _ _ _ rfl (hown1.alloc _) ⟨wr.heap.size, 0, none⟩ 2 2 (Lib.byteCells [13, 10]) rfl rfl ?b1 ?b2 ?b3 ?b4 ?b5 ?_)
          case b1 =>
            intro u v hj
            match u, hj with
            | 0, hj => simp [Lib.byteCells] at hj; subst hj; rw [add0, World.cell?_alloc_at _ _ _ _ rfl]; rfl
            | 1, hj => simp [Lib.byteCells] at hj; subst hj; rw [add0, World.cell?_alloc_at _ _ _ _ rfl]; rfl
          case b2 => intro u hu; simp [Lib.byteCells] at hu; rcases hu with rfl | rfl <;> rfl
          case b3 => unfold maxLen; omega
          case b4 => omega
          case b5 => simp; omega
          intro v' w3 hown' hgrow _
          have hO3 := RowB.more (l := acc) (m := [13, 10]) hown'
          have hb3 : Below w.heap.size w w3 := (hb.alloc hbs _).grown hgrow (by simp; omega) (fun k hk => (World.ownsRow.lt hown1 k hk).1)
          go_wp2
          go_roundw
          case rel => exact ⟨k + 1, acc ++ [13, 10], by omega, by go_num, by simp; omega, HP.out, HA.out, hO3, hb3⟩
          case measure => simp [intOf]; omega
        · have d0 : decide ((k : Int) + 1 < (s.size : Int)) = true := by simp; omega
          have e10 := beqW_f h10 (n := 10) rfl
          clear hg hp h13 b1 b2 h10
          go_wp2_with (at_builtin; refine wpList_append_own _ rfl _ _ 37 rfl w.heap.size 5 i0 (.int .u8 0) 1 1 Try.underlying37 hi hz0 hz1 hz2 rfl (by decide) _ _ _ rfl (hown1.alloc _) ⟨wr.heap.size, 0, none⟩ 2 2 (Lib.byteCells [13, 10]) rfl rfl ?c1 ?c2 ?c3 ?c4 ?c5 ?_)
          case c1 =>
            intro u v hj
            match u, hj with
            | 0, hj => simp [Lib.byteCells] at hj; subst hj; rw [add0, World.cell?_alloc_at _ _ _ _ rfl]; rfl
            | 1, hj => simp [Lib.byteCells] at hj; subst hj; rw [add0, World.cell?_alloc_at _ _ _ _ rfl]; rfl
          case c2 => intro u hu; simp [Lib.byteCells] at hu; rcases hu with rfl | rfl <;> rfl
          case c3 => unfold maxLen; omega
          case c4 => omega
          case c5 => simp; omega
          intro v' w3 hown' hgrow _
          have hO3 := RowB.more (l := acc) (m := [13, 10]) hown'
          have hb3 : Below w.heap.size w w3 := (hb.alloc hbs _).grown hgrow (by simp; omega) (fun k hk => (World.ownsRow.lt hown1 k hk).1)
          go_wp2
          go_roundw
          case rel => exact ⟨k + 1, acc ++ [13, 10], by omega, by go_num, by simp; omega, HP.out, HA.out, hO3, hb3⟩
          case measure => simp [intOf]; omega
      | nl _ h10 =>
        have b1 := bare_nl hlt h10 hp
        have HA : Hid (normG false s.data.toList = (acc ++ [13, 10]) ++ normG (prevW s.data.toList (k + 1)) (s.data.toList.drop (k + 1))) := by show _ = _; rw [hg, (prev_bare hlt b1).1]; simp
        have HP : Hid (prevW s.data.toList (k + 1) = true → s.data.toList[k + 1]? ≠ some 10) := fun h => by rw [prev_is hlt, h10] at h; cases h
        have e13 := beqW_f (c := s[k]) (d := 13) (by rw [h10]; decide) (n := 13) rfl
        have e10 := beqW_t h10 (n := 10) rfl
        clear hg hp h10 b1
        go_wp2_with (at_builtin; refine wpList_append_own _ rfl _ _ 37 rfl w.heap.size 5 i0 (.int .u8 0) 1 1 Try.underlying37 hi hz0 hz1 hz2 rfl (by decide) _ _ _ rfl (hown1.alloc _) ⟨wr.heap.size, 0, none⟩ 2 2 (Lib.byteCells [13, 10]) rfl rfl ?d1 ?d2 ?d3 ?d4 ?d5 ?_)
        case d1 =>
          intro u v hj
          match u, hj with
          | 0, hj => simp [Lib.byteCells] at hj; subst hj; rw [add0, World.cell?_alloc_at _ _ _ _ rfl]; rfl
          | 1, hj => simp [Lib.byteCells] at hj; subst hj; rw [add0, World.cell?_alloc_at _ _ _ _ rfl]; rfl
        case d2 => intro u hu; simp [Lib.byteCells] at hu; rcases hu with rfl | rfl <;> rfl
        case d3 => unfold maxLen; omega
        case d4 => omega
        case d5 => simp; omega
        intro v' w3 hown' hgrow _
        have hO3 := RowB.more (l := acc) (m := [13, 10]) hown'
        have hb3 : Below w.heap.size w w3 := (hb.alloc hbs _).grown hgrow (by simp; omega) (fun k hk => (World.ownsRow.lt hown1 k hk).1)
        go_wp2
        go_roundw
        case rel => exact ⟨k + 1, acc ++ [13, 10], by omega, by go_num, by simp; omega, HP.out, HA.out, hO3, hb3⟩
        case measure => simp [intOf]; omega
      | other _ h13 h10 =>
        have b1 := bare_other hlt h13 h10
        have HA : Hid (normG false s.data.toList = (acc ++ [s[k]]) ++ normG (prevW s.data.toList (k + 1)) (s.data.toList.drop (k + 1))) := by show _ = _; rw [hg, (prev_plain hlt b1).1]; simp
        have HP : Hid (prevW s.data.toList (k + 1) = true → s.data.toList[k + 1]? ≠ some 10) := fun h => by rw [prev_is hlt] at h; exact absurd (by simpa using h) h13
        have e13 := beqW_f h13 (n := 13) rfl
        have e10 := beqW_f h10 (n := 10) rfl
        clear hg hp h10 h13 b1
        go_wp2_with (at_builtin; refine wpList_append_own _ rfl _ _ 37 rfl w.heap.size 5 i0 (.int .u8 0) 1 1 Try.underlying37 hi hz0 hz1 hz2 rfl (by decide) _ _ _ rfl (hown1.alloc _) ⟨wr.heap.size, 0, none⟩ 1 1 (Lib.byteCells [s[k]]) rfl rfl ?e1 ?e2 ?e3 ?e4 ?e5 ?_)
        case e1 =>
          intro u v hj
          match u, hj with
          | 0, hj => simp [Lib.byteCells] at hj; subst hj; rw [add0, World.cell?_alloc_at _ _ _ _ rfl]; rfl
        case e2 => intro u hu; simp [Lib.byteCells] at hu; rcases hu with rfl; rfl
        case e3 => unfold maxLen; omega
        case e4 => omega
        case e5 => simp; omega
        intro v' w3 hown' hgrow _
        have hO3 := RowB.more (l := acc) (m := [s[k]]) hown'
        have hb3 : Below w.heap.size w w3 := (hb.alloc hbs _).grown hgrow (by simp; omega) (fun k hk => (World.ownsRow.lt hown1 k hk).1)
        go_wp2
        go_roundw
        case rel => exact ⟨k + 1, acc ++ [s[k]], by omega, by go_num, by simp; omega, HP.out, HA.out, hO3, hb3⟩
        case measure => simp [intOf]; omega
    · have HE : Hid (normG false s.data.toList = acc) := by
        show _ = _
        rw [hg, List.drop_of_length_le (by rw [size_list]; omega)]; simp [normG]
      have hback := RowB.back hown 37 9 5 Try.underlying37 Try.underlying5 Try.underlying9
      clear hg hp
      go_wp2
      go_ret
      exact ⟨ret_str (by rw [HE.out]), hb⟩
end Go.Proofs.Ytnlnkcjphioehab
