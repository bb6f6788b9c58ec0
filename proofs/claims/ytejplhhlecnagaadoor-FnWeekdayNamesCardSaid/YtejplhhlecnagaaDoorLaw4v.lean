/-
  FnWeekdayNames: the law's walk. For every input of the law: it returns true, and the input reads as it did. Conditions: none but the statement's own.
-/
import Derived.Test.YtejplhhlecnagaaDoorLaw0w
import Derived.Test.YtejplhhlecnagaaDoorDrawE
import Derived.Test.YtejplhhlecnagaaDoorDateQ
import Derived.Test.YtejplhhlecnagaaDoorDateN
import Derived.Test.YtejplhhlecnagaaDoorOwn
namespace Go.Proofs.YtejplhhlecnagaaDoor
open Go.ChangeShapes Go.WideShapes Go.ChangeAt Go.RowKit
open Go.ChangeMaps (open_string shut_string)

/-- The names of some days, one after the other. -/
def days (n : Int) (k : Nat) : List (List UInt8) := (List.range k).map fun (j : Nat) => wdN (n + j)
theorem days_len (n : Int) (k : Nat) : (days n k).length = k := by unfold days; simp
theorem days_at (n : Int) (k j : Nat) (h : j < (days n k).length) : (days n k)[j] = wdN (n + j) := by simp only [days, List.getElem_map, List.getElem_range]
theorem own_days {B : Nat} {v : Value} {n : Int} {k : Nat} {w : World} (h : OwnL B v (days n k) w) : ∃ a c, v = .slice a k c ∧ RdL w a k (days n k) ∧ k ≤ maxLen := by
  obtain ⟨a, c, h1, h2, h3⟩ := h.read
  rw [days_len] at h1 h2 h3
  exact ⟨a, c, h1, h2, h3⟩
theorem days_later {D E : Dat} {k : Int} (h : OkDate D) (e : dateO (secs D + k * 86400) D.z = some E) : OkDate E ∧ daysB E.y E.mo E.d = daysB D.y D.mo D.d + k := by
  obtain ⟨h1, k1, h2⟩ := date_later (dateO_self h) e
  have a := clock_day h1
  have b := clock_day k1
  refine ⟨(dateO_some.1 e).1, ?_⟩
  rw [← a, ← b, h2]; omega
theorem str_inj {l k : List UInt8} (h : str l = str k) : l = k := by rw [← str_list l, h, str_list]
theorem emp_f {b : ByteArray} (h : 0 < b.size) : b.toList.isEmpty = false := by
  rw [ByteArray.toList_eq, List.isEmpty_eq_false_iff]
  intro c
  have : b.data.toList.length = b.size := rfl
  rw [c] at this; simp at this; omega
theorem str_ne_beq {l k : List UInt8} (h : l ≠ k) : ((str l).toList == (str k).toList) = false := by
  rw [beq_dec, decide_eq_false_iff_not]; exact fun c => h (str_inj c)
theorem dateOf_opt (n z : Int) : ∃ (q : Bool) (e0 e1 e2 e3 e4 e5 e6 : Int), (∀ u : World, Calls Tryd.prog 13 #[.int .i64 n, .int .i64 z] u fun e w' => e = .returned (.tuple #[.agg #[.int .i64 e0, .int .i64 e1, .int .i64 e2, .int .i64 e3, .int .i64 e4, .int .i64 e5, .int .i64 e6], .bool q]) ∧ Below u.heap.size u w') ∧ (q = true → dateO n z = some ⟨e0, e1, e2, e3, e4, e5, e6⟩) := by
  cases hO : dateO n z with
  | none => exact ⟨false, 0, 0, 0, 0, 0, 0, 0, dateOf_none hO, fun h => by cases h⟩
  | some D => exact ⟨true, D.y, D.mo, D.d, D.h, D.mi, D.s, D.z, dateOf_some hO, fun _ => rfl⟩
set_option maxRecDepth 100000 in
set_option maxHeartbeats 4000000 in
theorem fnWeekdayNames_walk (a : Option Addr) (n c : Nat) (w : World) (tab : WTab w) (hc : Code w a n) (hnc : n ≤ c) (hm : c ≤ maxLen) :
    Calls Tryd.prog 7 #[.slice a n c] w fun e w' => e = .returned (.bool true) ∧ Below w.heap.size w w' := by
  have HTAB := Lib.hid tab
  clear tab
  have hm' := hm
  unfold maxLen at hm'
  by_cases hn : 1048576 < n
  · have hd : decide ((1048576 : Int) < n) = true := by simp; omega
    go_enter Tryd.func7, Tryd.ntmps7
    go_wp2
    go_ret
    exact ⟨rfl, Below.refl _ _⟩
  · have hd : decide ((1048576 : Int) < n) = false := by simp; omega
    go_enter Tryd.func7, Tryd.ntmps7
    go_wp2_with fail
    refine (dDrawWeekdayOf_any a n c w hc hnc hm).mono ?_
    rintro e w1 ⟨D, rfl, hsm, hb1⟩
    obtain ⟨y, m, d, h, mi, s, z⟩ := D
    unfold datV
    simp only
    have HB1 := Lib.hid hb1
    obtain ⟨j0, j1, j2, j3, j4, j5, j6⟩ := hsm
    unfold Sm at j0 j1 j2 j3 j4 j5 j6
    simp only at j0 j1 j2 j3 j4 j5 j6
    clear hb1
    have HW1 := Lib.hid (fun u t => weekdayOf_any ⟨y, m, d, h, mi, s, z⟩ u t)
    have HW2 := Lib.hid (fun u => weekdayOfS_any ⟨y, m, d, h, mi, s, z⟩ u)
    by_cases hok : OkDate ⟨y, m, d, h, mi, s, z⟩
    · have H1 := Lib.hid (secondsOf_ok hok)
      have hN := dateAt_in hok rfl
      have HL : Hid (∀ (k : Int) (E : Dat), dateO (secs ⟨y, m, d, h, mi, s, z⟩ + k * 86400) z = some E → wdayF E = wdN (daysB y m d + k)) := fun k E e => by
        obtain ⟨h1, h2⟩ := days_later hok e
        rw [wdayF_ok h1]; unfold wdayT; rw [h2]
      have h3 : (wdayF ⟨y, m, d, h, mi, s, z⟩).length = 3 := by rw [wdayF_ok hok]; exact wdN_len _
      generalize secs ⟨y, m, d, h, mi, s, z⟩ = N at *
      generalize wdayF ⟨y, m, d, h, mi, s, z⟩ = X at *
      generalize daysB y m d = DD at *
      have g0 : (str X).toList.isEmpty = false := emp_f (by rw [str_size]; omega)
      have g1 : ((str X).toList == (str X).toList) = true := by simp
      clear hok h3
      go_wp2_with fail
      refine (HW1.out _ (HTAB.out.below (nx HB1.out (laid7_below y m d h mi s z 24 w1)))).mono ?_
      rintro e w2 ⟨rfl, hb2⟩
      have hs1 := (nx (laid7_below y m d h mi s z 24 w1) hb2)
      have L0_1 := Lib.hid ((laid7_new y m d h mi s z 24 w1).below hb2)
      have HT1 := Lib.hid (nx HB1.out hs1)
      clear hs1
      obtain ⟨c00, c01, c02, c03, c04, c05, c06⟩ := L0_1.out
      have hl0 := lt_of_cell c00
      simp only at c00 c01 c02 c03 c04 c05 c06
      go_wp2_with fail
      refine (HW2.out _).mono ?_
      rintro e w3 ⟨rfl, hb3⟩
      have hs2 := hb3
      have L0_2 := Lib.hid (L0_1.out.below hs2)
      have HT2 := Lib.hid (nx HT1.out hs2)
      clear hs2
      clear c00 c01 c02 c03 c04 c05 c06 hl0
      obtain ⟨c00, c01, c02, c03, c04, c05, c06⟩ := L0_2.out
      have hl0 := lt_of_cell c00
      simp only at c00 c01 c02 c03 c04 c05 c06
      go_wp2_with fail
      refine (H1.out _).mono ?_
      rintro e w4 ⟨rfl, hb4⟩
      have hs3 := hb4
      have L0_3 := Lib.hid (L0_2.out.below hs3)
      have HT3 := Lib.hid (nx HT2.out hs3)
      clear hs3
      clear c00 c01 c02 c03 c04 c05 c06 hl0
      obtain ⟨c00, c01, c02, c03, c04, c05, c06⟩ := L0_3.out
      have hl0 := lt_of_cell c00
      simp only at c00 c01 c02 c03 c04 c05 c06
      obtain ⟨i0, hi, hz0, hz1, hz2⟩ := info_parts7 sInfo
      clear g0 g1 c00 c01 c02 c03 c04 c05 c06 hl0
      go_wp2_with fail
      go_loopw [7, 8] (fun v i wr => ∃ k : Nat, k ≤ 7 ∧ i = .int .i64 k ∧ OwnL w4.heap.size v (days DD k) wr ∧ Below w4.heap.size w4 wr) (fun _ i _ => 7 - (intOf i).toNat)
      case atStart => exact ⟨0, by omega, rfl, OwnL.empty w4, (Below.refl _ _).alloc (Nat.le_refl _) _⟩
      case round =>
        obtain ⟨k, hk, rfl, hown, hbr⟩ := hrel
        obtain ⟨sa, sc, rfl, hrd, hmx⟩ := own_days hown
        have hbrs := hbr.size
        obtain ⟨c00, c01, c02, c03, c04, c05, c06⟩ := L0_3.out.below hbr
        simp only at c00 c01 c02 c03 c04 c05 c06
        by_cases hlt : k < 7
        · obtain ⟨q, e0, e1, e2, e3, e4, e5, e6, H4, k4⟩ := dateOf_opt (N + (k : Int) * 86400) z
          have HF : Hid (q = true → wdayF ⟨e0, e1, e2, e3, e4, e5, e6⟩ = wdN (DD + k)) := fun e => HL.out k _ (k4 e)
          have HW3 := Lib.hid (fun u t => weekdayOf_any ⟨e0, e1, e2, e3, e4, e5, e6⟩ u t)
          have HH4 := Lib.hid H4
          clear H4 k4
          go_wp2_with fail
          refine (HH4.out _).mono ?_
          rintro e w6 ⟨rfl, hb6⟩
          have HB6 := Lib.hid (nx HT3.out (nx hbr hb6))
          cases q
          · have HE := Lib.hid (nx HB6.out (laid7_below e0 e1 e2 e3 e4 e5 e6 24 w6))
            go_wp2
            go_ret
            exact ⟨rfl, HE.out⟩
          · have HX := HF.out (by first | rfl | trivial)
            rw [HX] at HW3
            clear HX HF
            go_wp2_with fail
            refine (HW3.out _ (HTAB.out.below (nx HB6.out (laid7_below e0 e1 e2 e3 e4 e5 e6 24 w6)))).mono ?_
            rintro e w7 ⟨rfl, hb7⟩
            have hb67 := nx hb6 (nx (laid7_below e0 e1 e2 e3 e4 e5 e6 24 w6) hb7)
            have hown7 := hown.keep hb67
            have hrd7 := hrd.below hb67
            have HB7 := Lib.hid (hbr.trans (hb67.mono hbrs))
            have hsz7 := HB7.out.size
            have HDIFF : Hid (∀ j : Nat, j < k → ((str (wdN (DD + j))).toList == (str (wdN (DD + k))).toList) = false) := fun j hj => str_ne_beq (fun c => by have := wdN_inj c; omega)
            have HRD := Lib.hid hrd7
            have HSN : Hid (days DD (k + 1) = days DD k ++ [(str (wdN (DD + k))).data.toList]) := by show _ = _; rw [str_list]; unfold days; rw [List.range_succ, List.map_append]; rfl
            clear c00 c01 c02 c03 c04 c05 c06 hb6 hb7 hrd hown hbr hrd7
            generalize hNM : str (wdN (DD + (k : Int))) = NM at *
            clear hNM
            go_wp2_with fail
            go_loop [12] (fun jj => ∃ j : Nat, j ≤ k ∧ jj = .int .i64 j) (fun jj => k - (intOf jj).toNat)
            case atStart => exact ⟨0, by omega, rfl⟩
            case round =>
              obtain ⟨j, hj, rfl⟩ := hrel
              by_cases hjk : j < k
              · obtain ⟨b, off, rfl, hbl, hcell⟩ := HRD.out.2.resolve_left (by omega)
                have hx := hcell j (by rw [days_len]; exact hjk)
                have hd := HDIFF.out j hjk
                rw [days_at] at hx
                generalize str (wdN (DD + (j : Int))) = XJ at *
                clear hcell
                go_wp2
                go_round
                case rel => exact ⟨j + 1, by omega, by go_num⟩
                case measure => simp [intOf]; omega
              · have hown1 := hown7
                unfold OwnL at hown1
                go_wp2_with (at_builtin; refine wpList_append_own _ rfl _ _ 35 rfl w4.heap.size 9 i0 (.string ⟨#[]⟩) 1 16 Tryd.underlying35 hi hz0 hz1 hz2 rfl (by decide) _ _ _ rfl (hown1.alloc _) ⟨w7.heap.size, 0, none⟩ 1 1 [.string NM] rfl rfl ?c1 ?c2 ?c3 ?c4 ?c5 ?_)
                case c2 => first | rfl | (intro u hu; simp at hu; subst hu; rfl)
                case c3 => unfold maxLen; have := days_len DD k; omega
                case c4 => have := days_len DD k; omega
                case c5 => have := days_len DD k; first | omega | (simp; omega)
                intro v' w8 hown' hgrow _
                have hO3 : OwnL w4.heap.size v' (days DD (k + 1)) w8 := by rw [HSN.out]; exact own_snoc hown'
                have hb8 : Below w4.heap.size w7 w8 := ((Below.refl _ _).alloc (by omega) _).grown hgrow (by simp; omega) (fun k hk => (hown1.lt k hk).1)
                go_wp2
                go_roundw
                case rel => exact ⟨k + 1, by omega, by go_num, hO3, HB7.out.trans hb8⟩
                case measure => simp [intOf]; omega
        · have h7 : k = 7 := by omega
          subst h7
          have HE := Lib.hid (nx HT3.out hbr)
          go_wp2
          go_ret
          exact ⟨rfl, HE.out⟩
    · rw [wdayF_no hok] at HW1 HW2
      have g0 : str [] = (⟨#[]⟩ : ByteArray) := rfl
      rw [g0] at HW1 HW2
      clear hok g0
      go_wp2_with fail
      refine (HW1.out _ (HTAB.out.below (nx HB1.out (laid7_below y m d h mi s z 24 w1)))).mono ?_
      rintro e w2 ⟨rfl, hb2⟩
      have hs1 := (nx (laid7_below y m d h mi s z 24 w1) hb2)
      have L0_1 := Lib.hid ((laid7_new y m d h mi s z 24 w1).below hb2)
      have HT1 := Lib.hid (nx HB1.out hs1)
      clear hs1
      obtain ⟨c00, c01, c02, c03, c04, c05, c06⟩ := L0_1.out
      have hl0 := lt_of_cell c00
      simp only at c00 c01 c02 c03 c04 c05 c06
      go_wp2_with fail
      refine (HW2.out _).mono ?_
      rintro e w3 ⟨rfl, hb3⟩
      have hs2 := hb3
      have L0_2 := Lib.hid (L0_1.out.below hs2)
      have HT2 := Lib.hid (nx HT1.out hs2)
      clear hs2
      clear c00 c01 c02 c03 c04 c05 c06 hl0
      obtain ⟨c00, c01, c02, c03, c04, c05, c06⟩ := L0_2.out
      have hl0 := lt_of_cell c00
      simp only at c00 c01 c02 c03 c04 c05 c06
      go_wp2_with fail
      refine (HW2.out _).mono ?_
      rintro e w4 ⟨rfl, hb4⟩
      have hs3 := hb4
      have L0_3 := Lib.hid (L0_2.out.below hs3)
      have HT3 := Lib.hid (nx HT2.out hs3)
      clear hs3
      clear c00 c01 c02 c03 c04 c05 c06 hl0
      obtain ⟨c00, c01, c02, c03, c04, c05, c06⟩ := L0_3.out
      have hl0 := lt_of_cell c00
      simp only at c00 c01 c02 c03 c04 c05 c06
      have HEND := Lib.hid HT3.out
      go_wp2
      go_ret
      exact ⟨rfl, HEND.out⟩
end Go.Proofs.YtejplhhlecnagaaDoor
