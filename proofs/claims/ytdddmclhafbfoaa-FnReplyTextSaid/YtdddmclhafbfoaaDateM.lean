/-
  Dates as numbers: the calendar from 1970 to 2099, days and seconds, and back. Mathematics alone: no statement is proved here.
-/
import Derived.Test.YtdddmclhafbfoaaBase
namespace Go.Proofs.Ytdddmclhafbfoaa

/-- A date as its seven numbers. -/
structure Dat where
  y : Int
  mo : Int
  d : Int
  h : Int
  mi : Int
  s : Int
  z : Int
theorem Dat.ext' {a b : Dat} (h1 : a.y = b.y) (h2 : a.mo = b.mo) (h3 : a.d = b.d) (h4 : a.h = b.h) (h5 : a.mi = b.mi) (h6 : a.s = b.s) (h7 : a.z = b.z) : a = b := by
  cases a; cases b; simp_all
def dat0 : Dat := ⟨0, 0, 0, 0, 0, 0, 0⟩
/-- Whether a year has a day more. -/
def Leap (y : Int) : Prop := y % 4 = 0 ∧ (¬ y % 100 = 0 ∨ y % 400 = 0)
instance (y : Int) : Decidable (Leap y) := by unfold Leap; exact inferInstance
/-- The days of a year. -/
def ylen (y : Int) : Int := if Leap y then 366 else 365
/-- The days of a month. -/
def dim (y m : Int) : Int :=
  if y < 1970 ∨ 2099 < y ∨ m < 1 ∨ 12 < m then 0 else if m = 2 then (if Leap y then 29 else 28) else if m = 4 ∨ m = 6 ∨ m = 9 ∨ m = 11 then 30 else 31
theorem dim_out {y m : Int} (h : y < 1970 ∨ 2099 < y ∨ m < 1 ∨ 12 < m) : dim y m = 0 := by unfold dim; rw [if_pos h]
theorem dim_ge (y m : Int) (hy : 1970 ≤ y ∧ y ≤ 2099) (hm : 1 ≤ m ∧ m ≤ 12) : 28 ≤ dim y m := by
  unfold dim; rw [if_neg (by omega)]; split <;> split <;> omega
theorem dim_le (y m : Int) : dim y m ≤ 31 := by unfold dim; split <;> (try split) <;> (try split) <;> omega
theorem dim_nn (y m : Int) : 0 ≤ dim y m := by unfold dim; split <;> (try split) <;> (try split) <;> omega
theorem dim_pos {y m : Int} (h : 0 < dim y m) : 1970 ≤ y ∧ y ≤ 2099 ∧ 1 ≤ m ∧ m ≤ 12 := by
  by_cases c : y < 1970 ∨ 2099 < y ∨ m < 1 ∨ 12 < m
  · rw [dim_out c] at h; omega
  · omega
theorem ylen_ge (y : Int) : 365 ≤ ylen y := by unfold ylen; split <;> omega
theorem ylen_le (y : Int) : ylen y ≤ 366 := by unfold ylen; split <;> omega
/-- The days of the first k years from 1970 on. -/
def yrs : Nat → Int
  | 0 => 0
  | k + 1 => yrs k + ylen (1970 + k)
/-- The days of the first k months of a year. -/
def mos (y : Int) : Nat → Int
  | 0 => 0
  | k + 1 => mos y k + dim y (k + 1)
theorem mos_succ (y : Int) (k : Nat) : mos y (k + 1) = mos y k + dim y ((k : Int) + 1) := rfl
theorem yrs_succ (k : Nat) : yrs (k + 1) = yrs k + ylen (1970 + k) := rfl
theorem mos_year {y : Int} (hy : 1970 ≤ y ∧ y ≤ 2099) : mos y 12 = ylen y := by
  by_cases c : Leap y <;> simp [mos, dim, ylen, c] <;> omega
theorem mos_nn (y : Int) (k : Nat) : 0 ≤ mos y k := by
  induction k with
  | zero => exact Int.le_refl _
  | succ k ih => rw [mos_succ]; have := dim_nn y (k + 1); omega
theorem mos_mono (y : Int) {a b : Nat} (h : a ≤ b) : mos y a ≤ mos y b := by
  induction h with
  | refl => exact Int.le_refl _
  | step _ ih => rw [mos_succ]; rename_i m _; have := dim_nn y (m + 1); omega
theorem yrs_mono {a b : Nat} (h : a ≤ b) : yrs a ≤ yrs b := by
  induction h with
  | refl => exact Int.le_refl _
  | step _ ih => rw [yrs_succ]; rename_i m _; have := ylen_ge (1970 + m); omega
theorem yrs_nn (k : Nat) : 0 ≤ yrs k := yrs_mono (Nat.zero_le k)
theorem yrs_all : yrs 130 = 47482 := by decide +kernel
theorem yrs_le (k : Nat) : yrs k ≤ 366 * k := by
  induction k with
  | zero => exact Int.le_refl _
  | succ k ih => rw [yrs_succ]; have := ylen_le (1970 + k); omega
/-- A day of the calendar. -/
def okD (y m d : Int) : Prop := 1970 ≤ y ∧ y ≤ 2099 ∧ 1 ≤ m ∧ m ≤ 12 ∧ 1 ≤ d ∧ d ≤ dim y m
instance (y m d : Int) : Decidable (okD y m d) := by unfold okD; exact inferInstance
theorem okD_of {y m d : Int} (h1 : 1 ≤ d) (h2 : d ≤ dim y m) : okD y m d := by
  obtain ⟨a, b, c, e⟩ := dim_pos (y := y) (m := m) (by omega)
  exact ⟨a, b, c, e, h1, h2⟩
/-- How many days come before a day. -/
def daysB (y m d : Int) : Int := yrs (y - 1970).toNat + mos y (m - 1).toNat + (d - 1)
/-- The days of a year up to and with a month. -/
theorem mos_to {y m : Int} (hm : 1 ≤ m) : mos y (m - 1).toNat + dim y m = mos y m.toNat := by
  rw [show m.toNat = (m - 1).toNat + 1 by omega, mos_succ, show (((m - 1).toNat : Nat) : Int) + 1 = m by omega]
theorem yrs_to {y : Int} (hy : 1970 ≤ y) : yrs (y - 1970).toNat + ylen y = yrs (y + 1 - 1970).toNat := by
  rw [show (y + 1 - 1970).toNat = (y - 1970).toNat + 1 by omega, yrs_succ, show (1970 : Int) + ((y - 1970).toNat : Nat) = y by omega]
theorem in_year {y m d : Int} (h : okD y m d) : 0 ≤ mos y (m - 1).toNat + (d - 1) ∧ mos y (m - 1).toNat + (d - 1) < ylen y := by
  obtain ⟨h1, h2, h3, h4, h5, h6⟩ := h
  have a := mos_nn y (m - 1).toNat
  have b := mos_to (y := y) h3
  have c := mos_mono y (a := m.toNat) (b := 12) (by omega)
  rw [mos_year ⟨h1, h2⟩] at c
  omega
theorem daysB_nn {y m d : Int} (h : okD y m d) : 0 ≤ daysB y m d := by
  have := in_year h; have := yrs_nn (y - 1970).toNat; unfold daysB; omega
theorem daysB_lt {y m d : Int} (h : okD y m d) : daysB y m d < 47482 := by
  have a := in_year h
  have b := yrs_to (y := y) h.1
  have c := yrs_mono (a := (y + 1 - 1970).toNat) (b := 130) (by have := h.2.1; omega)
  rw [yrs_all] at c
  unfold daysB; omega
theorem daysB_year {y m d y' m' d' : Int} (h : okD y m d) (h' : okD y' m' d') (c : y < y') : daysB y m d < daysB y' m' d' := by
  have a := in_year h
  have a' := in_year h'
  have b := yrs_to (y := y) h.1
  have k := yrs_mono (a := (y + 1 - 1970).toNat) (b := (y' - 1970).toNat) (by omega)
  unfold daysB; omega
theorem daysB_month {y m d m' d' : Int} (h : okD y m d) (h' : okD y m' d') (c : m < m') : daysB y m d < daysB y m' d' := by
  obtain ⟨h1, h2, h3, h4, h5, h6⟩ := h
  obtain ⟨_, _, g3, g4, g5, g6⟩ := h'
  have b := mos_to (y := y) h3
  have k := mos_mono y (a := m.toNat) (b := (m' - 1).toNat) (by omega)
  unfold daysB; omega
/-- A later day is later by its year, its month or its day. -/
theorem daysB_order {y m d y' m' d' : Int} (h : okD y m d) (h' : okD y' m' d') (c : daysB y m d < daysB y' m' d') : y < y' ∨ y = y' ∧ (m < m' ∨ m = m' ∧ d < d') := by
  rcases Int.lt_trichotomy y y' with e | e | e
  · exact .inl e
  · subst e
    rcases Int.lt_trichotomy m m' with e | e | e
    · exact .inr ⟨rfl, .inl e⟩
    · subst e; unfold daysB at c; exact .inr ⟨rfl, .inr ⟨rfl, by omega⟩⟩
    · have := daysB_month h' h e; omega
  · have := daysB_year h' h e; omega
theorem daysB_inj {y m d y' m' d' : Int} (h : okD y m d) (h' : okD y' m' d') (c : daysB y m d = daysB y' m' d') : y = y' ∧ m = m' ∧ d = d' := by
  rcases Int.lt_trichotomy y y' with e | e | e
  · have := daysB_year h h' e; omega
  · subst e
    rcases Int.lt_trichotomy m m' with e | e | e
    · have := daysB_month h h' e; omega
    · subst e; unfold daysB at c; exact ⟨rfl, rfl, by omega⟩
    · have := daysB_month h' h e; omega
  · have := daysB_year h' h e; omega
theorem daysB_next {y m d : Int} : daysB y m (d + 1) = daysB y m d + 1 := by unfold daysB; omega
theorem daysB_nextM {y m : Int} (hm : 1 ≤ m) : daysB y (m + 1) 1 = daysB y m (dim y m) + 1 := by
  unfold daysB
  have := mos_to (y := y) hm
  rw [show m + 1 - 1 = m by omega]; omega
theorem daysB_nextY {y : Int} (hy : 1970 ≤ y ∧ y ≤ 2099) : daysB (y + 1) 1 1 = daysB y 12 (dim y 12) + 1 := by
  unfold daysB
  have a := yrs_to hy.1
  have b := mos_to (y := y) (m := 12) (by omega)
  have c := mos_year hy
  have d : mos (y + 1) ((1 : Int) - 1).toNat = 0 := rfl
  rw [show (12 : Int).toNat = 12 from rfl] at b
  omega

/-- What a clock and a calendar show. -/
def Shown (D : Dat) : Prop := okD D.y D.mo D.d ∧ (0 ≤ D.h ∧ D.h ≤ 23) ∧ (0 ≤ D.mi ∧ D.mi ≤ 59) ∧ (0 ≤ D.s ∧ D.s ≤ 59) ∧ (-720 ≤ D.z ∧ D.z ≤ 840)
instance (D : Dat) : Decidable (Shown D) := by unfold Shown; exact inferInstance
/-- The seconds that the clock shows, and those of Greenwich. -/
def clockS (D : Dat) : Int := daysB D.y D.mo D.d * 86400 + D.h * 3600 + D.mi * 60 + D.s
def secs (D : Dat) : Int := clockS D - D.z * 60
/-- Valid dates. -/
def OkDate (D : Dat) : Prop := Shown D ∧ 0 ≤ secs D ∧ secs D < 4102444800
instance (D : Dat) : Decidable (OkDate D) := by unfold OkDate; exact inferInstance
/-- Whether a date is valid; its seconds, or 0. -/
def okDB (D : Dat) : Bool := decide (OkDate D)
def secR (D : Dat) : Int := if OkDate D then secs D else 0
theorem secR_ok {D : Dat} (h : OkDate D) : secR D = secs D := if_pos h
theorem secR_no {D : Dat} (h : ¬ OkDate D) : secR D = 0 := if_neg h
theorem okDB_ok {D : Dat} (h : OkDate D) : okDB D = true := decide_eq_true h
theorem okDB_no {D : Dat} (h : ¬ OkDate D) : okDB D = false := decide_eq_false h
theorem clock_nn {D : Dat} (h : Shown D) : 0 ≤ clockS D ∧ clockS D < 4102444800 := by
  have a := daysB_nn h.1
  have b := daysB_lt h.1
  obtain ⟨_, h2, h3, h4, _⟩ := h
  unfold clockS; omega
theorem clock_day {D : Dat} (h : Shown D) : clockS D / 86400 = daysB D.y D.mo D.d := by
  obtain ⟨_, h2, h3, h4, _⟩ := h
  unfold clockS; omega
theorem clock_parts {D : Dat} (h : Shown D) : clockS D % 86400 / 3600 = D.h ∧ clockS D % 3600 / 60 = D.mi ∧ clockS D % 60 = D.s := by
  obtain ⟨_, h2, h3, h4, _⟩ := h
  unfold clockS; omega
theorem clock_inj {D E : Dat} (h : Shown D) (k : Shown E) (hz : D.z = E.z) (hs : clockS D = clockS E) : D = E := by
  have a := clock_day h
  have b := clock_day k
  have c := clock_parts h
  have d := clock_parts k
  rw [hs] at a c
  obtain ⟨e1, e2, e3⟩ := daysB_inj h.1 k.1 (a.symm.trans b)
  exact Dat.ext' e1 e2 e3 (c.1.symm.trans d.1) (c.2.1.symm.trans d.2.1) (c.2.2.symm.trans d.2.2) hz
/-- The date of some seconds in a zone. -/
def DateAt (n z : Int) (D : Dat) : Prop := OkDate D ∧ secs D = n ∧ D.z = z
theorem dateAt_inj {n z : Int} {D E : Dat} (h : DateAt n z D) (k : DateAt n z E) : D = E := by
  obtain ⟨h1, h2, h3⟩ := h
  obtain ⟨k1, k2, k3⟩ := k
  refine clock_inj h1.1 k1.1 (h3.trans k3.symm) ?_
  unfold secs at h2 k2; omega
open Classical in
noncomputable def dateO (n z : Int) : Option Dat := if h : ∃ D, DateAt n z D then some h.choose else none
noncomputable def dateR (n z : Int) : Dat := (dateO n z).getD dat0
theorem dateO_some {n z : Int} {D : Dat} : dateO n z = some D ↔ DateAt n z D := by
  unfold dateO
  constructor
  · intro h
    split at h
    · rename_i k; injection h with h; rw [← h]; exact k.choose_spec
    · cases h
  · intro h
    rw [dif_pos ⟨D, h⟩]
    have k : ∃ D, DateAt n z D := ⟨D, h⟩
    exact congrArg some (dateAt_inj k.choose_spec h)
theorem dateO_none {n z : Int} : dateO n z = none ↔ ¬ ∃ D, DateAt n z D := by
  unfold dateO
  constructor
  · intro h
    split at h
    · cases h
    · assumption
  · intro h; rw [dif_neg h]
theorem dateO_self {D : Dat} (h : OkDate D) : dateO (secs D) D.z = some D := dateO_some.2 ⟨h, rfl, rfl⟩
theorem dateR_some {n z : Int} {D : Dat} (h : dateO n z = some D) : dateR n z = D := by unfold dateR; rw [h]; rfl
theorem dateR_none {n z : Int} (h : dateO n z = none) : dateR n z = dat0 := by unfold dateR; rw [h]; rfl
/-- When there is such a date. -/
theorem dateO_need {n z : Int} {D : Dat} (h : DateAt n z D) : (0 ≤ n ∧ n < 4102444800) ∧ (-720 ≤ z ∧ z ≤ 840) ∧ 0 ≤ n + z * 60 ∧ n + z * 60 < 4102444800 ∧ clockS D = n + z * 60 := by
  obtain ⟨h1, h2, h3⟩ := h
  have a := clock_nn h1.1
  have b := h1.1.2.2.2.2
  have c := h1.2
  rw [h2] at c
  rw [h3] at b
  unfold secs at h2
  rw [h3] at h2
  exact ⟨c, b, by omega, by omega, by omega⟩
theorem dateAt_mk {n z y m d : Int} (hn : 0 ≤ n ∧ n < 4102444800) (hz : -720 ≤ z ∧ z ≤ 840) (hd : okD y m d) (he : daysB y m d = (n + z * 60) / 86400) :
    DateAt n z ⟨y, m, d, (n + z * 60) % 86400 / 3600, (n + z * 60) % 3600 / 60, (n + z * 60) % 60, z⟩ := by
  have e : secs ⟨y, m, d, (n + z * 60) % 86400 / 3600, (n + z * 60) % 3600 / 60, (n + z * 60) % 60, z⟩ = n := by
    unfold secs clockS; simp only; rw [he]; omega
  refine ⟨⟨⟨hd, ?_, ?_, ?_, hz⟩, ?_⟩, e, rfl⟩
  · simp only; omega
  · simp only; omega
  · simp only; omega
  · rw [e]; exact hn
/-- The same time in another zone. -/
noncomputable def zoneO (D : Dat) (z : Int) : Option Dat := if OkDate D then dateO (secs D) z else none
noncomputable def zoneR (D : Dat) (z : Int) : Dat := (zoneO D z).getD dat0
theorem zoneO_ok {D : Dat} (h : OkDate D) (z : Int) : zoneO D z = dateO (secs D) z := if_pos h
theorem zoneO_no {D : Dat} (h : ¬ OkDate D) (z : Int) : zoneO D z = none := if_neg h
theorem zoneR_ok {D : Dat} (h : OkDate D) (z : Int) : zoneR D z = dateR (secs D) z := by unfold zoneR dateR; rw [zoneO_ok h]
theorem zoneR_no {D : Dat} (h : ¬ OkDate D) (z : Int) : zoneR D z = dat0 := by unfold zoneR; rw [zoneO_no h]; rfl
end Go.Proofs.Ytdddmclhafbfoaa
