/-
  Dates: what the laws say of them as numbers. Mathematics alone: no statement is proved here.
-/
import Derived.Test.YtejplhhlecnagaaDoorDateM
namespace Go.Proofs.YtejplhhlecnagaaDoor

theorem dateAt_in {D : Dat} (h : OkDate D) {n : Int} (hn : n = secs D) : 0 ≤ n ∧ n < 4102444800 := by rw [hn]; exact h.2
theorem secs_later {y m d h mi s z : Int} : secs ⟨y, m, d, h, mi, s + 1, z⟩ = secs ⟨y, m, d, h, mi, s, z⟩ + 1 := by unfold secs clockS; simp only; omega
/-- The same time in another zone. -/
theorem zone_facts {D E : Dat} {z : Int} (h : zoneO D z = some E) : OkDate D ∧ OkDate E ∧ secs E = secs D ∧ E.z = z ∧ zoneO E D.z = some D := by
  by_cases ho : OkDate D
  · rw [zoneO_ok ho] at h
    obtain ⟨h1, h2, h3⟩ := dateO_some.1 h
    refine ⟨ho, h1, h2, h3, ?_⟩
    rw [zoneO_ok h1, h2]; exact dateO_self ho
  · rw [zoneO_no ho] at h; cases h
theorem zone_clock {D E : Dat} {z : Int} (h : zoneO D z = some E) : Shown E ∧ clockS E = secs D + z * 60 := by
  obtain ⟨h1, h2, h3, h4, _⟩ := zone_facts h
  refine ⟨h2.1, ?_⟩
  unfold secs at h3 ⊢; rw [← h4]; omega
theorem zone_shift {D E F : Dat} {z : Int} (h : zoneO D z = some E) (k : zoneO D (z + 60) = some F) : (F.h = E.h + 1 ∨ F.h = E.h - 23) ∧ F.mi = E.mi ∧ F.s = E.s := by
  obtain ⟨h1, h2⟩ := zone_clock h
  obtain ⟨k1, k2⟩ := zone_clock k
  obtain ⟨a1, a2, a3⟩ := clock_parts h1
  obtain ⟨b1, b2, b3⟩ := clock_parts k1
  generalize clockS E = X at *
  generalize clockS F = Y at *
  generalize secs D = S at *
  omega
/-- A date some seconds later, in the same zone. -/
theorem date_later {n z g : Int} {D E : Dat} (h : dateO n z = some D) (k : dateO (n + g) z = some E) : Shown D ∧ Shown E ∧ clockS E = clockS D + g := by
  obtain ⟨h1, h2, h3⟩ := dateO_some.1 h
  obtain ⟨k1, k2, k3⟩ := dateO_some.1 k
  refine ⟨h1.1, k1.1, ?_⟩
  unfold secs at h2 k2; rw [h3] at h2; rw [k3] at k2; omega
theorem date_order {n z : Int} {D E : Dat} (h : dateO n z = some D) (k : dateO (n + 3599) z = some E) :
    D.y < E.y ∨ D.mo < E.mo ∨ D.d < E.d ∨ E.h * 3600 + E.mi * 60 + E.s = D.h * 3600 + D.mi * 60 + D.s + 3599 := by
  obtain ⟨h1, k1, e⟩ := date_later h k
  by_cases c : daysB D.y D.mo D.d < daysB E.y E.mo E.d
  · rcases daysB_order h1.1 k1.1 c with c | ⟨_, c | ⟨_, c⟩⟩
    · exact .inl c
    · exact .inr (.inl c)
    · exact .inr (.inr (.inl c))
  · have a := clock_day h1
    have b := clock_day k1
    have : daysB D.y D.mo D.d = daysB E.y E.mo E.d := by rw [← a, ← b] at c ⊢; omega
    unfold clockS at e
    rw [this] at e
    exact .inr (.inr (.inr (by omega)))
/-- The day behind a day. -/
theorem date_next {D E : Dat} (h : OkDate D) (k : dateO (secs D + 86400) D.z = some E) :
    daysB E.y E.mo E.d = daysB D.y D.mo D.d + 1 ∧ okD E.y E.mo E.d ∧ E.h = D.h ∧ E.mi = D.mi ∧ E.s = D.s := by
  obtain ⟨h1, k1, e⟩ := date_later (dateO_self h) k
  have a := clock_day h1
  have b := clock_day k1
  obtain ⟨a1, a2, a3⟩ := clock_parts h1
  obtain ⟨b1, b2, b3⟩ := clock_parts k1
  rw [← a, ← b, ← a1, ← a2, ← a3, ← b1, ← b2, ← b3, e]
  refine ⟨by omega, k1.1, ?_⟩
  generalize clockS D = X at *
  omega
theorem date_next1 {D E : Dat} (h : OkDate D) (k : dateO (secs D + 86400) D.z = some E) (c : D.d < dim D.y D.mo) : E.d = D.d + 1 ∧ E.mo = D.mo ∧ E.h = D.h ∧ E.s = D.s := by
  obtain ⟨e1, e2, e3, _, e4⟩ := date_next h k
  have hd := h.1.1
  have : okD D.y D.mo (D.d + 1) := ⟨hd.1, hd.2.1, hd.2.2.1, hd.2.2.2.1, by have := hd.2.2.2.2.1; omega, by omega⟩
  obtain ⟨f1, f2, f3⟩ := daysB_inj e2 this (by rw [e1, daysB_next])
  exact ⟨f3, f2, e3, e4⟩
theorem date_next2 {D E : Dat} (h : OkDate D) (k : dateO (secs D + 86400) D.z = some E) (c : ¬ D.d < dim D.y D.mo) : E.d = 1 ∧ (E.mo = D.mo + 1 ∨ E.mo = 1 ∧ E.y = D.y + 1) := by
  obtain ⟨e1, e2, _⟩ := date_next h k
  obtain ⟨h1, h2, h3, h4, h5, h6⟩ := h.1.1
  have hd : D.d = dim D.y D.mo := by omega
  by_cases hm : D.mo = 12
  · by_cases hy : D.y = 2099
    · have := daysB_lt e2
      rw [e1, hd, hm, hy] at this
      have e : daysB 2099 12 (dim 2099 12) = 47481 := by decide +kernel
      rw [e] at this; omega
    · have : okD (D.y + 1) 1 1 := ⟨by omega, by omega, by omega, by omega, by omega, by have := dim_ge (D.y + 1) 1 ⟨by omega, by omega⟩ ⟨by omega, by omega⟩; omega⟩
      obtain ⟨f1, f2, f3⟩ := daysB_inj e2 this (by rw [e1, daysB_nextY ⟨h1, h2⟩, hd, hm])
      exact ⟨f3, .inr ⟨f2, f1⟩⟩
  · have : okD D.y (D.mo + 1) 1 := ⟨h1, h2, by omega, by omega, by omega, by have := dim_ge D.y (D.mo + 1) ⟨h1, h2⟩ ⟨by omega, by omega⟩; omega⟩
    obtain ⟨f1, f2, f3⟩ := daysB_inj e2 this (by rw [e1, daysB_nextM h3, hd])
    exact ⟨f3, .inl f2⟩
/-- Years. -/
theorem year_first {y : Int} (hy : 1970 ≤ y ∧ y ≤ 2099) : OkDate ⟨y, 1, 1, 0, 0, 0, 0⟩ ∧ secs ⟨y, 1, 1, 0, 0, 0, 0⟩ = yrs (y - 1970).toNat * 86400 := by
  have hd : okD y 1 1 := ⟨hy.1, hy.2, by omega, by omega, by omega, by have := dim_ge y 1 hy ⟨by omega, by omega⟩; omega⟩
  have e : secs ⟨y, 1, 1, 0, 0, 0, 0⟩ = yrs (y - 1970).toNat * 86400 := by
    unfold secs clockS daysB; simp only
    have : mos y ((1 : Int) - 1).toNat = 0 := rfl
    rw [this]; omega
  refine ⟨⟨⟨hd, ⟨by simp, by simp⟩, ⟨by simp, by simp⟩, ⟨by simp, by simp⟩, ⟨by simp, by simp⟩⟩, ?_⟩, e⟩
  have a := daysB_nn hd
  have b := daysB_lt hd
  have hs : Shown ⟨y, 1, 1, 0, 0, 0, 0⟩ := ⟨hd, ⟨by simp, by simp⟩, ⟨by simp, by simp⟩, ⟨by simp, by simp⟩, ⟨by simp, by simp⟩⟩
  have := clock_nn hs
  unfold secs; simp only; omega
theorem year_next {y : Int} (hy : 1970 ≤ y ∧ y ≤ 2098) : secs ⟨y + 1, 1, 1, 0, 0, 0, 0⟩ = secs ⟨y, 1, 1, 0, 0, 0, 0⟩ + ylen y * 86400 := by
  rw [(year_first (y := y + 1) ⟨by omega, by omega⟩).2, (year_first (y := y) ⟨by omega, by omega⟩).2, ← yrs_to hy.1]; omega
theorem month_last {y m : Int} (hy : 1970 ≤ y ∧ y ≤ 2099) (hm : 1 ≤ m ∧ m ≤ 12) : OkDate ⟨y, m, dim y m, 0, 0, 0, 0⟩ ∧ ¬ OkDate ⟨y, m, dim y m + 1, 0, 0, 0, 0⟩ := by
  have hd : okD y m (dim y m) := ⟨hy.1, hy.2, hm.1, hm.2, by have := dim_ge y m hy hm; omega, Int.le_refl _⟩
  have hs : Shown ⟨y, m, dim y m, 0, 0, 0, 0⟩ := ⟨hd, ⟨by simp, by simp⟩, ⟨by simp, by simp⟩, ⟨by simp, by simp⟩, ⟨by simp, by simp⟩⟩
  refine ⟨⟨hs, ?_⟩, fun h => ?_⟩
  · have := clock_nn hs
    unfold secs; simp only; omega
  · have : dim y m + 1 ≤ dim y m := h.1.1.2.2.2.2.2
    omega
theorem year_sum {y : Int} (hy : 1970 ≤ y ∧ y ≤ 2099) : mos y 12 = 365 ∨ mos y 12 = 366 ∧ dim y 2 = 29 := by
  rw [mos_year hy]
  unfold ylen
  by_cases c : Leap y
  · rw [if_pos c]; exact .inr ⟨rfl, by unfold dim; rw [if_neg (by omega), if_pos rfl, if_pos c]⟩
  · rw [if_neg c]; exact .inl rfl
end Go.Proofs.YtejplhhlecnagaaDoor
