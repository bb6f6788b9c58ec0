/-
  Lines of fields, read: what the model's functions return. No statement is proved here.
-/
import Derived.Test.YtfjpajeipihlaaaDoorReadL
import Derived.Test.YtfjpajeipihlaaaDoorFldS
import Derived.Deep.RegionWith
import Derived.Deep.RegionHeld3
import Derived.BigRegion
namespace Go.Proofs.YtfjpajeipihlaaaDoor
open Go.RowKit

theorem ext_sizeF (s : ByteArray) (a b : Nat) : (s.extract a b).size ≤ s.size := by rw [ByteArray.size_extract]; omega
theorem cutAt_here (s : ByteArray) (c : UInt8) (k : Nat) (hk : k < s.size) (h : s[k] = c) (hall : ∀ j, j < k → (hj : j < s.size) → s[j] ≠ c) : cutAt c s.data.toList = some (s.data.toList.take k, s.data.toList.drop (k + 1)) := by
  have hl := size_list s
  have e : s.data.toList = s.data.toList.take k ++ c :: s.data.toList.drop (k + 1) := by
    conv => lhs; rw [← List.take_append_drop k s.data.toList]
    rw [List.drop_eq_getElem_cons (by rw [hl]; exact hk)]
    congr 2
  have h2 := cutAt_hit (c := c) (a := s.data.toList.take k) (s.data.toList.drop (k + 1)) (fun x hx => by
    obtain ⟨j, hj, rfl⟩ := List.getElem_of_mem hx
    rw [List.length_take] at hj
    rw [List.getElem_take]
    exact hall j (by omega) (by omega))
  rw [← e] at h2; exact h2
theorem cutAt_nowhere (s : ByteArray) (c : UInt8) (hall : ∀ j, (hj : j < s.size) → s[j] ≠ c) : cutAt c s.data.toList = none :=
  cutAt_none (fun x hx => by
    obtain ⟨j, hj, rfl⟩ := List.getElem_of_mem hx
    exact hall j hj)
theorem oneRet_cut {l a b : List UInt8} {w w' : World} (h : cutAt 58 l = some (a, b)) (hb : Below w.heap.size w w') : OneRet l w (.returned (.tuple #[.agg #[.string (str a), .string (str (trimS b))], .bool (isFld ⟨a, trimS b⟩)])) w' := by
  have ho := oneF_cut h
  cases hq : isFld ⟨a, trimS b⟩
  · rw [hq] at ho; exact oneRet_none ho hb
  · rw [hq] at ho; exact oneRet_some (f := ⟨a, trimS b⟩) ho hb
set_option maxRecDepth 100000 in
set_option maxHeartbeats 2000000 in
theorem l3One_any (s : ByteArray) (w : World) (hs : s.size ≤ 1073741000) :
    Calls Tryd.prog 52 #[.string s] w (OneRet s.data.toList w) := by
  have hb0 : Below w.heap.size w (w.alloc (.cells #[.string ⟨#[]⟩, .string ⟨#[]⟩] 24)) := (Below.refl _ _).alloc (Nat.le_refl _) _
  have cN : ∀ i, (w.alloc (.cells #[.string ⟨#[]⟩, .string ⟨#[]⟩] 24)).cell? ⟨w.heap.size, i, none⟩ = #[Value.string ⟨#[]⟩, .string ⟨#[]⟩][i]? := fun i => by rw [World.cell?_alloc_at _ _ _ _ rfl]
  go_enter Tryd.func52, Tryd.ntmps52
  go_wp2_with fail
  go_loop [4] (fun i => ∃ k : Nat, k ≤ s.size ∧ i = .int .i64 k ∧ ∀ j, j < k → (hj : j < s.size) → s[j] ≠ 58) (fun i => s.size - (intOf i).toNat)
  case atStart => exact ⟨0, Nat.zero_le _, rfl, fun j h => by omega⟩
  case round =>
    obtain ⟨k, hk, rfl, hall⟩ := hrel
    have HA := Lib.hid hall
    clear hall
    by_cases hlt : k < s.size
    · by_cases hc : s[k] = 58
      · have e1 := beq_t hc (n := 58) rfl
        have HC := Lib.hid (cutAt_here s 58 k hlt hc HA.out)
        have hk1 : k + 1 ≤ s.size := hlt
        have hk2 : (k : Int) + 1 ≤ (s.size : Int) := by omega
        have hk3 : (k : Int) ≤ (s.size : Int) := by omega
        have hk4 : (0 : Int) ≤ (k : Int) := by omega
        have hk5 : (0 : Int) ≤ (k : Int) + 1 := by omega
        have hwr : IntKind.i64.wrap ((k : Int) + 1) = (k : Int) + 1 := by simp only [IntKind.wrap, IntKind.bits, IntKind.signed]; simp; omega
        have hk6 : ((k : Int) + 1).toNat = k + 1 := by omega
        have hk7 : ¬ ((s.size : Int) < (k : Int) + 1) := by omega
        have hk8 : ¬ ((k : Int) + 1 < 0) := by omega
        have hk9 : ¬ ((s.size : Int) < (k : Int)) := by omega
        have hka : (0 : Int) ≤ (k : Int) + 1 ∧ (k : Int) + 1 ≤ (s.size : Int) := by omega
        have hkb : ((k + 1 : Nat) : Int) ≤ (s.size : Int) := by omega
        have HT : Hid (s.extract 0 k = str (s.data.toList.take k)) := ext_take s k
        have HU : Hid (s.extract (k + 1) s.size = str (s.data.toList.drop (k + 1))) := ext_drop s (k + 1)
        have hzu : (s.extract (k + 1) s.size).size ≤ 1073741000 := by have := ext_sizeF s (k + 1) s.size; omega
        have hzt : (s.extract 0 k).size ≤ 1073741000 := by have := ext_sizeF s 0 k; omega
        have HTR : Hid (∀ u : World, Calls Tryd.prog 60 #[.string (s.extract (k + 1) s.size)] u fun e w' => e = .returned (.string (str (trimS (s.data.toList.drop (k + 1))))) ∧ u = w') := fun u => by
          have := l2Trim_any (s.extract (k + 1) s.size) u (by omega)
          rw [HU.out, str_list] at this
          rw [HU.out]; exact this
        have HFV : Hid (∀ u : World, Calls Tryd.prog 31 #[.agg #[.string (s.extract 0 k), .string (str (trimS (s.data.toList.drop (k + 1))))]] u fun e w' => e = .returned (.bool (isFld ⟨s.data.toList.take k, trimS (s.data.toList.drop (k + 1))⟩)) ∧ Below u.heap.size u w') := fun u => by
          rw [HT.out]
          refine fieldValidS_fld ⟨s.data.toList.take k, trimS (s.data.toList.drop (k + 1))⟩ u ⟨?_, ?_⟩
          · show (s.data.toList.take k).length ≤ _; rw [List.length_take, size_list]; omega
          · show (trimS _).length ≤ _; have := trimS_len (s.data.toList.drop (k + 1)); rw [List.length_drop, size_list] at this; omega
        have HRET : Hid (∀ w', Below w.heap.size w w' → OneRet s.data.toList w (.returned (.tuple #[.agg #[.string (s.extract 0 k), .string (str (trimS (s.data.toList.drop (k + 1))))], .bool (isFld ⟨s.data.toList.take k, trimS (s.data.toList.drop (k + 1))⟩)])) w') := fun w' h => by
          rw [HT.out]; exact oneRet_cut HC.out h
        generalize isFld ⟨s.data.toList.take k, trimS (s.data.toList.drop (k + 1))⟩ = q at *
        generalize str (trimS (s.data.toList.drop (k + 1))) = tv at *
        clear hc
        go_wp2
        go_region_with (go_at_call 60; refine (HTR.out _).mono ?_; rintro e w2 ⟨rfl, rfl⟩)
        all_goals
          go_wp2
          go_region_with (go_at_call 31; refine (HFV.out _).mono ?_; rintro e w5 ⟨rfl, hb5⟩; obtain ⟨hc5, hf5⟩ := bcell hb5; have hs5 := hb5.size)
        all_goals
          go_wp2
          have hx : Below w.heap.size w w5 := by
            first
              | exact nx ((hb0.alloc hb0.size _).drew.drew) hb5
              | exact nx ((((hb0.alloc hb0.size _).drew.drew).setCell (Nat.le_refl _) _).setCell (Nat.le_refl _) _) hb5
              | exact nx ((((hb0.alloc hb0.size _).drew).setCell (Nat.le_refl _) _).setCell (Nat.le_refl _) _).drew hb5
          have zl1 : w.heap.size < w.heap.size + 1 + 1 := by omega
          have zl2 : w.heap.size < w.heap.size + 1 := by omega
          refine bodyPost_ret (v := .tuple #[.agg #[.string (s.extract 0 k), .string tv], .bool q]) (by simp [results, Tryd.results52, go_sem, hc5, zl1, zl2, World.cell?_alloc_lt]) rfl (HRET.out _ ?_)
          first
            | exact ((hx.setCell (Nat.le_refl _) _).setCell (Nat.le_refl _) _)
            | exact hx
      · have e1 := beq_f hc (n := 58) rfl
        have HN := Lib.hid hc
        clear hc
        go_wp2
        go_round
        case rel => exact ⟨k + 1, by omega, by go_num, fun j h hj => by
          by_cases e : j = k
          · subst e; exact HN.out
          · exact HA.out j (by omega) hj⟩
        case measure => simp [intOf]; omega
    · have HN : Hid (oneF s.data.toList = none) := oneF_uncut (cutAt_nowhere s 58 (fun j hj => HA.out j (by omega) hj))
      go_wp2
      refine bodyPost_ret (v := .tuple #[.agg #[.string ⟨#[]⟩, .string ⟨#[]⟩], .bool false]) (by simp [results, Tryd.results52, go_sem, cN]) rfl (oneRet_none HN.out ?_)
      first
        | exact hb0
        | exact ((hb0.setCell (p := ⟨w.heap.size, 0, none⟩) (Nat.le_refl _) _).setCell (p := ⟨w.heap.size, 1, none⟩) (Nat.le_refl _) _)
        | exact (hb0.setCell (p := ⟨w.heap.size, 0, none⟩) (Nat.le_refl _) _)
end Go.Proofs.YtfjpajeipihlaaaDoor
