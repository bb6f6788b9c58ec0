/-
  Days of the week. Mathematics alone: no statement is proved here.
-/
import Derived.Test.YtboopbjdehdhgaaGreatDoorDateM
namespace Go.Proofs.YtboopbjdehdhgaaGreatDoor

def wdL : List (List UInt8) := [[84, 104, 117], [70, 114, 105], [83, 97, 116], [83, 117, 110], [77, 111, 110], [84, 117, 101], [87, 101, 100]]
def wdN (n : Int) : List UInt8 := wdL.getD (n % 7).toNat []
def wdayT (D : Dat) : List UInt8 := wdN (daysB D.y D.mo D.d)
def wdayF (D : Dat) : List UInt8 := if OkDate D then wdayT D else []
theorem wdayF_ok {D : Dat} (h : OkDate D) : wdayF D = wdayT D := if_pos h
theorem wdayF_no {D : Dat} (h : ¬ OkDate D) : wdayF D = [] := if_neg h
theorem wdL_len (i : Nat) (hi : i < 7) : (wdL.getD i []).length = 3 := by
  rcases (by omega : i = 0 ∨ i = 1 ∨ i = 2 ∨ i = 3 ∨ i = 4 ∨ i = 5 ∨ i = 6) with rfl | rfl | rfl | rfl | rfl | rfl | rfl <;> rfl
theorem wdN_len (n : Int) : (wdN n).length = 3 := wdL_len _ (by omega)
theorem wdN_ne (n : Int) : wdN n ≠ [] := by intro h; have := wdN_len n; rw [h] at this; cases this
theorem wdN_mod (n : Int) : wdN (n % 7) = wdN n := by unfold wdN; rw [Int.emod_emod_of_dvd _ (by decide)]
theorem wdL_inj : ∀ i, i < 7 → ∀ j, j < 7 → wdL.getD i [] = wdL.getD j [] → i = j := by decide
theorem wdN_inj {a b : Int} (h : wdN a = wdN b) : a % 7 = b % 7 := by
  have := wdL_inj _ (by omega) _ (by omega) h
  omega
end Go.Proofs.YtboopbjdehdhgaaGreatDoor
