/-
  Codes of bytes: quoted lines read: what the program's functions return. No statement is proved here.
-/
import Derived.Test.YtboopbjdehdhgacCodR
import Derived.Maps.AppendAt
import Derived.Deep.RegionLaw
import Derived.Deep.RegionHeld3
import Derived.Outline
namespace Go.Proofs.Ytboopbjdehdhgac
open Go.RowKit

theorem hexD_eq : (ByteArray.mk #[48, 49, 50, 51, 52, 53, 54, 55, 56, 57, 65, 66, 67, 68, 69, 70]).data.toList = [48, 49, 50, 51, 52, 53, 54, 55, 56, 57, 65, 66, 67, 68, 69, 70] := rfl
theorem bne_t {c d : UInt8} (h : c ≠ d) {n : Int} (hn : (d.toNat : Int) = n) : ((c.toNat : Int) != n) = true := by rw [bne, beq_f h hn]; rfl
theorem bne_f {c d : UInt8} (h : c = d) {n : Int} (hn : (d.toNat : Int) = n) : ((c.toNat : Int) != n) = false := by rw [bne, beq_t h hn]; rfl
theorem okB_in {c : UInt8} (h : okB c = true) : 32 ≤ c.toNat ∧ c.toNat ≤ 126 := by unfold okB at h; simp at h; exact h
theorem okB_out {c : UInt8} (h : okB c = false) : c.toNat < 32 ∨ (32 ≤ c.toNat ∧ 126 < c.toNat) := by unfold okB at h; simp at h; omega
theorem ixI_none {o : Option Nat} (h : o = none) : ixI o = -1 := by rw [h]; rfl
theorem ixI_some {o : Option Nat} {v : Nat} (h : o = some v) : ixI o = (v : Int) := by rw [h]; rfl
end Go.Proofs.Ytboopbjdehdhgac
