/-
  Codes of bytes: quoted lines read: what the program's functions return. No statement is proved here.
-/
import Derived.Test.YtboopbjdehdhgabCodR
import Derived.Maps.AppendAt
import Derived.Deep.RegionLaw
import Derived.Deep.RegionHeld3
import Derived.Outline
namespace Go.Proofs.Ytboopbjdehdhgab
open Go.RowKit

theorem hexD_eq : (ByteArray.mk #[48, 49, 50, 51, 52, 53, 54, 55, 56, 57, 65, 66, 67, 68, 69, 70]).data.toList = [48, 49, 50, 51, 52, 53, 54, 55, 56, 57, 65, 66, 67, 68, 69, 70] := rfl
theorem bne_t {c d : UInt8} (h : c ≠ d) {n : Int} (hn : (d.toNat : Int) = n) : ((c.toNat : Int) != n) = true := by rw [bne, beq_f h hn]; rfl
theorem bne_f {c d : UInt8} (h : c = d) {n : Int} (hn : (d.toNat : Int) = n) : ((c.toNat : Int) != n) = false := by rw [bne, beq_t h hn]; rfl
theorem okB_in {c : UInt8} (h : okB c = true) : 32 ≤ c.toNat ∧ c.toNat ≤ 126 := by unfold okB at h; simp at h; exact h
theorem okB_out {c : UInt8} (h : okB c = false) : c.toNat < 32 ∨ (32 ≤ c.toNat ∧ 126 < c.toNat) := by unfold okB at h; simp at h; omega
theorem ixI_none {o : Option Nat} (h : o = none) : ixI o = -1 := by rw [h]; rfl
theorem ixI_some {o : Option Nat} {v : Nat} (h : o = some v) : ixI o = (v : Int) := by rw [h]; rfl
theorem own_snocB {B : Nat} {v : Value} {l : List UInt8} {c : UInt8} {w : World} (h : w.ownsRow B 5 1 v (l.length + 1) (Lib.byteCells l ++ [.int .u8 c.toNat])) : OwnBy B v (l ++ [c]) w := by
  unfold OwnBy
  rw [List.length_append, show Lib.byteCells (l ++ [c]) = Lib.byteCells l ++ [.int .u8 c.toNat] by simp [Lib.byteCells]]
  exact h
/-- One byte appended to a row of the call's own, as a step of a region. -/
theorem step_append_B {ops : Array Oper} {o : Oper} {Q : Exit → Act → World → Prop} {K : Act → World → Prop} {E : Prop} {a : Act} {w : World} (hgd : o.guard = none) (s x : Operand)
    (ho : o.op = .call { callee := .builtin .append, args := #[s, x], argTypes := #[22, 22] })
    (B : Nat) (v : Value) (l : List UInt8) (c : UInt8) (g : Nat) (hs : a.eval s = v) (hx : a.eval x = .slice (some ⟨g, 0, none⟩) 1 1) (hown : OwnBy B v l w)
    (hy : w.cell? ⟨g, 0, none⟩ = some (.int .u8 c.toNat)) (hB : B ≤ w.heap.size) (hl : l.length ≤ 1073741824)
    (h : ∀ v' w', OwnBy B v' (l ++ [c]) w' → Below B w w' → K (a.put o.dst v') w') : if Region.wanted o (yielded ops a.tmps) = true then Oper.wp Try.prog o a w K Q else E := by
  rw [if_pos (by simp [Region.wanted, hgd])]
  obtain ⟨i0, hi, hz0, hz1, hz2⟩ := info_parts bInfo
  have hown1 := hown
  unfold OwnBy at hown1
  refine wp_append_own w s x 22 ho B 5 i0 (.int .u8 0) 1 1 Try.underlying22 hi hz0 hz1 hz2 rfl (by decide) v l.length (Lib.byteCells l) hs hown1 ⟨g, 0, none⟩ 1 1 [.int .u8 c.toNat] hx rfl ?_ ?_ ?_ ?_ hB ?_
  · intro j u hj
    match j, hj with
    | 0, hj => simp at hj; subst hj; simpa [Addr.add] using hy
  · intro u hu; simp at hu; subst hu; rfl
  · unfold maxLen; omega
  · omega
  · intro v' w' h2 h3 _
    exact h v' w' (own_snocB h2) ((Below.refl _ _).grown h3 hB (fun k hk => (World.ownsRow.lt hown1 k hk).1))
end Go.Proofs.Ytboopbjdehdhgab
