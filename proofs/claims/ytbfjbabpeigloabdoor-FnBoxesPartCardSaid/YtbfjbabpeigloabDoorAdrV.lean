/-
  Addresses as values, rows of addresses. No statement is proved here.
-/
import Derived.Test.YtbfjbabpeigloabDoorAddrM
import Derived.Test.YtbfjbabpeigloabDoorRows2
namespace Go.Proofs.YtbfjbabpeigloabDoor
open Go.RowKit

/-- An address as its three texts. -/
def adr (n l d : ByteArray) : Adr := ⟨n.data.toList, l.data.toList, d.data.toList⟩
theorem adr_str (a : Adr) : adr (str a.name) (str a.loc) (str a.dom) = a := by unfold adr; rw [str_list, str_list, str_list]
theorem isAdr_parts (n l d : ByteArray) : isAdr (adr n l d) = (isText n.data.toList && decide (n.size ≤ 40) && isLocal l.data.toList && isDomain d.data.toList) := rfl
/-- An address as a value. -/
def adrV (a : Adr) : Value := .agg #[.string (str a.name), .string (str a.loc), .string (str a.dom)]
def adr0 : Adr := ⟨[], [], []⟩
theorem adrV_zero : adrV adr0 = .agg #[.string ⟨#[]⟩, .string ⟨#[]⟩, .string ⟨#[]⟩] := rfl
theorem adrV_adr (n l d : ByteArray) : adrV (adr n l d) = .agg #[.string n, .string l, .string d] := by unfold adrV adr; rw [str_of, str_of, str_of]
def adrC (a : Adr) : List Value := [.string (str a.name), .string (str a.loc), .string (str a.dom)]
theorem adrC_len (a : Adr) : (adrC a).length = 3 := rfl
theorem aInfo : (Tryd.prog.info? 88).map (fun i => (i.zero, i.size, i.bytes)) = some (some (.agg #[.string ⟨#[]⟩, .string ⟨#[]⟩, .string ⟨#[]⟩]), 3, 48) := by kernel_rfl
abbrev OwnA (B : Nat) (v : Value) (xs : List Adr) (w : World) : Prop := OwnR 88 3 adrC B v xs w
abbrev RdA (w : World) (a : Option Addr) (n : Nat) (xs : List Adr) : Prop := RdR 3 adrC w a n xs
theorem RdR.adr {w : World} {b off k : Nat} {xs : List Adr} (h : ∀ i, (h : i < xs.length) → ∀ d v, (adrC xs[i])[d]? = some v → w.cell? ⟨b, off + i * 3 + d, none⟩ = some v) (hk : k < xs.length) :
    w.cell? ⟨b, off + k * 3, none⟩ = some (.string (str xs[k].name)) ∧ w.cell? ⟨b, off + k * 3 + 1, none⟩ = some (.string (str xs[k].loc)) ∧ w.cell? ⟨b, off + k * 3 + 2, none⟩ = some (.string (str xs[k].dom)) :=
  ⟨h k hk 0 _ rfl, h k hk 1 _ rfl, h k hk 2 _ rfl⟩
/-- The texts of an address are no longer than M. -/
def SmallA (M : Nat) (a : Adr) : Prop := a.name.length ≤ M ∧ a.loc.length ≤ M ∧ a.dom.length ≤ M
theorem isAdr_small {a : Adr} (h : isAdr a = true) : SmallA 200 a := by
  obtain ⟨⟨_, h0⟩, ⟨h1, _⟩, h3, _⟩ := isAdr_iff.1 h
  exact ⟨by omega, by omega, by omega⟩
theorem fmtA_len (a : Adr) : (fmtA a).length ≤ 157 := by
  cases h : isAdr a
  · rw [fmtA_no h]; simp
  · rw [fmtA_val h]; exact (fmtT_text h).2
end Go.Proofs.YtbfjbabpeigloabDoor
