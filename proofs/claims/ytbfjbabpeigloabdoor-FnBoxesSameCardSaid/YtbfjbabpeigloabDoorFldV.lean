/-
  Fields as values, rows of fields. No statement is proved here.
-/
import Derived.Test.YtbfjbabpeigloabDoorFieldM
import Derived.Test.YtbfjbabpeigloabDoorRows2
namespace Go.Proofs.YtbfjbabpeigloabDoor
open Go.RowKit

/-- A place, or -1. -/
def idxI (o : Option Nat) : Int := match o with | some i => (i : Int) | none => -1
theorem idxI_none : idxI none = -1 := rfl
theorem idxI_some (i : Nat) : idxI (some i) = (i : Int) := rfl
/-- A field as its two texts. -/
def fld (n v : ByteArray) : Fld := ⟨n.data.toList, v.data.toList⟩
theorem fld_str (f : Fld) : fld (str f.name) (str f.val) = f := by unfold fld; rw [str_list, str_list]
/-- A field as a value. -/
def fldV (f : Fld) : Value := .agg #[.string (str f.name), .string (str f.val)]
theorem fldV_zero : fldV fld0 = .agg #[.string ⟨#[]⟩, .string ⟨#[]⟩] := rfl
theorem fldV_fld (n v : ByteArray) : fldV (fld n v) = .agg #[.string n, .string v] := by unfold fldV fld; rw [str_of, str_of]
def fldC (f : Fld) : List Value := [.string (str f.name), .string (str f.val)]
theorem fldC_len (f : Fld) : (fldC f).length = 2 := rfl
theorem fld_eq_iff (a b : Fld) : a = b ↔ str a.name = str b.name ∧ str a.val = str b.val := by
  constructor
  · rintro rfl; exact ⟨rfl, rfl⟩
  · rintro ⟨h1, h2⟩; exact Fld.ext' (by rw [← str_list a.name, h1, str_list]) (by rw [← str_list a.val, h2, str_list])
theorem fld_beq (a b : Fld) : decide (a = b) = (decide (str a.name = str b.name) && decide (str a.val = str b.val)) := by
  rw [← Bool.decide_and]; exact decide_eq_decide.2 (fld_eq_iff a b)
/-- The texts of a field are no longer than M. -/
def SmallF (M : Nat) (f : Fld) : Prop := f.name.length ≤ M ∧ f.val.length ≤ M
theorem SmallF.up {M N : Nat} {f : Fld} (h : SmallF M f) (hMN : M ≤ N) : SmallF N f := ⟨by have := h.1; omega, by have := h.2; omega⟩
theorem isFld_small {f : Fld} (h : isFld f = true) : SmallF 150 f := by
  obtain ⟨h1, _, h3, _⟩ := isFld_iff.1 h
  have := isFName_iff.1 h1
  exact ⟨by omega, h3⟩
end Go.Proofs.YtbfjbabpeigloabDoor
