/-
  Addresses as values, rows of addresses. No statement is proved here.
-/
import Derived.Test.YtjnpkmenlecdmabDoorAddrM
import Derived.Test.YtjnpkmenlecdmabDoorRows2
namespace Go.Proofs.YtjnpkmenlecdmabDoor
open Go.RowKit

/-- An address as its three texts. -/
def adr (n l d : ByteArray) : Adr := ⟨n.data.toList, l.data.toList, d.data.toList⟩
theorem adr_str (a : Adr) : adr (str a.name) (str a.loc) (str a.dom) = a := by unfold adr; rw [str_list, str_list, str_list]
theorem isAdr_parts (n l d : ByteArray) : isAdr (adr n l d) = (isText n.data.toList && decide (n.size ≤ 40) && isLocal l.data.toList && isDomain d.data.toList) := rfl
/-- An address as a value. -/
def adrV (a : Adr) : Value := .agg #[.string (str a.name), .string (str a.loc), .string (str a.dom)]
def adr0 : Adr := ⟨[], [], []⟩
theorem adrV_zero : adrV adr0 = .agg #[.string ⟨#[]⟩, .string ⟨#[]⟩, .string ⟨#[]⟩] := rfl
theorem adrV_adr (n l d : ByteArray) : adrV (adr n l d) = .agg #[.string n, .string l, .string d] := by unfold adrV adr; rw [str_of, str_of, str_of]
def adrC (a : Adr) : List Value := [.string (str a.name), .string (str a.loc), .string (str a.dom)]
theorem adrC_len (a : Adr) : (adrC a).length = 3 := rfl
end Go.Proofs.YtjnpkmenlecdmabDoor
