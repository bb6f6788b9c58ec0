/-
  Addresses: whether one is valid, its text, cutting outside of quotes: what the program's functions return. No statement is proved here.
-/
import Derived.Test.YtfjpajeipihlaabDoorAddr
import Derived.Test.YtfjpajeipihlaabDoorAdrV
import Derived.Deep.QuietTactic
import Derived.BigQuiet
namespace Go.Proofs.YtfjpajeipihlaabDoor
open Go.RowKit

end Go.Proofs.YtfjpajeipihlaabDoor
