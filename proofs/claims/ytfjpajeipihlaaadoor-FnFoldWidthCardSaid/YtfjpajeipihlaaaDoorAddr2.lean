/-
  Addresses: whether one is valid, its text, cutting outside of quotes: what the program's functions return. No statement is proved here.
-/
import Derived.Test.YtfjpajeipihlaaaDoorAddr
import Derived.Test.YtfjpajeipihlaaaDoorAdrV
import Derived.Deep.QuietTactic
import Derived.BigQuiet
namespace Go.Proofs.YtfjpajeipihlaaaDoor
open Go.RowKit

end Go.Proofs.YtfjpajeipihlaaaDoor
