/-
  Dates: what the model takes for the fields of a date. No statement is proved here.
-/
import Derived.Test.YtdddmclhafbfoaaDateS
import Derived.Test.YtdddmclhafbfoaaQuietB
namespace Go.Proofs.Ytdddmclhafbfoaa
open Go.RowKit

end Go.Proofs.Ytdddmclhafbfoaa
