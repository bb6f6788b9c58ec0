/-
  Dates: what the model's functions on numbers return. No statement is proved here.
-/
import Derived.Test.YtdddmclhafbfoaaDate4
namespace Go.Proofs.Ytdddmclhafbfoaa
open Go.RowKit

end Go.Proofs.Ytdddmclhafbfoaa
