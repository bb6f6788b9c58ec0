/-
  Dates: the seconds of a date, and the date of some seconds, in the model. No statement is proved here.
-/
import Derived.Test.YtdddmclhafbfoaaDateS2
namespace Go.Proofs.Ytdddmclhafbfoaa
open Go.RowKit

end Go.Proofs.Ytdddmclhafbfoaa
