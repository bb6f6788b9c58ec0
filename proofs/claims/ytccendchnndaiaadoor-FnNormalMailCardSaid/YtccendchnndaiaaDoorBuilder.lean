/-
  The library's strings.Builder over this translation: what its writing methods do to a builder that the call has made. After the shelf's own proofs, at this translation. No statement is proved here.
-/
import Derived.Test.YtccendchnndaiaaDoorWords
namespace Go.Proofs.YtccendchnndaiaaDoor
open Go.RowKit

end Go.Proofs.YtccendchnndaiaaDoor
