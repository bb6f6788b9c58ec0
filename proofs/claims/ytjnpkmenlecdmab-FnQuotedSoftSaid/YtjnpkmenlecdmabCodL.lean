/-
  Codes of bytes: lines of letters: what the program's functions return. No statement is proved here.
-/
import Derived.Test.YtjnpkmenlecdmabCodB
import Derived.Lib.TrimByte
namespace Go.Proofs.Ytjnpkmenlecdmab
open Go.RowKit

theorem encB_len (s : ByteArray) (h : s.size ≤ 300) : (b64 s.data.toList).length ≤ 400 := by rw [b64_len, size_list]; omega
end Go.Proofs.Ytjnpkmenlecdmab
