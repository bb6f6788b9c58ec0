/-
  Mails by the parts of their values: what the functions on them return. No statement is proved here.
-/
import Derived.Test.YtdddmclhafbfoaaDoorMalE
namespace Go.Proofs.YtdddmclhafbfoaaDoor
open Go.RowKit

section
variable {M N : Nat} {w : World} {s s' : ByteArray} {a b a' b' : Option Addr} {n c k d n' c' k' d' : Nat} {m m' : Ml}
theorem mailSame_v (h : RdV 1048576 w s a n c b k d m) (h' : RdV 1048576 w s' a' n' c' b' k' d' m') : Calls Tryd.prog 12 #[.agg #[.string s, .slice a n c, .slice b k d], .agg #[.string s', .slice a' n' c', .slice b' k' d']] w fun e w' => e = .returned (.bool (decide (m = m'))) ∧ Below w.heap.size w w' :=
  h.calls2 h' (fun x y hx hy h1 h2 => by
    have := mailSame_any 1048576 x y w h1 h2 (by unfold maxLen; omega)
    rw [hx, hy] at this; exact this)
theorem mailSameS_v (h : RdV 1048576 w s a n c b k d m) (h' : RdV 1048576 w s' a' n' c' b' k' d' m') : Calls Tryd.prog 13 #[.agg #[.string s, .slice a n c, .slice b k d], .agg #[.string s', .slice a' n' c', .slice b' k' d']] w fun e w' => e = .returned (.bool (decide (m = m'))) ∧ Below w.heap.size w w' :=
  h.calls2 h' (fun x y hx hy h1 h2 => by
    have := mailSameS_any 1048576 x y w h1 h2 (by unfold maxLen; omega)
    rw [hx, hy] at this; exact this)
end
end Go.Proofs.YtdddmclhafbfoaaDoor
