/-
  Mails by the parts of their values: what the functions on them return. No statement is proved here.
-/
import Derived.Test.YtfiaankfmdpmkaaDoorMalE
namespace Go.Proofs.YtfiaankfmdpmkaaDoor
open Go.RowKit

section
variable {M N : Nat} {w : World} {s s' : ByteArray} {a b a' b' : Option Addr} {n c k d n' c' k' d' : Nat} {m m' : Ml}
theorem szMail_v {t : Int} (h : RdV maxLen w s a n c b k d m) (h0 : 0 ≤ t) (h1 : t ≤ 1048576) : Calls Tryd.prog 15 #[.agg #[.string s, .slice a n c, .slice b k d], .int .i64 t] w (SizedN t m w) :=
  h.calls [.int .i64 t] (fun x hx hr => hx ▸ szMail_any x t w hr h0 h1)
theorem eqMail_v (h : RdV 1048576 w s a n c b k d m) (h' : RdV 1048576 w s' a' n' c' b' k' d' m) : Calls Tryd.prog 19 #[.agg #[.string s, .slice a n c, .slice b k d], .agg #[.string s', .slice a' n' c', .slice b' k' d']] w fun e w' => e = .returned (.bool true) ∧ Below w.heap.size w w' :=
  h.calls2 h' (fun x y hx hy h1 h2 => by
    have := eqMail_any 1048576 x y w h1 h2 (by unfold maxLen; omega)
    rw [hx, hy, decide_eq_true rfl] at this; exact this)
def MalRetV (m : Ml) (w : World) (e : Ending) (w' : World) : Prop := ∃ (s : ByteArray) (a : Option Addr) (n c : Nat) (b : Option Addr) (k d : Nat), e = .returned (.agg #[.string s, .slice a n c, .slice b k d]) ∧ RdV 1048576 w' s a n c b k d m ∧ Below w.heap.size w w'
theorem toMail_v (h : RdV 1048576 w s a n c b k d m) : Calls Tryd.prog 17 #[.agg #[.string s, .slice a n c, .slice b k d]] w (MalRetV m w) :=
  h.calls [] (fun x hx hr => (toMail_any x w hr).mono (fun e w' ⟨y, hy, he, ho, hb⟩ => ⟨_, _, _, _, _, _, _, he, (by
    have hs : SmallM 1048576 y.m := by rw [hy]; exact hr.2.2
    have := RdV.of (ho.rd hs)
    rw [hy, hx] at this ⊢; exact this), hb⟩))
end
end Go.Proofs.YtfiaankfmdpmkaaDoor
