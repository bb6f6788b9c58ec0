/-
  The exact laws of chapter 6: each law's walk. For every input of the law: it returns true, and the input reads as it did. Conditions: none but the statement's own.
-/
import Derived.Test.YtboopbjdehdhgacDoorLaw0n
import Derived.Test.YtboopbjdehdhgacDoorNamR
import Derived.Test.YtboopbjdehdhgacDoorNamX
namespace Go.Proofs.YtboopbjdehdhgacDoor
open Go.ChangeShapes Go.WideShapes Go.ChangeAt Go.RowKit
open Go.ChangeMaps (open_string shut_string)

set_option maxRecDepth 100000 in
set_option maxHeartbeats 1000000 in
theorem fnExactReadCodeWord_walk (s : ByteArray) (w : World) (hmx : ∃ m, w.cell? ⟨4, 0, none⟩ = some (.int .i64 m)) (hs : s.size ≤ maxLen) :
    Calls Tryd.prog 4 #[.string s] w fun e w' => e = .returned (.bool true) ∧ Below w.heap.size w w' := by
  have hm' := hs
  unfold maxLen at hm'
  by_cases hn : 1048576 < s.size
  · have hd : decide ((1048576 : Int) < s.size) = true := by simp; omega
    go_enter Tryd.func4, Tryd.ntmps4
    go_wp2
    go_ret
    exact ⟨rfl, Below.refl _ _⟩
  · have hd : decide ((1048576 : Int) < s.size) = false := by simp; omega
    have HF1 := Lib.hid (fun u => readCodeWordS_any s u (by omega))
    have HF2 : Hid (∀ u, Below w.heap.size w u → Calls Tryd.prog 9 #[.string s] u (DecRet (readW s.data.toList) u)) := fun u hu => readCodeWord_any s u (mx_belowN hmx hu) (by omega)
    generalize readW s.data.toList = dd at *
    have hee : ((str (dd.getD [])).toList == (str (dd.getD [])).toList) = true := by simp
    have hne : ((str (dd.getD [])).toList != (str (dd.getD [])).toList) = false := by simp
    go_enter Tryd.func4, Tryd.ntmps4
    go_wp2_with fail
    refine (HF1.out _).mono ?_
    rintro e w1 ⟨rfl, hb1⟩
    go_wp2_with fail
    refine (HF2.out _ hb1).mono ?_
    rintro e w2 ⟨rfl, hb2⟩
    generalize str (dd.getD []) = ft at *
    generalize dd.isSome = ok at *
    go_wp2
    go_ret
    exact ⟨rfl, nx hb1 hb2⟩
end Go.Proofs.YtboopbjdehdhgacDoor
