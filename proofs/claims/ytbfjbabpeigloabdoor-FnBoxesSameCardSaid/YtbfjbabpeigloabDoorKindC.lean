/-
  Cutting at a byte, with what is left where it does not occur. No statement is proved here.
-/
import Derived.Test.YtbfjbabpeigloabDoorKindM
import Derived.Test.YtbfjbabpeigloabDoorReadF
namespace Go.Proofs.YtbfjbabpeigloabDoor
open Go.RowKit

def Cut2R (l : List UInt8) (c : UInt8) (w : World) (e : Ending) (w' : World) : Prop := e = .returned (.tuple #[.string (str (cut2 c l).1), .string (str (cut2 c l).2), .bool (cutAt c l).isSome]) ∧ ∃ m, w' = w.drewN m
theorem cut2R_none {l : List UInt8} {c : UInt8} {w : World} {s : ByteArray} (h : cutAt c l = none) (hs : s = str l) (m : Nat) : Cut2R l c w (.returned (.tuple #[.string s, .string ⟨#[]⟩, .bool false])) (w.drewN m) := by
  subst hs; unfold Cut2R cut2; rw [h]; exact ⟨rfl, m, rfl⟩
theorem cut2R_some {l : List UInt8} {c : UInt8} {k : Nat} {w : World} {s t : ByteArray} (h : cutAt c l = some (l.take k, l.drop (k + 1))) (hs : s = str (l.take k)) (ht : t = str (l.drop (k + 1))) (m : Nat) : Cut2R l c w (.returned (.tuple #[.string s, .string t, .bool true])) (w.drewN m) := by
  subst hs ht; unfold Cut2R cut2; rw [h]; exact ⟨rfl, m, rfl⟩
set_option maxRecDepth 100000 in
set_option maxHeartbeats 400000 in
theorem liteCut2_any (s : ByteArray) (c : UInt8) (w : World) (hs : s.size ≤ 4611686018427387904) :
    Calls Tryd.prog 80 #[.string s, .string ⟨#[c]⟩] w (Cut2R s.data.toList c w) := by
  have hz1 : (ByteArray.mk #[c]).size = 1 := rfl
  rcases idx_cut c s.data.toList with ⟨h1, h2⟩ | ⟨k, h1, h2, h3⟩
  · have H1 := Lib.hid h1
    have H2 := Lib.hid h2
    clear h1 h2
    go_enter Tryd.func80, Tryd.ntmps80
    go_wp2_with fail
    refine (Tryd.stringslite_Index_one s c _).mono ?_
    rintro e w1 ⟨rfl, rfl⟩
    rw [H1.out]
    go_wp2
    go_ret3
    exact cut2R_none (w := w1) H2.out (str_of s).symm 0
  · have hk : k < s.size := by rw [size_list] at h2; exact h2
    have hk1 : k + 1 ≤ s.size := hk
    have H1 := Lib.hid h1
    have H3 := Lib.hid h3
    have HT : Hid (s.extract 0 k = str (s.data.toList.take k)) := ext_take s k
    have HU : Hid (s.extract (k + 1) s.size = str (s.data.toList.drop (k + 1))) := ext_drop s (k + 1)
    clear h1 h2 h3
    go_enter Tryd.func80, Tryd.ntmps80
    go_wp2_with fail
    refine (Tryd.stringslite_Index_one s c _).mono ?_
    rintro e w1 ⟨rfl, rfl⟩
    rw [H1.out]
    go_wp2
    go_quiet (fail)
    go_wp2
    go_ret3
    exact cut2R_some H3.out HT.out HU.out _
theorem cut2_any (s : ByteArray) (c : UInt8) (w : World) (hs : s.size ≤ 4611686018427387904) :
    Calls Tryd.prog 66 #[.string s, .string ⟨#[c]⟩] w (Cut2R s.data.toList c w) := by
  go_enter Tryd.func66, Tryd.ntmps66
  go_wp2_with fail
  refine (liteCut2_any s c _ hs).mono ?_
  rintro e w1 ⟨rfl, m, rfl⟩
  go_wp2
  go_ret3
  exact ⟨rfl, m, rfl⟩
end Go.Proofs.YtbfjbabpeigloabDoor
