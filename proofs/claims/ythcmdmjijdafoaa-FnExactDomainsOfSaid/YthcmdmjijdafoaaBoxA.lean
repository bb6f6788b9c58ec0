/-
  Mailboxes compared: what the program's and the model's functions return. No statement is proved here.
-/
import Derived.Test.YthcmdmjijdafoaaAdrV
import Derived.Test.YthcmdmjijdafoaaWords
import Derived.Deep.RegionWith
namespace Go.Proofs.Ythcmdmjijdafoaa
open Go.RowKit

set_option maxRecDepth 100000 in
set_option maxHeartbeats 1000000 in
theorem boxKey_any (n l d : ByteArray) (w : World) (hd : d.size ≤ 1073741824) :
    Calls Try.prog 29 #[.agg #[.string n, .string l, .string d]] w fun e w' => e = .returned (.agg #[.string ⟨#[]⟩, .string l, .string (lowS d)]) ∧ Below w.heap.size w w' := by
  have hb0 : Below w.heap.size w ((w.alloc (.cells #[.string n, .string l, .string d] 29)).alloc (.cells #[.string ⟨#[]⟩, .string ⟨#[]⟩, .string ⟨#[]⟩] 29)) := ((Below.refl _ _).alloc (Nat.le_refl _) _).alloc (by simp) _
  go_enter Try.func29, Try.ntmps29
  go_wp2
  go_region_with (go_at_call 31; refine (lowerText_any d _ ?_).mono ?_; exact hd; rintro e w5 ⟨rfl, hb5⟩; obtain ⟨hc5, hf5⟩ := bcell hb5; have hsz5 := hb5.size; try simp at hsz5)
  all_goals
    go_wp2
    refine bodyPost_ret (v := .agg #[.string ⟨#[]⟩, .string l, .string (lowS d)]) (by simp [results, Try.results29, go_sem, hc5]) rfl ⟨rfl, ?_⟩
    first
      | exact ((((nx hb0 hb5).setCell (by simp) _).setCell (by simp) _).setCell (by simp) _)
      | exact ((((nx hb0.drew hb5).setCell (by simp) _).setCell (by simp) _).setCell (by simp) _)
set_option maxRecDepth 100000 in
set_option maxHeartbeats 1000000 in
theorem sameBox_any (n l d n2 l2 d2 : ByteArray) (w : World) (hd : d.size ≤ 1073741824) (hd2 : d2.size ≤ 1073741824) :
    Calls Try.prog 12 #[.agg #[.string n, .string l, .string d], .agg #[.string n2, .string l2, .string d2]] w fun e w' => e = .returned (.bool (sameB (adr n l d) (adr n2 l2 d2))) ∧ Below w.heap.size w w' := by
  have hb0 : Below w.heap.size w ((w.alloc (.cells #[.string n, .string l, .string d] 29)).alloc (.cells #[.string n2, .string l2, .string d2] 29)) := ((Below.refl _ _).alloc (Nat.le_refl _) _).alloc (by simp) _
  have HR : Hid (sameB (adr n l d) (adr n2 l2 d2) = (decide (l = l2) && decide (lowS d = lowS d2))) := by
    show _ = _
    unfold sameB adr lowS
    rw [show decide (l.data.toList = l2.data.toList) = decide (l = l2) from decide_eq_decide.2 ⟨bytes_ext, fun h => by rw [h]⟩, show decide (low d.data.toList = low d2.data.toList) = decide (str (low d.data.toList) = str (low d2.data.toList)) from decide_eq_decide.2 ⟨fun h => by rw [h], fun h => by rw [← str_list (low d.data.toList), h, str_list]⟩]
  have q1 := beq_dec l l2
  have q2 := beq_dec (lowS d) (lowS d2)
  by_cases h1 : l = l2
  · rw [decide_eq_true h1] at q1
    by_cases h2 : lowS d = lowS d2
    · rw [decide_eq_true h2] at q2
      have HV : Hid (sameB (adr n l d) (adr n2 l2 d2) = true) := by show _ = _; rw [HR.out, decide_eq_true h1, decide_eq_true h2]; rfl
      clear h1 h2
      go_enter Try.func12, Try.ntmps12
      go_wp2
      go_region_with (go_at_call 29; refine (boxKey_any _ _ _ _ ?_).mono ?_; assumption; rintro e w5 ⟨rfl, hb5⟩; obtain ⟨hc5, hf5⟩ := bcell hb5; have hsz5 := hb5.size; try simp at hsz5)
      all_goals
        go_wp2
        go_ret
        first
          | exact ⟨ret_bool HV.out.symm, nx (nx hb0.drew (by assumption)) hb5⟩
          | exact ⟨ret_bool HV.out.symm, nx (nx hb0 (by assumption)) hb5⟩
    · rw [decide_eq_false h2] at q2
      have HV : Hid (sameB (adr n l d) (adr n2 l2 d2) = false) := by show _ = _; rw [HR.out, decide_eq_false h2]; simp
      clear h1 h2
      go_enter Try.func12, Try.ntmps12
      go_wp2
      go_region_with (go_at_call 29; refine (boxKey_any _ _ _ _ ?_).mono ?_; assumption; rintro e w5 ⟨rfl, hb5⟩; obtain ⟨hc5, hf5⟩ := bcell hb5; have hsz5 := hb5.size; try simp at hsz5)
      all_goals
        go_wp2
        go_ret
        first
          | exact ⟨ret_bool HV.out.symm, nx (nx hb0.drew (by assumption)) hb5⟩
          | exact ⟨ret_bool HV.out.symm, nx (nx hb0 (by assumption)) hb5⟩
  · rw [decide_eq_false h1] at q1
    have HV : Hid (sameB (adr n l d) (adr n2 l2 d2) = false) := by show _ = _; rw [HR.out, decide_eq_false h1]; rfl
    clear h1 q2
    go_enter Try.func12, Try.ntmps12
    go_wp2
    go_region_with (go_at_call 29; refine (boxKey_any _ _ _ _ ?_).mono ?_; assumption; rintro e w5 ⟨rfl, hb5⟩; obtain ⟨hc5, hf5⟩ := bcell hb5; have hsz5 := hb5.size; try simp at hsz5)
    all_goals
      go_wp2
      go_ret
      first
        | exact ⟨ret_bool HV.out.symm, nx (nx hb0.drew (by assumption)) hb5⟩
        | exact ⟨ret_bool HV.out.symm, nx (nx hb0 (by assumption)) hb5⟩
set_option maxRecDepth 100000 in
set_option maxHeartbeats 1000000 in
theorem sameBoxS_any (n l d n2 l2 d2 : ByteArray) (w : World) (hd : d.size ≤ 1073741824) (hd2 : d2.size ≤ 1073741824) :
    Calls Try.prog 30 #[.agg #[.string n, .string l, .string d], .agg #[.string n2, .string l2, .string d2]] w fun e w' => e = .returned (.bool (sameB (adr n l d) (adr n2 l2 d2))) ∧ Below w.heap.size w w' := by
  have hb0 : Below w.heap.size w ((w.alloc (.cells #[.string n, .string l, .string d] 29)).alloc (.cells #[.string n2, .string l2, .string d2] 29)) := ((Below.refl _ _).alloc (Nat.le_refl _) _).alloc (by simp) _
  have HR : Hid (sameB (adr n l d) (adr n2 l2 d2) = (decide (l = l2) && decide (lowS d = lowS d2))) := by
    show _ = _
    unfold sameB adr lowS
    rw [show decide (l.data.toList = l2.data.toList) = decide (l = l2) from decide_eq_decide.2 ⟨bytes_ext, fun h => by rw [h]⟩, show decide (low d.data.toList = low d2.data.toList) = decide (str (low d.data.toList) = str (low d2.data.toList)) from decide_eq_decide.2 ⟨fun h => by rw [h], fun h => by rw [← str_list (low d.data.toList), h, str_list]⟩]
  have q1 := beq_dec l l2
  by_cases h1 : l = l2
  · rw [decide_eq_true h1] at q1
    have H1 := Lib.hid h1
    clear h1
    go_enter Try.func30, Try.ntmps30
    go_wp2_with fail
    refine (sameTextS_any d d2 _ hd hd2).mono ?_
    rintro e w1 ⟨rfl, hb1⟩
    go_wp2
    go_ret
    exact ⟨ret_bool (by rw [HR.out, decide_eq_true H1.out]; rfl), nx hb0 hb1⟩
  · rw [decide_eq_false h1] at q1
    have H1 := Lib.hid h1
    clear h1
    go_enter Try.func30, Try.ntmps30
    go_wp2
    go_ret
    exact ⟨ret_bool (by rw [HR.out, decide_eq_false H1.out]; rfl), hb0⟩
end Go.Proofs.Ythcmdmjijdafoaa
