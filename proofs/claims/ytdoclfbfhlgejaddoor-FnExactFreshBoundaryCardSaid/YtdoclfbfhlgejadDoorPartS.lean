/-
  Parts between boundaries: what the model's functions return. No statement is proved here.
-/
import Derived.Test.YtdoclfbfhlgejadDoorPart
namespace Go.Proofs.YtdoclfbfhlgejadDoor
open Go.RowKit

set_option maxRecDepth 100000 in
set_option maxHeartbeats 400000 in
theorem l7Looks_any (x : List UInt8) (s : ByteArray) (w : World) (hs : s.size ≤ 1000000) :
    Calls Tryd.prog 10 #[.string (str x), .string s] w fun e w' => e = .returned (.bool (looksB s.data.toList x)) ∧ w = w' := by
  have HB := Lib.hid (beg_str s)
  have HB2 : Hid ((⟨#[45, 45]⟩ : ByteArray) ++ s ++ ⟨#[45, 45]⟩ = str (endL s.data.toList)) := by show _ = _; rw [HB.out]; exact end_str s
  have z2 : (⟨#[45, 45]⟩ : ByteArray).size = 2 := rfl
  by_cases h1 : x = begL s.data.toList
  · have e1 : ((str x).toList == ((⟨#[45, 45]⟩ : ByteArray) ++ s).toList) = true := by rw [beq_dec, decide_eq_true_iff, HB.out, h1]
    have HL : Hid (looksB s.data.toList x = true) := by show _ = _; unfold looksB; simp [h1]
    clear h1
    generalize str x = X at *
    go_enter Tryd.func10, Tryd.ntmps10
    go_wp2
    go_ret
    exact ⟨ret_bool HL.out.symm, rfl⟩
  · have e1 : ((str x).toList == ((⟨#[45, 45]⟩ : ByteArray) ++ s).toList) = false := by rw [HB.out]; exact sb_f rfl h1
    by_cases h2 : x = endL s.data.toList
    · have e2 : ((str x).toList == ((⟨#[45, 45]⟩ : ByteArray) ++ s ++ ⟨#[45, 45]⟩).toList) = true := by rw [beq_dec, decide_eq_true_iff, HB2.out, h2]
      have HL : Hid (looksB s.data.toList x = true) := by show _ = _; unfold looksB; simp [h2]
      clear h1 h2
      generalize str x = X at *
      go_enter Tryd.func10, Tryd.ntmps10
      go_wp2
      go_ret
      exact ⟨ret_bool HL.out.symm, rfl⟩
    · have e2 : ((str x).toList == ((⟨#[45, 45]⟩ : ByteArray) ++ s ++ ⟨#[45, 45]⟩).toList) = false := by rw [HB2.out]; exact sb_f rfl h2
      have HL : Hid (looksB s.data.toList x = false) := by show _ = _; unfold looksB; simp [h1, h2]
      clear h1 h2
      generalize str x = X at *
      go_enter Tryd.func10, Tryd.ntmps10
      go_wp2
      go_ret
      exact ⟨ret_bool HL.out.symm, rfl⟩
end Go.Proofs.YtdoclfbfhlgejadDoor
