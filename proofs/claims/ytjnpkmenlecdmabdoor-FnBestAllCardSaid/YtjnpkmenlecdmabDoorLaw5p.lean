/-
  The laws of chapter 5 on plain lines and on every way: each law's walk. For every input of the law: it returns true, and the input reads as it did. Conditions: none but the statement's own.
-/
import Derived.Test.YtjnpkmenlecdmabDoorLaw0c
import Derived.Test.YtjnpkmenlecdmabDoorDrawC
import Derived.Test.YtjnpkmenlecdmabDoorDraw2
import Derived.Test.YtjnpkmenlecdmabDoorLaw5n
namespace Go.Proofs.YtjnpkmenlecdmabDoor
open Go.ChangeShapes Go.WideShapes Go.ChangeAt Go.RowKit
open Go.ChangeMaps (open_string shut_string)

theorem best_in {b : List UInt8} {m : Nat} (h : best b = some m) : b.length ≤ 300 := by
  unfold best at h
  split at h
  · cases h
  · omega
set_option maxRecDepth 100000 in
set_option maxHeartbeats 4000000 in
theorem fnBestAll_walk (a : Option Addr) (n c : Nat) (w : World) (hmx : ∃ m, w.cell? ⟨1, 0, none⟩ = some (.int .i64 m)) (hc : Code w a n) (hnc : n ≤ c) (hm : c ≤ maxLen) :
    Calls Tryd.prog 9 #[.slice a n c] w fun e w' => e = .returned (.bool true) ∧ Below w.heap.size w w' := by
  have hm' := hm
  unfold maxLen at hm'
  by_cases hn : 1048576 < n
  · have hd : decide ((1048576 : Int) < n) = true := by simp; omega
    go_enter Tryd.func9, Tryd.ntmps9
    go_wp2
    go_ret
    exact ⟨rfl, Below.refl _ _⟩
  have hd : decide ((1048576 : Int) < n) = false := by simp; omega
  go_enter Tryd.func9, Tryd.ntmps9
  go_wp2_with fail
  refine (drawBestCode_any a n c w hc hnc hm).mono ?_
  rintro e w1 ⟨s, rfl, hs, hb1⟩
  have HB := bestCode_any s w1 (mx_below hmx hb1) (by omega)
  have HBS := Lib.hid (fun u => bestCodeS_any s u (by omega))
  have hsz : s.size ≤ 1073741000 := by omega
  cases hbest : best s.data.toList with
  | none =>
    rw [hbest] at HB
    rw [hbest] at HBS
    have HB := Lib.hid HB
    clear hbest
    go_wp2_with fail
    refine HB.out.mono ?_
    rintro e w2 ⟨rfl, hb2⟩
    go_wp2_with fail
    refine (HBS.out _).mono ?_
    rintro e w3 ⟨rfl, hb3⟩
    go_wp2
    go_ret
    exact ⟨rfl, nx (nx hb1 hb2) hb3⟩
  | some m =>
    rw [hbest] at HB
    rw [hbest] at HBS
    have HB := Lib.hid HB
    have h300 := best_in hbest
    have HE : Hid (∀ q : Int, q = 1 ∨ q = 2 → ∀ u : World, Below w.heap.size w u → Calls Tryd.prog 30 #[.string s, .int .i64 q] u fun e w' => ∃ (a : Option Addr) (k c : Nat), e = .returned (.tuple #[.slice a k c, .bool true]) ∧ Below u.heap.size u w' ∧ Calls Tryd.prog 31 #[.slice a k c, .int .i64 q] w' fun e w'' => e = .returned (.tuple #[.string s, .bool true]) ∧ Below w'.heap.size w' w'') := fun q hq u hu => by
      obtain ⟨ys, hys⟩ : ∃ ys, encW s.data.toList q = some ys := by
        rcases hq with rfl | rfl
        · exact ⟨_, encQ_in h300⟩
        · exact ⟨_, encB_in h300⟩
      obtain ⟨hback, _, _⟩ := decW_encW hys
      have hsm := encW_small s.data.toList q
      rw [hys] at hsm
      obtain ⟨hyl, hyx⟩ := hsm
      change ys.length ≤ 500 at hyl
      change ∀ x ∈ ys, x.length ≤ 40 at hyx
      have := encodeBytes_any s q u (mx_below hmx hu) hsz
      rw [hys] at this
      refine this.mono ?_
      rintro e w' ⟨v, rfl, ho, hb⟩
      change OwnL u.heap.size v ys w' at ho
      obtain ⟨a', c', rfl, hr, _⟩ := ho.read
      refine ⟨a', _, c', rfl, hb, ?_⟩
      have := decodeBytes_any a' _ c' ys q w' hr (ownL_cap ho) (by omega) (fun x hx => Nat.le_trans (hyx x hx) (by omega))
      rw [hback] at this
      refine this.mono ?_
      rintro e w'' ⟨rfl, hb⟩
      exact ⟨by show _ = _; rw [Option.getD_some, str_of]; rfl, hb⟩
    rw [size_list] at h300
    have hz3i : (s.size : Int) ≤ 300 := by omega
    have hee : (s.toList == s.toList) = true := by simp
    clear hbest h300
    go_wp2_with fail
    refine HB.out.mono ?_
    rintro e w2 ⟨rfl, hb2⟩
    go_wp2_with fail
    refine (HBS.out _).mono ?_
    rintro e w3 ⟨rfl, hb3⟩
    have hB3 := nx (nx hb1 hb2) hb3
    go_wp2_with fail
    go_loopw [8] (fun i wr => ∃ k : Nat, 1 ≤ k ∧ k ≤ 3 ∧ i = .int .i64 k ∧ Below w3.heap.size w3 wr) (fun i _ => 3 - (intOf i).toNat)
    case atStart => exact ⟨1, by omega, by omega, rfl, Below.refl _ _⟩
    case round =>
      obtain ⟨k, hk1, hk3, rfl, hbr⟩ := hrel
      by_cases hlt : k ≤ 2
      · have hq : (k : Int) = 1 ∨ (k : Int) = 2 := by omega
        have hlti : (k : Int) ≤ 2 := by omega
        have HQ := Lib.hid hq
        have HBR := Lib.hid hbr
        clear hq hbr
        go_wp2_with fail
        refine (HE.out _ HQ.out _ (nx hB3 HBR.out)).mono ?_
        rintro e w4 ⟨a4, k4, c4, rfl, hb4, hdec⟩
        have HDEC := Lib.hid hdec
        clear hdec
        go_wp2_with fail
        refine HDEC.out.mono ?_
        rintro e w5 ⟨rfl, hb5⟩
        go_wp2
        go_roundw
        case rel => exact ⟨k + 1, by omega, by omega, by go_num, nx (nx HBR.out hb4) hb5⟩
        case measure => simp [intOf]; omega
      · have hlti : ¬ (k : Int) ≤ 2 := by omega
        go_wp2
        go_ret
        exact ⟨rfl, nx hB3 hbr⟩
end Go.Proofs.YtjnpkmenlecdmabDoor
