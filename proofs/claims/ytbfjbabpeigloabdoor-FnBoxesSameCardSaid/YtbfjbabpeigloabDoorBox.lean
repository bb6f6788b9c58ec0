/-
  Mailboxes in memory: rows of boxes, and how they are compared. No statement is proved here.
-/
import Derived.Test.YtbfjbabpeigloabDoorSsn
namespace Go.Proofs.YtbfjbabpeigloabDoor
open Go.RowKit

/-- A mailbox. -/
structure Bx where
  path : List UInt8
  mails : List Ml
deriving DecidableEq
theorem Bx.eq_iff (a b : Bx) : a = b ↔ str a.path = str b.path ∧ a.mails = b.mails := by
  constructor
  · rintro rfl; exact ⟨rfl, rfl⟩
  · rintro ⟨h1, h2⟩
    have : a.path = b.path := by rw [← str_list a.path, h1, str_list]
    cases a; cases b; simp_all
theorem bx_beq (a b : Bx) : decide (a = b) = (decide (str a.path = str b.path) && decide (a.mails = b.mails)) := by
  rw [← Bool.decide_and]; exact decide_eq_decide.2 (Bx.eq_iff a b)
def SmallBx (M : Nat) (b : Bx) : Prop := b.path.length ≤ M ∧ b.mails.length ≤ M ∧ ∀ m ∈ b.mails, SmallM M m
theorem SmallBx.up {M N : Nat} {b : Bx} (h : SmallBx M b) (hMN : M ≤ N) : SmallBx N b := ⟨by have := h.1; omega, by have := h.2.1; omega, fun m hm => (h.2.2 m hm).up hMN⟩
/-- A mailbox, and where its row lies. -/
structure BxA where
  path : List UInt8
  xs : List MlA
  a : Option Addr
  c : Nat
def BxA.b (x : BxA) : Bx := ⟨x.path, x.xs.map (·.m)⟩
def bxC (x : BxA) : List Value := [.string (str x.path), .slice x.a x.xs.length x.c]
theorem bxC_len (x : BxA) : (bxC x).length = 2 := rfl
/-- A mailbox in memory: its row of mails. -/
def RdBx (M : Nat) (w : World) (x : BxA) : Prop := RdMs M w x.a x.xs ∧ x.path.length ≤ M ∧ x.xs.length ≤ M ∧ x.xs.length ≤ x.c ∧ (x.a = none → x.c = 0)
theorem RdBx.below {M : Nat} {w w' : World} {x : BxA} (h : RdBx M w x) (k : Below w.heap.size w w') : RdBx M w' x := ⟨h.1.below k, h.2⟩
theorem RdMs.up {M N : Nat} {w : World} {a : Option Addr} {xs : List MlA} (h : RdMs M w a xs) (hs : ∀ x ∈ xs, SmallM N x.m) : RdMs N w a xs := ⟨h.1, fun x hx => ⟨(h.2 x hx).1, (h.2 x hx).2.1, hs x hx⟩⟩
theorem RdBx.up {M N : Nat} {w : World} {x : BxA} (h : RdBx M w x) (hs : SmallBx N x.b) : RdBx N w x :=
  ⟨h.1.up (fun y hy => hs.2.2 y.m (List.mem_map_of_mem hy)), hs.1, by have := hs.2.1; unfold BxA.b at this; rw [List.length_map] at this; exact this, h.2.2.2⟩
theorem RdBx.small {M : Nat} {w : World} {x : BxA} (h : RdBx M w x) : SmallBx M x.b := ⟨h.2.1, by unfold BxA.b; rw [List.length_map]; exact h.2.2.1, fun m hm => by
  obtain ⟨y, hy, rfl⟩ := List.mem_map.1 hm
  exact (h.1.2 y hy).2.2⟩
/-- A row of mailboxes. -/
def RdBs (M : Nat) (w : World) (a : Option Addr) (ys : List BxA) : Prop := RdR 2 bxC w a ys.length ys ∧ ∀ y ∈ ys, RdBx M w y
theorem RdBs.below {M : Nat} {w w' : World} {a : Option Addr} {ys : List BxA} (h : RdBs M w a ys) (k : Below w.heap.size w w') : RdBs M w' a ys := ⟨h.1.below k, fun x hx => (h.2 x hx).below k⟩
theorem RdBs.up {M N : Nat} {w : World} {a : Option Addr} {ys : List BxA} (h : RdBs M w a ys) (hs : ∀ x ∈ ys, SmallBx N x.b) : RdBs N w a ys := ⟨h.1, fun x hx => (h.2 x hx).up (hs x hx)⟩
/-- A mailbox of a row: its two cells. -/
theorem RdBs.at {M : Nat} {w : World} {a : Option Addr} {ys : List BxA} (h : RdBs M w a ys) {i : Nat} (hi : i < ys.length) : ∃ b off, a = some ⟨b, off, none⟩ ∧ b < w.heap.size ∧
    w.cell? ⟨b, off + i * 2, none⟩ = some (.string (str ys[i].path)) ∧ w.cell? ⟨b, off + i * 2 + 1, none⟩ = some (.slice ys[i].a ys[i].xs.length ys[i].c) ∧ RdBx M w ys[i] := by
  rcases h.1.2 with e | ⟨b, off, e, hb, hx⟩
  · omega
  · exact ⟨b, off, e, hb, hx i hi 0 _ rfl, hx i hi 1 _ rfl, h.2 _ (List.getElem_mem hi)⟩
/-- Two cells of a block. -/
def MK2 (w : World) (g : Nat) (v0 v1 : Value) : Prop := w.cell? ⟨g, 0, none⟩ = some v0 ∧ w.cell? ⟨g, 1, none⟩ = some v1
theorem MK2.below {w w' : World} {g : Nat} {v0 v1 : Value} (h : MK2 w g v0 v1) (hb : Below w.heap.size w w') : MK2 w' g v0 v1 := by
  have hl := lt_of_cell h.1
  exact ⟨(below_at hb hl).trans h.1, (below_at hb hl).trans h.2⟩
theorem MK2.new (w : World) (v0 v1 : Value) (t : TypeId) : MK2 (w.alloc (.cells #[v0, v1] t)) w.heap.size v0 v1 :=
  ⟨by rw [World.cell?_alloc_at _ _ _ _ rfl]; rfl, by rw [World.cell?_alloc_at _ _ _ _ rfl]; rfl⟩
theorem take_bxs {xs : List BxA} {k : Nat} (h : k < xs.length) : (xs.take (k + 1)).map BxA.b = (xs.take k).map BxA.b ++ [xs[k].b] := by
  rw [List.take_succ_eq_append_getElem h, List.map_append]; rfl
theorem bxs_all {xs ys : List BxA} {n k : Nat} (h1 : xs.length = n) (h2 : ys.length = n) (hk : n ≤ k) (h : (xs.take k).map BxA.b = (ys.take k).map BxA.b) : xs.map BxA.b = ys.map BxA.b := by
  rw [List.take_of_length_le (by omega), List.take_of_length_le (by omega)] at h; exact h
theorem bxs_ne {xs ys : List BxA} {k : Nat} (h1 : k < xs.length) (h2 : k < ys.length) (h : xs[k].b ≠ ys[k].b) : xs.map BxA.b ≠ ys.map BxA.b := fun e => h (by
  have e1 : (xs.map BxA.b)[k]? = (ys.map BxA.b)[k]? := by rw [e]
  rw [List.getElem?_map, List.getElem?_map, List.getElem?_eq_getElem h1, List.getElem?_eq_getElem h2] at e1
  injection e1)
set_option maxRecDepth 100000 in
set_option maxHeartbeats 2000000 in
theorem boxSame_any (M : Nat) (x y : BxA) (w : World) (h1 : RdBx M w x) (h2 : RdBx M w y) (hM : M ≤ maxLen) :
    Calls Tryd.prog 40 #[.agg #[.string (str x.path), .slice x.a x.xs.length x.c], .agg #[.string (str y.path), .slice y.a y.xs.length y.c]] w fun e w' => e = .returned (.bool (decide (x.b = y.b))) ∧ Below w.heap.size w w' := by
  rw [bx_beq]
  have HT : Hid (∀ u, Below w.heap.size w u → Calls Tryd.prog 64 #[.slice x.a x.xs.length x.c, .slice y.a y.xs.length y.c, .func (.func 13) #[] #[]] u fun e w' => e = .returned (.bool (decide (x.b.mails = y.b.mails))) ∧ Below u.heap.size u w') := fun u hb => equalFunc_any M x.a y.a x.xs.length x.c y.xs.length y.c x.xs y.xs u rfl rfl (h1.1.below hb) (h2.1.below hb) hM (by have := h1.2.2.1; omega) (by have := h2.2.2.1; omega)
  clear h1 h2 hM
  generalize decide (x.b.mails = y.b.mails) = g1 at *
  show Calls _ _ _ _ fun e w' => e = .returned (.bool (decide (str x.path = str y.path) && g1)) ∧ _
  have d0 := beq_dec (str x.path) (str y.path)
  generalize decide (str x.path = str y.path) = g0 at *
  generalize str x.path = s1 at *
  generalize str y.path = s2 at *
  generalize x.xs.length = n1 at *
  generalize y.xs.length = n2 at *
  generalize x.a = a1 at *
  generalize y.a = a2 at *
  generalize x.c = c1 at *
  generalize y.c = c2 at *
  have hA1 : Below w.heap.size w (w.alloc (.cells #[.string s1, .slice a1 n1 c1] 35)) := (Below.refl _ _).alloc (Nat.le_refl _) _
  have hA2 : Below (w.alloc (.cells #[.string s1, .slice a1 n1 c1] 35)).heap.size (w.alloc (.cells #[.string s1, .slice a1 n1 c1] 35)) ((w.alloc (.cells #[.string s1, .slice a1 n1 c1] 35)).alloc (.cells #[.string s2, .slice a2 n2 c2] 35)) := (Below.refl _ _).alloc (Nat.le_refl _) _
  have hA := nx hA1 hA2
  cases g0
  · go_enter Tryd.func40, Tryd.ntmps40
    go_wp2
    go_ret
    exact ⟨rfl, hA⟩
  · go_enter Tryd.func40, Tryd.ntmps40
    go_wp2_with fail
    refine (HT.out _ hA).mono ?_
    rintro e w1 ⟨rfl, hb1⟩
    cases g1
    · go_wp2
      go_ret
      exact ⟨rfl, nx hA hb1⟩
    · go_wp2
      go_ret
      exact ⟨rfl, nx hA hb1⟩
set_option maxRecDepth 100000 in
set_option maxHeartbeats 4000000 in
theorem boxesFunc_any (M : Nat) (a1 a2 : Option Addr) (n1 c1 n2 c2 : Nat) (xs ys : List BxA) (w : World) (hx : xs.length = n1) (hy : ys.length = n2) (h1 : RdBs M w a1 xs) (h2 : RdBs M w a2 ys) (hM : M ≤ maxLen) (hn1 : n1 ≤ maxLen) (hn2 : n2 ≤ maxLen) :
    Calls Tryd.prog 39 #[.slice a1 n1 c1, .slice a2 n2 c2, .func (.func 40) #[] #[]] w fun e w' => e = .returned (.bool (decide (xs.map BxA.b = ys.map BxA.b))) ∧ Below w.heap.size w w' := by
  unfold maxLen at hn1 hn2
  have X1 := Lib.hid h1
  have X2 := Lib.hid h2
  have L1 := Lib.hid hx
  have L2 := Lib.hid hy
  clear h1 h2 hx hy
  by_cases hn : n1 = n2
  · subst hn
    have e1 : ((n1 : Int) != (n1 : Int)) = false := by simp
    go_enter Tryd.func39, Tryd.ntmps39
    go_wp2_with fail
    go_loopw [17] (fun i wr => ∃ k : Nat, k ≤ n1 ∧ i = .int .i64 k ∧ Below w.heap.size w wr ∧ (xs.take k).map BxA.b = (ys.take k).map BxA.b) (fun i _ => n1 - (intOf i).toNat)
    case atStart => exact ⟨0, Nat.zero_le _, rfl, Below.refl _ _, rfl⟩
    case round =>
      obtain ⟨k, hk, rfl, hb, htk⟩ := hrel
      have HTK := Lib.hid htk
      clear htk
      by_cases hlt : k < n1
      · have k1 : k < xs.length := by rw [L1.out]; exact hlt
        have k2 : k < ys.length := by rw [L2.out]; exact hlt
        obtain ⟨b1, o1, rfl, hb1, p0, p1, p3⟩ := (X1.out.below hb).at k1
        obtain ⟨b2, o2, rfl, hb2, q0, q1, q3⟩ := (X2.out.below hb).at k2
        have hkn : (k : Int) < (n1 : Int) := by omega
        have hk0 : (0 : Int) ≤ (k : Int) := by omega
        have HC : Hid (∀ u, Below wr.heap.size wr u → Calls Tryd.prog 40 #[.agg #[.string (str xs[k].path), .slice xs[k].a xs[k].xs.length xs[k].c], .agg #[.string (str ys[k].path), .slice ys[k].a ys[k].xs.length ys[k].c]] u fun e w' => e = .returned (.bool (decide (xs[k].b = ys[k].b))) ∧ Below u.heap.size u w') := fun u hu => boxSame_any M xs[k] ys[k] u (p3.below hu) (q3.below hu) hM
        have HT1 := Lib.hid (take_bxs k1)
        have HT2 := Lib.hid (take_bxs k2)
        have HNE := Lib.hid (bxs_ne k1 k2)
        clear p3 q3
        by_cases hq : xs[k].b = ys[k].b
        · have HN : Hid ((xs.take (k + 1)).map BxA.b = (ys.take (k + 1)).map BxA.b) := by show _ = _; rw [HT1.out, HT2.out, HTK.out, hq]
          rw [decide_eq_true hq] at HC
          clear hq HT1 HT2 HNE
          generalize xs[k] = x at *
          generalize ys[k] = y at *
          go_wp2_with fail
          refine (HC.out _ (((Below.refl _ _).alloc (Nat.le_refl _) _).alloc (by simp) _)).mono ?_
          rintro e w5 ⟨rfl, hb5⟩
          have hbx := nx hb (nx (((Below.refl _ _).alloc (Nat.le_refl _) _).alloc (by simp) _) hb5)
          clear p0 p1 q0 q1
          go_wp2
          go_roundw
          case rel => exact ⟨k + 1, by omega, by go_num, hbx, HN.out⟩
          case measure => simp [intOf]; omega
        · have HN : Hid (xs.map BxA.b ≠ ys.map BxA.b) := HNE.out hq
          rw [decide_eq_false hq] at HC
          clear hq HT1 HT2 HNE
          generalize xs[k] = x at *
          generalize ys[k] = y at *
          go_wp2_with fail
          refine (HC.out _ (((Below.refl _ _).alloc (Nat.le_refl _) _).alloc (by simp) _)).mono ?_
          rintro e w5 ⟨rfl, hb5⟩
          have hbx := nx hb (nx (((Below.refl _ _).alloc (Nat.le_refl _) _).alloc (by simp) _) hb5)
          clear p0 p1 q0 q1
          go_wp2
          go_ret
          exact ⟨ret_bool (decide_eq_false HN.out).symm, hbx⟩
      · have HN : Hid (xs.map BxA.b = ys.map BxA.b) := bxs_all L1.out L2.out (by omega) HTK.out
        go_wp2
        go_ret
        exact ⟨ret_bool (decide_eq_true HN.out).symm, hb⟩
  · have e1 : ((n1 : Int) != (n2 : Int)) = true := by rw [bne_iff_ne]; omega
    have HN : Hid (xs.map BxA.b ≠ ys.map BxA.b) := by show _ ≠ _; intro e; have := congrArg List.length e; rw [List.length_map, List.length_map, L1.out, L2.out] at this; exact hn this
    go_enter Tryd.func39, Tryd.ntmps39
    go_wp2
    go_ret
    exact ⟨ret_bool (decide_eq_false HN.out).symm, Below.refl _ _⟩
theorem boxesSame_any (M : Nat) (a1 a2 : Option Addr) (n1 c1 n2 c2 : Nat) (xs ys : List BxA) (w : World) (hx : xs.length = n1) (hy : ys.length = n2) (h1 : RdBs M w a1 xs) (h2 : RdBs M w a2 ys) (hM : M ≤ maxLen) (hn1 : n1 ≤ maxLen) (hn2 : n2 ≤ maxLen) :
    Calls Tryd.prog 12 #[.slice a1 n1 c1, .slice a2 n2 c2] w fun e w' => e = .returned (.bool (decide (xs.map BxA.b = ys.map BxA.b))) ∧ Below w.heap.size w w' := by
  have HT : Hid (∀ u, Below w.heap.size w u → Calls Tryd.prog 39 #[.slice a1 n1 c1, .slice a2 n2 c2, .func (.func 40) #[] #[]] u fun e w' => e = .returned (.bool (decide (xs.map BxA.b = ys.map BxA.b))) ∧ Below u.heap.size u w') := fun u hb => boxesFunc_any M a1 a2 n1 c1 n2 c2 xs ys u hx hy (h1.below hb) (h2.below hb) hM hn1 hn2
  generalize decide (xs.map BxA.b = ys.map BxA.b) = q at *
  clear h1 h2 hx hy hn1 hn2
  go_enter Tryd.func12, Tryd.ntmps12
  go_wp2_with fail
  refine (HT.out _ (Below.refl _ _)).mono ?_
  rintro e w1 ⟨rfl, hb1⟩
  go_wp2
  go_ret
  exact ⟨rfl, hb1⟩
end Go.Proofs.YtbfjbabpeigloabDoor
