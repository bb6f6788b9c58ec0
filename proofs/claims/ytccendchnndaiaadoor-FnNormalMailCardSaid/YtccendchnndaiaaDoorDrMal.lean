/-
  Mails copied and drawn in the model. No statement is proved here.
-/
import Derived.Test.YtccendchnndaiaaDoorMalO
import Derived.Test.YtccendchnndaiaaDoorStu
import Derived.Test.YtccendchnndaiaaDoorTailR
import Derived.Test.YtccendchnndaiaaDoorDraw2
namespace Go.Proofs.YtccendchnndaiaaDoor
open Go.RowKit

/-- Blocks below B stay, from a world on that has B blocks. -/
def SB (B : Nat) (a b : World) : Prop := B ≤ a.heap.size → Below B a b
theorem sbOk (B : Nat) : RelOk Grow (SB B) := ⟨Grow.refl, Grow.trans, fun h k hB => (h hB).trans (k (Nat.le_trans hB (h hB).size)), fun h hB => Below.mono h hB⟩
instance (B : Nat) (W : World) : Nonempty (RelT (SB B) W) := ⟨⟨W, fun _ => Below.refl _ _⟩⟩
set_option maxRecDepth 100000 in
set_option maxHeartbeats 400000 in
theorem wp_append_H {o : Oper} {Q : Exit → Act → World → Prop} {K : Act → World → Prop} {a : Act} {w : World} (s x : Operand)
    (ho : o.op = .call { callee := .builtin .append, args := #[s, x], argTypes := #[23, 23] })
    (B : Nat) (v : Value) (xs ys : List (List UInt8)) (ad : Option Addr) (n c : Nat) (hs : a.eval s = v) (hx : a.eval x = .slice ad n c) (hown : OwnL B v xs w) (hy : RdL w ad n ys) (hac : ad = none → c = 0) (hB : B ≤ w.heap.size) (hl : xs.length + ys.length ≤ 10000000)
    (h : ∀ v' w', OwnL B v' (xs ++ ys) w' → w.grownBy w' v.ownBlock → (v'.ownBlock = v.ownBlock ∨ v'.ownBlock = some w.heap.size) → K (a.put o.dst v') w') : o.wp Tryd.prog a w K Q := by
  obtain ⟨i0, hi, hz0, hz1, hz2⟩ := info_parts sInfo
  have hn := hy.1
  unfold OwnL at hown
  cases ad with
  | none =>
    have h0 : n = 0 := by
      rcases hy.2 with e | ⟨b, off, e, _⟩
      · exact e
      · cases e
    obtain rfl := hac rfl
    subst h0
    have hn0 : ys = [] := List.length_eq_zero_iff.1 hn
    have hrun := run_append_owned_none (P := Tryd.prog) (w := w) B 23 o.type 9 i0 1 Tryd.underlying23 hi v xs.length (xs.map strV) hown
    unfold Oper.wp
    simp [execOp, ho, resolve, invoke, builtin, hs, hx, hrun, Result.andThen]
    refine h v w ?_ ⟨rfl, rfl, rfl, Nat.le_refl _, fun _ _ _ => rfl⟩ (.inl rfl)
    subst hn0
    rw [List.append_nil]; exact hown
  | some q =>
    obtain ⟨v', w', hr, h2, h3, _, h5⟩ := run_append_own_at (P := Tryd.prog) w B 23 o.type 9 i0 (.string ⟨#[]⟩) 1 16 Tryd.underlying23 hi hz0 hz1 hz2 rfl (by decide) v xs.length (xs.map strV) hown q n c (ys.map strV) (by simp [hn])
      (fun j u hu => by
        have hj : j < ys.length := by rcases Nat.lt_or_ge j ys.length with h | h; exact h; rw [List.getElem?_eq_none (by simpa using h)] at hu; cases hu
        rcases hy.2 with e | ⟨b, off, e, _, hc⟩
        · omega
        · injection e with e
          subst e
          rw [addr_add, hc j hj]
          rw [List.getElem?_map, List.getElem?_eq_getElem hj] at hu
          exact hu)
      (fun z hz => by obtain ⟨q, _, rfl⟩ := List.mem_map.1 hz; rfl) (by unfold maxLen; omega) (by omega) hB
    unfold Oper.wp execOp
    simp only [ho, resolve, invoke, builtin, Sem.run_bind, Sem.run_pure, Result.andThen_ok, List.map_toArray, List.map_cons, List.map_nil, hs, hx, hr]
    refine h v' w' ?_ h3 h5
    unfold OwnL; rw [List.length_append, List.map_append, hn]; exact h2
/-- Two rows of the call's own, apart. -/
structure St2 (B : Nat) (w : World) (v : Value) (xs : List (List UInt8)) (u : Value) (ys : List (List UInt8)) : Prop where
  a : OwnL B v xs w
  b : OwnL B u ys w
  ap : ∀ g, v.ownBlock = some g → u.ownBlock ≠ some g
theorem St2.keep {B : Nat} {w w' : World} {v u : Value} {xs ys : List (List UInt8)} (h : St2 B w v xs u ys) (k : Below w.heap.size w w') : St2 B w' v xs u ys := ⟨h.a.keep k, h.b.keep k, h.ap⟩
theorem St2.swap {B : Nat} {w : World} {v u : Value} {xs ys : List (List UInt8)} (h : St2 B w v xs u ys) : St2 B w u ys v xs := ⟨h.b, h.a, fun g hg e => h.ap g e hg⟩
theorem St2.new {B : Nat} {w : World} {v : Value} {xs : List (List UInt8)} (h : OwnL B v xs w) (hB : B ≤ w.heap.size) : St2 B (w.alloc (.cells #[] 9)) v xs (.slice (some ⟨w.heap.size, 0, none⟩) 0 0) [] :=
  ⟨h.keep ((Below.refl _ _).alloc (Nat.le_refl _) _), (OwnL.empty w).base hB, fun g hg e => by
    have := (h.lt g hg).2
    have e' : some w.heap.size = some g := e
    injection e' with e'
    omega⟩
theorem St2.appR {B : Nat} {w w' : World} {v u u' : Value} {xs ys zs : List (List UInt8)} (h : St2 B w v xs u ys) (ho : OwnL B u' zs w') (hg : w.grownBy w' u.ownBlock) (hat : u'.ownBlock = u.ownBlock ∨ u'.ownBlock = some w.heap.size) : St2 B w' v xs u' zs :=
  ⟨h.a.grown hg (fun g hv e => h.ap g hv e), ho, fun g hv e => by
    rcases hat with h' | h'
    · exact h.ap g hv (by rw [← h']; exact e)
    · rw [h'] at e
      injection e with e
      have := (h.a.lt g hv).2
      omega⟩
theorem grown_below {B : Nat} {w w' : World} {u : Value} {xs : List (List UInt8)} (h : OwnL B u xs w) (hg : w.grownBy w' u.ownBlock) (hB : B ≤ w.heap.size) : Below B w w' := (Below.refl _ _).grown hg hB (fun g hv => (h.lt g hv).1)
theorem St2.touch {B R : Nat} {w w' : World} {v u : Value} {xs ys : List (List UInt8)} (h : St2 B w v xs u ys) (t : Touch R w w') (hR : R < B) : St2 B w' v xs u ys := ⟨h.a.touch t hR, h.b.touch t hR, h.ap⟩
theorem St2.off {B g i : Nat} {w : World} {v u : Value} {xs ys : List (List UInt8)} (h : St2 B w v xs u ys) (h1 : ∀ q, v.ownBlock = some q → q ≠ g) (h2 : ∀ q, u.ownBlock = some q → q ≠ g) (z : Value) : St2 B (w.setCell ⟨g, i, none⟩ z) v xs u ys := by
  have key : ∀ {v : Value} {xs : List (List UInt8)}, OwnL B v xs w → (∀ q, v.ownBlock = some q → q ≠ g) → OwnL B v xs (w.setCell ⟨g, i, none⟩ z) := fun {v xs} h hv => by
    refine ⟨h.1, ?_⟩
    rcases h.2 with hn | ⟨q, cap, cur, e, hg1, hg2, rest⟩
    · exact .inl hn
    · exact .inr ⟨q, cap, cur, e, hg1, by rw [Below.heap_setCell _ _ _ _ (hv q (by rw [e]; rfl)), hg2], rest⟩
  exact ⟨key h.a h1, key h.b h2, h.ap⟩
theorem St2.base {B C : Nat} {w : World} {v u : Value} {xs ys : List (List UInt8)} (h : St2 B w v xs u ys) (k : C ≤ B) : St2 C w v xs u ys := ⟨h.a.base k, h.b.base k, h.ap⟩
theorem mf3_grown {w w' : World} {o : Option Nat} {g : Nat} {v0 v1 v2 : Value} (h : MF3 w g v0 v1 v2) (t : w.grownBy w' o) (hne : ∀ q, o = some q → q ≠ g) : MF3 w' g v0 v1 v2 := by
  have hl := lt_of_cell h.1.1
  have hb := t.block g hl (fun e => hne g e.symm rfl)
  have hc : ∀ i, w'.cell? ⟨g, i, none⟩ = w.cell? ⟨g, i, none⟩ := fun i => by unfold World.cell?; rw [hb]
  have hf : ∀ i, w'.frozen? ⟨g, i, none⟩ = w.frozen? ⟨g, i, none⟩ := fun i => by unfold World.frozen?; rw [hb]
  exact ⟨⟨(hc 0).trans h.1.1, (hc 1).trans h.1.2.1, (hc 2).trans h.1.2.2⟩, fun i => (hf i).trans (h.2 i)⟩
set_option maxRecDepth 100000 in
set_option maxHeartbeats 4000000 in
theorem l10Mail_any (M : Nat) (x : MlA) (w : World) (h : RdM M w x) (hM : M ≤ 1000000) :
    Calls Tryd.prog 84 #[mlV x] w (MalRet x.m w) := by
  obtain ⟨⟨f1, xs, ys⟩, a, c, b, d⟩ := x
  obtain ⟨⟨p1, _, hac⟩, ⟨p2, _, hbd⟩, p0, p3, p5, p4, p6⟩ := h
  dsimp only at *
  unfold mlV
  dsimp only
  have P1 := Lib.hid p1
  have P2 := Lib.hid p2
  have hl1 : xs.length ≤ 1000000 := by omega
  have hl2 : ys.length ≤ 1000000 := by omega
  have HD : Hid (∀ (a1 : Option Addr) (c1 : Nat) (a2 : Option Addr) (c2 : Nat) (w' : World), OwnL w.heap.size (.slice a1 xs.length c1) xs w' → OwnL w.heap.size (.slice a2 ys.length c2) ys w' → (∀ g, (Value.slice a1 xs.length c1).ownBlock = some g → (Value.slice a2 ys.length c2).ownBlock ≠ some g) → Below w.heap.size w w' → MalRet ⟨f1, xs, ys⟩ w (.returned (.agg #[.string (str f1), .slice a1 xs.length c1, .slice a2 ys.length c2])) w') :=
    fun a1 c1 a2 c2 w' h1 h2 h3 h4 => ⟨⟨⟨f1, xs, ys⟩, a1, c1, a2, c2⟩, rfl, rfl, ⟨h1, h2, h3⟩, h4⟩
  have hbP : Below w.heap.size w (w.alloc (.cells #[.string (str f1), .slice a xs.length c, .slice b ys.length d] 25)) := (Below.refl _ _).alloc (Nat.le_refl _) _
  have hbZ : Below (w.alloc (.cells #[.string (str f1), .slice a xs.length c, .slice b ys.length d] 25)).heap.size (w.alloc (.cells #[.string (str f1), .slice a xs.length c, .slice b ys.length d] 25)) ((w.alloc (.cells #[.string (str f1), .slice a xs.length c, .slice b ys.length d] 25)).alloc (.cells #[.string ⟨#[]⟩, .slice none 0 0, .slice none 0 0] 25)) := (Below.refl _ _).alloc (Nat.le_refl _) _
  have HP : Hid (MK3 ((w.alloc (.cells #[.string (str f1), .slice a xs.length c, .slice b ys.length d] 25)).alloc (.cells #[.string ⟨#[]⟩, .slice none 0 0, .slice none 0 0] 25)) w.heap.size (.string (str f1)) (.slice a xs.length c) (.slice b ys.length d)) := (MK3.new w _ _ _ _).below hbZ
  have HZ : Hid (MF3 ((w.alloc (.cells #[.string (str f1), .slice a xs.length c, .slice b ys.length d] 25)).alloc (.cells #[.string ⟨#[]⟩, .slice none 0 0, .slice none 0 0] 25)) (w.heap.size + 1) (.string ⟨#[]⟩) (.slice none 0 0) (.slice none 0 0)) := by
    have := MF3.new (w.alloc (.cells #[.string (str f1), .slice a xs.length c, .slice b ys.length d] 25)) (.string ⟨#[]⟩) (.slice none 0 0) (.slice none 0 0) 25
    have e : (w.alloc (.cells #[.string (str f1), .slice a xs.length c, .slice b ys.length d] 25)).heap.size = w.heap.size + 1 := by simp
    rw [e] at this; exact this
  have hb0 := nx hbP hbZ
  have hsz : w.heap.size + 1 < ((w.alloc (.cells #[.string (str f1), .slice a xs.length c, .slice b ys.length d] 25)).alloc (.cells #[.string ⟨#[]⟩, .slice none 0 0, .slice none 0 0] 25)).heap.size := by simp
  clear p1 p2 p0 p3 p5 p4 p6 hbP hbZ
  generalize str f1 = s1 at *
  obtain ⟨n1, hn1⟩ : ∃ n, n = xs.length := ⟨_, rfl⟩
  obtain ⟨n2, hn2⟩ : ∃ n, n = ys.length := ⟨_, rfl⟩
  go_enter Tryd.func84, Tryd.ntmps84
  go_wp2_with fail
  generalize hW : (w.alloc (.cells #[.string s1, .slice a xs.length c, .slice b ys.length d] 25)).alloc (.cells #[.string ⟨#[]⟩, .slice none 0 0, .slice none 0 0] 25) = W0 at *
  clear hW
  have HB : Hid (∀ u, Below W0.heap.size W0 u → MK3 u w.heap.size (.string s1) (.slice a xs.length c) (.slice b ys.length d)) := fun u hu => HP.out.below hu
  have D0 : Below W0.heap.size W0 W0.drew := (Below.refl _ _).drew
  have Q1 : Hid (∀ u, Below W0.heap.size W0 u → RdL u a xs.length xs) := fun u hu => P1.out.below (nx hb0 hu)
  have Q2 : Hid (∀ u, Below W0.heap.size W0 u → RdL u b ys.length ys) := fun u hu => P2.out.below (nx hb0 hu)
  refine wp_region_tail (by kernel_rfl) ?_
  refine wpAny_tailW (sbOk W0.heap.size) (fuel := 11) (tf := 1) [11] (by kernel_rfl) ?_
  refine wpAnyW_take (sbOk W0.heap.size) (fuel := 5) [true, true, false, true, true, false, false, true, true] (by kernel_rfl) (by kernel_rfl) (by rfl) (by kernel_rfl) (by kernel_rfl) (by kernel_rfl) ?_
  apply Exists.intro
  refine ⟨fun x => ?_, ?_⟩
  · have hx := x.rel (by exact D0.size)
    have y0 := fun (y : RelT Grow x.val) => (HB.out y.val ((D0.trans hx).trans (y.rel.mono (Nat.le_trans D0.size hx.size)))).1
    have y1 := fun (y : RelT Grow x.val) => (HB.out y.val ((D0.trans hx).trans (y.rel.mono (Nat.le_trans D0.size hx.size)))).2.1
    have y2 := fun (y : RelT Grow x.val) => (HB.out y.val ((D0.trans hx).trans (y.rel.mono (Nat.le_trans D0.size hx.size)))).2.2
    simp only [pickL]
    repeat (go_big_quiet_step (fail))
    exact wpQuiet_nil rfl
  refine wpAnyW_two (m := 2) (n := 6) (by kernel_rfl) (fun u1 g1 => ?_) (fun u1 g1 => ?_)
  · skip
    have E1 : Below W0.heap.size W0 u1 := nx D0 g1
    refine wpOp_at (o := _) (by rfl) (by rfl) ?_
    go_simp
    refine ⟨fun h => ((Below.refl _ _).alloc (Nat.le_refl _) _).mono h, ?_⟩
    try simp only [Act.put, List.setIfInBounds_toArray, List.set_cons_zero, List.set_cons_succ]
    have F1 : Below W0.heap.size W0 (u1.alloc (.cells #[] 9)) := nx E1 ((Below.refl _ _).alloc (Nat.le_refl _) _)
    have R1 : OwnL W0.heap.size (.slice (some ⟨u1.heap.size, 0, none⟩) 0 0) [] (u1.alloc (.cells #[] 9)) := (OwnL.empty u1).base E1.size
    generalize u1.alloc (.cells #[] 9) = V1 at *
    generalize hX1 : u1.heap.size = X1 at R1 ⊢
    clear hX1
    refine wpAnyW_two (m := 5) (n := 6) (by kernel_rfl) (fun u2 g2 => ?_) (fun u2 g2 => ?_)
    · skip
      have E2 : Below W0.heap.size W0 u2 := nx F1 g2
      have T2 := R1.keep g2
      refine wpOp_at (o := _) (by rfl) (by rfl) ?_
      refine wp_append_H _ _ rfl W0.heap.size _ [] xs a xs.length c rfl rfl T2 (Q1.out _ E2) hac E2.size (by simp; omega) ?_
      intro v2 V2 o2 gr2 at2
      have G2 : Below W0.heap.size u2 V2 := grown_below T2 gr2 E2.size
      refine ⟨fun _ => G2, ?_⟩
      have F2 : Below W0.heap.size W0 V2 := E2.trans G2
      replace o2 : OwnL W0.heap.size v2 xs V2 := o2
      have R2 := o2
      obtain ⟨a2x, c2x, rfl, _, _, _⟩ := o2.readc
      clear o2 gr2 at2 G2
      try simp only [Act.put, List.setIfInBounds_toArray]
      refine wpAnyW_one (m := 6) (by kernel_rfl) (fun u3 g3 => ?_)
      have E3 : Below W0.heap.size W0 u3 := nx F2 g3
      have T3 := R2.keep g3
      refine wpOp_at (o := _) (by rfl) (by rfl) ?_
      go_simp
      refine ⟨fun h => ((Below.refl _ _).alloc (Nat.le_refl _) _).mono h, ?_⟩
      try simp only [Act.put, List.setIfInBounds_toArray, List.set_cons_zero, List.set_cons_succ]
      have F3 : Below W0.heap.size W0 (u3.alloc (.cells #[] 9)) := nx E3 ((Below.refl _ _).alloc (Nat.le_refl _) _)
      have R3 := St2.new T3 E3.size
      generalize u3.alloc (.cells #[] 9) = V3 at *
      generalize hX3 : u3.heap.size = X3 at R3 ⊢
      clear hX3
      refine wpAnyW_one (m := 9) (by kernel_rfl) (fun u4 g4 => ?_)
      have E4 : Below W0.heap.size W0 u4 := nx F3 g4
      have T4 := R3.keep g4
      refine wpOp_at (o := _) (by rfl) (by rfl) ?_
      refine wp_append_H _ _ rfl W0.heap.size _ [] ys b ys.length d rfl rfl T4.b (Q2.out _ E4) hbd E4.size (by simp; omega) ?_
      intro v4 V4 o4 gr4 at4
      have G4 : Below W0.heap.size u4 V4 := grown_below T4.b gr4 E4.size
      refine ⟨fun _ => G4, ?_⟩
      have F4 : Below W0.heap.size W0 V4 := E4.trans G4
      replace o4 : OwnL W0.heap.size v4 ys V4 := o4
      have R4 := St2.appR T4 o4 gr4 at4
      obtain ⟨a4x, c4x, rfl, _, _, _⟩ := o4.readc
      clear o4 gr4 at4 G4
      try simp only [Act.put, List.setIfInBounds_toArray]
      refine wpAnyW_one (m := 10) (by kernel_rfl) (fun u5 g5 => ?_)
      have E5 : Below W0.heap.size W0 u5 := nx F4 g5
      have T5 := R4.keep g5
      refine wpOp_at (o := _) (by rfl) (by rfl) ?_
      go_simp
      refine ⟨fun _ => Below.refl _ _, ?_⟩
      try simp only [Act.put, List.setIfInBounds_toArray, List.set_cons_zero, List.set_cons_succ]
      refine wpAnyW_rest (by kernel_rfl) (fun U h9 => ?_)
      have EU : Below W0.heap.size W0 U := nx E5 h9
      have HT := Lib.hid (T5.keep h9)
      have HEU := Lib.hid EU
      obtain ⟨⟨z0, z1, z2⟩, zf⟩ := HZ.out.below EU
      have hzl : w.heap.size + 1 < U.heap.size := Nat.lt_of_lt_of_le hsz EU.size
      refine wpAny_one (m := 11) (by kernel_rfl) ?_
      refine wpOp_at (o := _) (by rfl) (by rfl) ?_
      go_simp
      try simp only [Act.put]
      refine wpAny_end (by kernel_rfl) ?_ _
      go_wp2
      refine bodyPost_ret (v := .agg #[.string s1, .slice a2x xs.length c2x, .slice a4x ys.length c4x]) (by simp [results, Tryd.results84, go_sem, z0, z1, z2]) rfl ?_
      exact HD.out a2x c2x a4x c4x _ (((((HT.out.a).off (g := w.heap.size + 1) (i := 0) (by omega) _).off (g := w.heap.size + 1) (i := 1) (by omega) _).off (g := w.heap.size + 1) (i := 2) (by omega) _).base (by omega)) (((((HT.out.b).off (g := w.heap.size + 1) (i := 0) (by omega) _).off (g := w.heap.size + 1) (i := 1) (by omega) _).off (g := w.heap.size + 1) (i := 2) (by omega) _).base (by omega)) HT.out.ap ((((nx hb0 HEU.out).setCell (p := ⟨w.heap.size + 1, 0, none⟩) (Nat.le_succ _) _).setCell (p := ⟨w.heap.size + 1, 1, none⟩) (Nat.le_succ _) _).setCell (p := ⟨w.heap.size + 1, 2, none⟩) (Nat.le_succ _) _)
    · skip
      have E2 : Below W0.heap.size W0 u2 := nx F1 g2
      have T2 := R1.keep g2
      refine wpOp_at (o := _) (by rfl) (by rfl) ?_
      go_simp
      refine ⟨fun h => ((Below.refl _ _).alloc (Nat.le_refl _) _).mono h, ?_⟩
      try simp only [Act.put, List.setIfInBounds_toArray, List.set_cons_zero, List.set_cons_succ]
      have F2 : Below W0.heap.size W0 (u2.alloc (.cells #[] 9)) := nx E2 ((Below.refl _ _).alloc (Nat.le_refl _) _)
      have R2 := St2.new T2 E2.size
      generalize u2.alloc (.cells #[] 9) = V2 at *
      generalize hX2 : u2.heap.size = X2 at R2 ⊢
      clear hX2
      refine wpAnyW_one (m := 5) (by kernel_rfl) (fun u6 g6 => ?_)
      have E6 : Below W0.heap.size W0 u6 := nx F2 g6
      have T6 := R2.keep g6
      refine wpOp_at (o := _) (by rfl) (by rfl) ?_
      refine wp_append_H _ _ rfl W0.heap.size _ [] xs a xs.length c rfl rfl T6.a (Q1.out _ E6) hac E6.size (by simp; omega) ?_
      intro v6 V6 o6 gr6 at6
      have G6 : Below W0.heap.size u6 V6 := grown_below T6.a gr6 E6.size
      refine ⟨fun _ => G6, ?_⟩
      have F6 : Below W0.heap.size W0 V6 := E6.trans G6
      replace o6 : OwnL W0.heap.size v6 xs V6 := o6
      have R6 := (St2.appR T6.swap o6 gr6 at6).swap
      obtain ⟨a6x, c6x, rfl, _, _, _⟩ := o6.readc
      clear o6 gr6 at6 G6
      try simp only [Act.put, List.setIfInBounds_toArray]
      refine wpAnyW_one (m := 9) (by kernel_rfl) (fun u7 g7 => ?_)
      have E7 : Below W0.heap.size W0 u7 := nx F6 g7
      have T7 := R6.keep g7
      refine wpOp_at (o := _) (by rfl) (by rfl) ?_
      refine wp_append_H _ _ rfl W0.heap.size _ [] ys b ys.length d rfl rfl T7.b (Q2.out _ E7) hbd E7.size (by simp; omega) ?_
      intro v7 V7 o7 gr7 at7
      have G7 : Below W0.heap.size u7 V7 := grown_below T7.b gr7 E7.size
      refine ⟨fun _ => G7, ?_⟩
      have F7 : Below W0.heap.size W0 V7 := E7.trans G7
      replace o7 : OwnL W0.heap.size v7 ys V7 := o7
      have R7 := St2.appR T7 o7 gr7 at7
      obtain ⟨a7x, c7x, rfl, _, _, _⟩ := o7.readc
      clear o7 gr7 at7 G7
      try simp only [Act.put]
      refine wpAnyW_one (m := 10) (by kernel_rfl) (fun u8 g8 => ?_)
      have E8 : Below W0.heap.size W0 u8 := nx F7 g8
      have T8 := R7.keep g8
      refine wpOp_at (o := _) (by rfl) (by rfl) ?_
      go_simp
      refine ⟨fun _ => Below.refl _ _, ?_⟩
      try simp only [Act.put, List.setIfInBounds_toArray, List.set_cons_zero, List.set_cons_succ]
      refine wpAnyW_rest (by kernel_rfl) (fun U h9 => ?_)
      have EU : Below W0.heap.size W0 U := nx E8 h9
      have HT := Lib.hid (T8.keep h9)
      have HEU := Lib.hid EU
      obtain ⟨⟨z0, z1, z2⟩, zf⟩ := HZ.out.below EU
      have hzl : w.heap.size + 1 < U.heap.size := Nat.lt_of_lt_of_le hsz EU.size
      refine wpAny_one (m := 11) (by kernel_rfl) ?_
      refine wpOp_at (o := _) (by rfl) (by rfl) ?_
      go_simp
      try simp only [Act.put]
      refine wpAny_end (by kernel_rfl) ?_ _
      go_wp2
      refine bodyPost_ret (v := .agg #[.string s1, .slice a6x xs.length c6x, .slice a7x ys.length c7x]) (by simp [results, Tryd.results84, go_sem, z0, z1, z2]) rfl ?_
      exact HD.out a6x c6x a7x c7x _ (((((HT.out.a).off (g := w.heap.size + 1) (i := 0) (by omega) _).off (g := w.heap.size + 1) (i := 1) (by omega) _).off (g := w.heap.size + 1) (i := 2) (by omega) _).base (by omega)) (((((HT.out.b).off (g := w.heap.size + 1) (i := 0) (by omega) _).off (g := w.heap.size + 1) (i := 1) (by omega) _).off (g := w.heap.size + 1) (i := 2) (by omega) _).base (by omega)) HT.out.ap ((((nx hb0 HEU.out).setCell (p := ⟨w.heap.size + 1, 0, none⟩) (Nat.le_succ _) _).setCell (p := ⟨w.heap.size + 1, 1, none⟩) (Nat.le_succ _) _).setCell (p := ⟨w.heap.size + 1, 2, none⟩) (Nat.le_succ _) _)
  · skip
    have E1 : Below W0.heap.size W0 u1 := nx D0 g1
    refine wpOp_at (o := _) (by rfl) (by rfl) ?_
    go_simp
    refine ⟨fun h => ((Below.refl _ _).alloc (Nat.le_refl _) _).mono h, ?_⟩
    try simp only [Act.put, List.setIfInBounds_toArray, List.set_cons_zero, List.set_cons_succ]
    have F1 : Below W0.heap.size W0 (u1.alloc (.cells #[] 9)) := nx E1 ((Below.refl _ _).alloc (Nat.le_refl _) _)
    have R1 : OwnL W0.heap.size (.slice (some ⟨u1.heap.size, 0, none⟩) 0 0) [] (u1.alloc (.cells #[] 9)) := (OwnL.empty u1).base E1.size
    generalize u1.alloc (.cells #[] 9) = V1 at *
    generalize hX1 : u1.heap.size = X1 at R1 ⊢
    clear hX1
    refine wpAnyW_one (m := 2) (by kernel_rfl) (fun u9 g9 => ?_)
    have E9 : Below W0.heap.size W0 u9 := nx F1 g9
    have T9 := R1.keep g9
    refine wpOp_at (o := _) (by rfl) (by rfl) ?_
    go_simp
    refine ⟨fun h => ((Below.refl _ _).alloc (Nat.le_refl _) _).mono h, ?_⟩
    try simp only [Act.put, List.setIfInBounds_toArray, List.set_cons_zero, List.set_cons_succ]
    have F9 : Below W0.heap.size W0 (u9.alloc (.cells #[] 9)) := nx E9 ((Below.refl _ _).alloc (Nat.le_refl _) _)
    have R9 := St2.new T9 E9.size
    generalize u9.alloc (.cells #[] 9) = V9 at *
    generalize hX9 : u9.heap.size = X9 at R9 ⊢
    clear hX9
    refine wpAnyW_one (m := 5) (by kernel_rfl) (fun u10 g10 => ?_)
    have E10 : Below W0.heap.size W0 u10 := nx F9 g10
    have T10 := R9.keep g10
    refine wpOp_at (o := _) (by rfl) (by rfl) ?_
    refine wp_append_H _ _ rfl W0.heap.size _ [] xs a xs.length c rfl rfl T10.b (Q1.out _ E10) hac E10.size (by simp; omega) ?_
    intro v10 V10 o10 gr10 at10
    have G10 : Below W0.heap.size u10 V10 := grown_below T10.b gr10 E10.size
    refine ⟨fun _ => G10, ?_⟩
    have F10 : Below W0.heap.size W0 V10 := E10.trans G10
    replace o10 : OwnL W0.heap.size v10 xs V10 := o10
    have R10 := St2.appR T10 o10 gr10 at10
    obtain ⟨a10x, c10x, rfl, _, _, _⟩ := o10.readc
    clear o10 gr10 at10 G10
    try simp only [Act.put, List.setIfInBounds_toArray]
    refine wpAnyW_one (m := 9) (by kernel_rfl) (fun u11 g11 => ?_)
    have E11 : Below W0.heap.size W0 u11 := nx F10 g11
    have T11 := R10.keep g11
    refine wpOp_at (o := _) (by rfl) (by rfl) ?_
    refine wp_append_H _ _ rfl W0.heap.size _ [] ys b ys.length d rfl rfl T11.a (Q2.out _ E11) hbd E11.size (by simp; omega) ?_
    intro v11 V11 o11 gr11 at11
    have G11 : Below W0.heap.size u11 V11 := grown_below T11.a gr11 E11.size
    refine ⟨fun _ => G11, ?_⟩
    have F11 : Below W0.heap.size W0 V11 := E11.trans G11
    replace o11 : OwnL W0.heap.size v11 ys V11 := o11
    have R11 := (St2.appR T11.swap o11 gr11 at11).swap
    obtain ⟨a11x, c11x, rfl, _, _, _⟩ := o11.readc
    clear o11 gr11 at11 G11
    try simp only [Act.put]
    replace R11 := R11.swap
    refine wpAnyW_one (m := 10) (by kernel_rfl) (fun u12 g12 => ?_)
    have E12 : Below W0.heap.size W0 u12 := nx F11 g12
    have T12 := R11.keep g12
    refine wpOp_at (o := _) (by rfl) (by rfl) ?_
    go_simp
    refine ⟨fun _ => Below.refl _ _, ?_⟩
    try simp only [Act.put, List.setIfInBounds_toArray, List.set_cons_zero, List.set_cons_succ]
    refine wpAnyW_rest (by kernel_rfl) (fun U h9 => ?_)
    have EU : Below W0.heap.size W0 U := nx E12 h9
    have HT := Lib.hid (T12.keep h9)
    have HEU := Lib.hid EU
    obtain ⟨⟨z0, z1, z2⟩, zf⟩ := HZ.out.below EU
    have hzl : w.heap.size + 1 < U.heap.size := Nat.lt_of_lt_of_le hsz EU.size
    refine wpAny_one (m := 11) (by kernel_rfl) ?_
    refine wpOp_at (o := _) (by rfl) (by rfl) ?_
    go_simp
    try simp only [Act.put]
    refine wpAny_end (by kernel_rfl) ?_ _
    go_wp2
    refine bodyPost_ret (v := .agg #[.string s1, .slice a10x xs.length c10x, .slice a11x ys.length c11x]) (by simp [results, Tryd.results84, go_sem, z0, z1, z2]) rfl ?_
    exact HD.out a10x c10x a11x c11x _ (((((HT.out.a).off (g := w.heap.size + 1) (i := 0) (by omega) _).off (g := w.heap.size + 1) (i := 1) (by omega) _).off (g := w.heap.size + 1) (i := 2) (by omega) _).base (by omega)) (((((HT.out.b).off (g := w.heap.size + 1) (i := 0) (by omega) _).off (g := w.heap.size + 1) (i := 1) (by omega) _).off (g := w.heap.size + 1) (i := 2) (by omega) _).base (by omega)) HT.out.ap ((((nx hb0 HEU.out).setCell (p := ⟨w.heap.size + 1, 0, none⟩) (Nat.le_succ _) _).setCell (p := ⟨w.heap.size + 1, 1, none⟩) (Nat.le_succ _) _).setCell (p := ⟨w.heap.size + 1, 2, none⟩) (Nat.le_succ _) _)
theorem numM_lit (R p n g : Nat) (xs : List Int) (t : TypeId) (w : World) (hg : w.heap.size = g) (hr : Rd w R p) (hp : p ≤ 1000000000) (hn : xs.length = n) (h0 : 0 < n) (h1 : n ≤ 1000000) :
    Calls Tryd.prog 82 #[.pointer (some ⟨R, 0, none⟩), .slice (some ⟨g, 0, none⟩) n n] (w.alloc (.cells (xs.map (Value.int .i64)).toArray t)) fun e w' => ∃ x, x ∈ xs ∧ e = .returned (.int .i64 x) ∧ Rd w' R (p + 1) ∧ Touch R w w' := by
  subst hg
  have hb : Below w.heap.size w (w.alloc (.cells (xs.map (Value.int .i64)).toArray t)) := (Below.refl _ _).alloc (Nat.le_refl _) _
  refine (num_any R p w.heap.size 0 n n xs _ (hr.below hb) hp (by have := hr.lt; omega) (by simp) h0 h1 hn (fun i hi => ?_)).mono ?_
  · rw [World.cell?_alloc_at _ _ _ _ rfl]; simp [hi]
  · rintro e w' ⟨x, h1, h2, h3, h4⟩
    exact ⟨x, h1, h2, h3, (Touch.of_below hb).trans h4⟩
/-- A mail is drawn. -/
def DrawnM (R p c M : Nat) (w : World) (e : Ending) (w' : World) : Prop := ∃ (x : MlA) (p' : Nat), e = .returned (mlV x) ∧ OwnM w.heap.size w' x ∧ SmallM M x.m ∧ p ≤ p' ∧ p' ≤ p + c ∧ Rd w' R p' ∧ Touch R w w'
theorem drawnM_mk {R p c M p' : Nat} {w w' : World} {s : ByteArray} {a b : Option Addr} {xs ys : List (List UInt8)} {k d : Nat} (hs : s.size ≤ M) (hx : xs.length ≤ M) (hxx : ∀ x ∈ xs, x.length ≤ M) (hy : ys.length ≤ M) (hyy : ∀ x ∈ ys, x.length ≤ M)
    (h : St2 w.heap.size w' (.slice a xs.length k) xs (.slice b ys.length d) ys) (h1 : p ≤ p') (h2 : p' ≤ p + c) (hr : Rd w' R p') (ht : Touch R w w') : DrawnM R p c M w (.returned (.agg #[.string s, .slice a xs.length k, .slice b ys.length d])) w' :=
  ⟨⟨⟨s.data.toList, xs, ys⟩, a, k, b, d⟩, p', by unfold mlV; dsimp only; rw [str_of], ⟨h.a, h.b, h.ap⟩, ⟨hs, hx, hxx, hy, hyy⟩, h1, h2, hr, ht⟩
theorem rd_one {w : World} {g : Nat} {x : ByteArray} (h : w.cell? ⟨g, 0, none⟩ = some (.string x)) : RdL w (some ⟨g, 0, none⟩) 1 [x.data.toList] :=
  ⟨rfl, .inr ⟨g, 0, rfl, lt_of_cell h, fun i hi => by
    obtain rfl : i = 0 := by simpa using hi
    rw [Nat.add_zero, h]; simp [str_of]⟩⟩
theorem touch_set {R g i : Nat} {w w' : World} (h : Touch R w w') (hB : w.heap.size ≤ g) (z : Value) : Touch R w (w'.setCell ⟨g, i, none⟩ z) :=
  ⟨h.os, h.tape, h.output, by simpa [World.setCell] using h.size, fun k hk hr => by rw [Below.heap_setCell _ _ _ _ (by show k ≠ g; omega)]; exact h.block k hk hr⟩
set_option maxRecDepth 100000 in
set_option maxHeartbeats 8000000 in
theorem l10DrawMail_any (R p : Nat) (w : World) (hr : Rd w R p) (hp : p ≤ 999998000) : Calls Tryd.prog 53 #[.pointer (some ⟨R, 0, none⟩)] w (DrawnM R p 9 40 w) := by
  have hRl := hr.lt
  have HZ0 := Lib.hid (MF3.new w (.string ⟨#[]⟩) (.slice none 0 0) (.slice none 0 0) 25)
  have hbZ : Below w.heap.size w (w.alloc (.cells #[.string ⟨#[]⟩, .slice none 0 0, .slice none 0 0] 25)) := (Below.refl _ _).alloc (Nat.le_refl _) _
  have hrZ := hr.below hbZ
  have hzZ : (w.alloc (.cells #[.string ⟨#[]⟩, .slice none 0 0, .slice none 0 0] 25)).heap.size = w.heap.size + 1 := by simp
  go_enter Tryd.func53, Tryd.ntmps53
  go_wp2_with fail
  generalize hW0 : w.alloc (.cells #[.string ⟨#[]⟩, .slice none 0 0, .slice none 0 0] 25) = W0 at *
  clear hW0
  rw [← hzZ]
  refine (of_lit R p 3 40 _ _ W0 hrZ (by omega) (by omega) (by omega) (by decide)).mono ?_
  rintro e w1 ⟨s1, p1, rfl, g1, f1, k1, hr1, ht1⟩
  have hs1 := ht1.size
  have HZ1 := Lib.hid (HZ0.out.touch ht1 (by omega))
  go_wp2_with fail
  refine (of_lit R p1 2 40 _ _ w1 hr1 (by omega) (by omega) (by omega) (by decide)).mono ?_
  rintro e w2 ⟨s2, p2, rfl, g2, f2, k2, hr2, ht2⟩
  have hs2 := ht2.size
  have HZ2 := Lib.hid (HZ1.out.touch ht2 (by omega))
  have hT2 : Touch R w w2 := (Touch.of_below hbZ).trans (ht1.trans ht2)
  have hR1 : OwnL w2.heap.size (.slice (some ⟨w2.heap.size, 0, none⟩) 1 1) [s2.data.toList] (w2.alloc (.cells #[.string s2] 9)) := own_row w2 [s2.data.toList] _ (by simp [strV, str_of]) (by simp)
  have hb3 : Below w2.heap.size w2 (w2.alloc (.cells #[.string s2] 9)) := (Below.refl _ _).alloc (Nat.le_refl _) _
  have hS := St2.new hR1 hb3.size
  have hz3 : (w2.alloc (.cells #[.string s2] 9)).heap.size = w2.heap.size + 1 := by simp
  rw [hz3] at hS
  have hb4 : Below w2.heap.size w2 ((w2.alloc (.cells #[.string s2] 9)).alloc (.cells #[] 9)) := hb3.alloc hb3.size _
  have hz4 : ((w2.alloc (.cells #[.string s2] 9)).alloc (.cells #[] 9)).heap.size = w2.heap.size + 1 + 1 := by simp
  have hb5 : Below w2.heap.size w2 (((w2.alloc (.cells #[.string s2] 9)).alloc (.cells #[] 9)).alloc (.cells #[.string s1, .slice (some ⟨w2.heap.size, 0, none⟩) 1 1, .slice (some ⟨w2.heap.size + 1, 0, none⟩) 0 0] 25)) := hb4.alloc hb4.size _
  have HS4 : Hid (St2 (w.heap.size + 1) (((w2.alloc (.cells #[.string s2] 9)).alloc (.cells #[] 9)).alloc (.cells #[.string s1, .slice (some ⟨w2.heap.size, 0, none⟩) 1 1, .slice (some ⟨w2.heap.size + 1, 0, none⟩) 0 0] 25)) (.slice (some ⟨w2.heap.size, 0, none⟩) 1 1) [s2.data.toList] (.slice (some ⟨w2.heap.size + 1, 0, none⟩) 0 0) []) :=
    (hS.keep ((Below.refl _ _).alloc (Nat.le_refl _) _)).base (by omega)
  have HK4 : Hid (MF3 (((w2.alloc (.cells #[.string s2] 9)).alloc (.cells #[] 9)).alloc (.cells #[.string s1, .slice (some ⟨w2.heap.size, 0, none⟩) 1 1, .slice (some ⟨w2.heap.size + 1, 0, none⟩) 0 0] 25)) (w2.heap.size + 1 + 1) (.string s1) (.slice (some ⟨w2.heap.size, 0, none⟩) 1 1) (.slice (some ⟨w2.heap.size + 1, 0, none⟩) 0 0)) := by
    have := MF3.new ((w2.alloc (.cells #[.string s2] 9)).alloc (.cells #[] 9)) (.string s1) (.slice (some ⟨w2.heap.size, 0, none⟩) 1 1) (.slice (some ⟨w2.heap.size + 1, 0, none⟩) 0 0) 25
    rw [hz4] at this; exact this
  have HZ4 := Lib.hid (HZ2.out.below hb5)
  have hr4 := hr2.below hb5
  have hT4 := hT2.trans (Touch.of_below hb5)
  have hz5 : w2.heap.size + 1 + 1 < (((w2.alloc (.cells #[.string s2] 9)).alloc (.cells #[] 9)).alloc (.cells #[.string s1, .slice (some ⟨w2.heap.size, 0, none⟩) 1 1, .slice (some ⟨w2.heap.size + 1, 0, none⟩) 0 0] 25)).heap.size := by simp
  clear hR1 hb3 hS hz3 hb4 hz4 hb5
  go_wp2_with fail
  generalize ((w2.alloc (.cells #[.string s2] 9)).alloc (.cells #[] 9)).alloc (.cells #[.string s1, .slice (some ⟨w2.heap.size, 0, none⟩) 1 1, .slice (some ⟨w2.heap.size + 1, 0, none⟩) 0 0] 25) = W4 at *
  have HNA : Hid (∀ q, (Value.slice (some ⟨w2.heap.size, 0, none⟩) 1 1).ownBlock = some q → q ≠ w2.heap.size + 1 + 1) := fun q hq => by
    have : some w2.heap.size = some q := hq
    injection this with this; omega
  have HNB : Hid (∀ q, (Value.slice (some ⟨w2.heap.size + 1, 0, none⟩) 0 0).ownBlock = some q → q ≠ w2.heap.size + 1 + 1) := fun q hq => by
    have : some (w2.heap.size + 1) = some q := hq
    injection this with this; omega
  have hKR : w2.heap.size + 1 + 1 ≠ R := by omega
  have hKw : w.heap.size + 1 ≤ w2.heap.size + 1 + 1 := by omega
  generalize w2.heap.size + 1 + 1 = K at *
  generalize hU0 : Value.slice (some ⟨w2.heap.size + 1, 0, none⟩) 0 0 = U0 at *
  obtain ⟨bb, hbb⟩ : ∃ bb : Option Addr, U0 = .slice bb 0 0 := ⟨_, hU0.symm⟩
  subst hbb
  clear hU0
  generalize some (⟨w2.heap.size, 0, none⟩ : Addr) = aa at *
  clear hzZ hs2 ht2 HZ2 HZ1 HZ0 hr2 hrZ hbZ
  refine (pick_any R p2 3 W4 hr4 (by omega) (by omega)).mono ?_
  rintro e w5 ⟨m0, rfl, hm0, hr5, ht5⟩
  have hs5 := ht5.size
  have HZ5 := Lib.hid (HZ4.out.touch ht5 (by omega))
  have HK5 := Lib.hid (HK4.out.touch ht5 hKR)
  have HS5 := Lib.hid (HS4.out.touch ht5 (by omega))
  have hT5 := hT4.trans ht5
  have hK5 : K < w5.heap.size := by omega
  clear HZ4 HK4 HS4
  go_wp2_with fail
  go_loopw [4] (fun i wr => ∃ (m : Int) (acc : List (List UInt8)) (a : Option Addr) (d p' : Nat), 0 ≤ m ∧ m + acc.length ≤ 4 ∧ i = .int .i64 m ∧ p ≤ p' ∧ p' + m ≤ p + 5 ∧ St2 (w.heap.size + 1) wr (.slice a acc.length d) acc (.slice bb 0 0) [] ∧ (∀ q, (Value.slice a acc.length d).ownBlock = some q → q ≠ K) ∧ (∀ x ∈ acc, x.length ≤ 40) ∧ MF3 wr K (.string s1) (.slice a acc.length d) (.slice bb 0 0) ∧ MF3 wr w.heap.size (.string ⟨#[]⟩) (.slice none 0 0) (.slice none 0 0) ∧ Rd wr R p' ∧ Touch R w wr ∧ K < wr.heap.size) (fun i _ => (intOf i).toNat)
  case atStart => exact ⟨_, [s2.data.toList], aa, 1, p2 + 1, by omega, by simp; omega, rfl, by omega, by omega, HS5.out, HNA.out, (fun x hx => by rw [List.mem_singleton.1 hx]; show s2.data.toList.length ≤ 40; rw [size_list]; omega), HK5.out, HZ5.out, hr5, hT5, hK5⟩
  case round =>
    clear hr1 hr4 hr5 ht1 hT2 hT4 ht5 hT5 hs1 hs5 hK5 HZ5 HK5 HS5 hm0
    obtain ⟨m, acc, a, d, p', hm0, hml, rfl, hp1, hp2, hst, hnk, hacc, hk, hz, hrd, ht, hKr⟩ := hrel
    have HACC := Lib.hid hacc
    have HNK := Lib.hid hnk
    have HKK := Lib.hid hk
    have HZZ := Lib.hid hz
    have HST := Lib.hid hst
    have hszr := ht.size
    clear hacc hnk hk hz hst
    by_cases hmp : 0 < m
    · go_wp2_with fail
      have HB : Hid (∀ u, Touch R wr u → u.cell? ⟨K, 1, none⟩ = some (.slice a acc.length d)) := fun u hu => (HKK.out.touch hu hKR).1.2.1
      refine wp_region_tail (by kernel_rfl) ?_
      refine wpAny_tailW (touchOk R) (fuel := 6) (tf := 3) [6, 7, 8] (by kernel_rfl) ?_
      refine wpAnyW_take (touchOk R) (fuel := 3) [true, true, true] (by kernel_rfl) (by kernel_rfl) (by rfl) (by kernel_rfl) (by kernel_rfl) (by kernel_rfl) ?_
      apply Exists.intro
      refine ⟨fun x => ?_, ?_⟩
      · have y0 := fun (y : RelT Grow x.val) => HB.out y.val (((Touch.refl R wr).drew).trans (x.rel.trans (Touch.of_below y.rel)))
        simp only [pickL]
        repeat (go_big_quiet_step (fail))
        exact wpQuiet_nil rfl
      have T0 : Touch R wr wr.drew := (Touch.refl R wr).drew
      have R0 : Rd wr.drew R p' := hrd.below ((Below.refl _ _).drew)
      refine wpAnyW_one (m := 3) (by kernel_rfl) (fun u1 g1 => ?_)
      refine wpOp_at (o := _) (by rfl) (by rfl) ?_
      go_simp
      refine ⟨Touch.of_below ((Below.refl _ _).alloc (Nat.le_refl _) _), ?_⟩
      try simp only [Act.put, List.setIfInBounds_toArray, List.set_cons_zero, List.set_cons_succ]
      have S3 := strs_new u1 #[.string ⟨#[98, 111, 98, 64, 121, 46, 111, 114, 103]⟩, .string ⟨#[99, 121, 64, 120, 46, 111, 114, 103]⟩, .string ⟨#[66, 111, 98, 64, 121, 46, 111, 114, 103]⟩] 9 3 40 (by decide)
      have A3 : Below u1.heap.size u1 (u1.alloc (.cells #[.string ⟨#[98, 111, 98, 64, 121, 46, 111, 114, 103]⟩, .string ⟨#[99, 121, 64, 120, 46, 111, 114, 103]⟩, .string ⟨#[66, 111, 98, 64, 121, 46, 111, 114, 103]⟩] 9)) := (Below.refl _ _).alloc (Nat.le_refl _) _
      have T3 := T0.trans ((Touch.of_below g1).trans (Touch.of_below A3))
      have R3 := (R0.below g1).below A3
      have B3 : u1.heap.size ≠ R := by have := g1.size; have := T0.size; omega
      generalize u1.alloc (.cells #[.string ⟨#[98, 111, 98, 64, 121, 46, 111, 114, 103]⟩, .string ⟨#[99, 121, 64, 120, 46, 111, 114, 103]⟩, .string ⟨#[66, 111, 98, 64, 121, 46, 111, 114, 103]⟩] 9) = V3 at *
      refine wpAnyW_one (m := 4) (by kernel_rfl) (fun u2 g2 => ?_)
      refine wpOp_at (o := _) (by rfl) (by rfl) ?_
      go_simp
      replace S3 := S3.touch (Touch.of_below g2) B3
      refine (of_any R _ u1.heap.size 0 3 3 40 _ (R3.below g2) (by omega) B3 (by omega) (by omega) S3).mono ?_
      rintro e v4 ⟨sA, psA, rfl, gsA, fsA, ksA, RsA, tsA⟩
      refine ⟨tsA, ?_⟩
      try simp only [Act.put, List.setIfInBounds_toArray, List.set_cons_zero, List.set_cons_succ]
      have TsA := T3.trans ((Touch.of_below g2).trans tsA)
      clear S3
      refine wpAnyW_one (m := 5) (by kernel_rfl) (fun u9 g9 => ?_)
      refine wpOp_at (o := _) (by rfl) (by rfl) ?_
      go_simp
      refine ⟨Touch.of_below ((Below.refl _ _).alloc (Nat.le_refl _) _), ?_⟩
      try simp only [Act.put, List.setIfInBounds_toArray, List.set_cons_zero, List.set_cons_succ]
      have N0 : (u9.alloc (.cells #[.string sA] 9)).cell? ⟨u9.heap.size, 0, none⟩ = some (.string sA) := by rw [World.cell?_alloc_at _ _ _ _ rfl]; rfl
      have A9 : Below u9.heap.size u9 (u9.alloc (.cells #[.string sA] 9)) := (Below.refl _ _).alloc (Nat.le_refl _) _
      generalize u9.alloc (.cells #[.string sA] 9) = V9 at *
      refine wpAnyW_rest (by kernel_rfl) (fun u10 g10 => ?_)
      have b10 : Below v4.heap.size v4 u10 := nx (nx g9 A9) g10
      have T10 := TsA.trans (Touch.of_below b10)
      have R10 := RsA.below b10
      have hs10 := T10.size
      have HK10 := Lib.hid (HKK.out.touch T10 hKR)
      have HZ10 := Lib.hid (HZZ.out.touch T10 (by omega))
      have HS10 := Lib.hid (HST.out.touch T10 (by omega))
      have N1 := (below_at g10 (lt_of_cell N0)).trans N0
      refine wpAny_one (m := 6) (by kernel_rfl) ?_
      refine wpOp_at (o := _) (by rfl) (by rfl) ?_
      refine wp_append_H _ _ rfl (w.heap.size + 1) _ acc [sA.data.toList] (some ⟨u9.heap.size, 0, none⟩) 1 1 rfl rfl HS10.out.a (rd_one N1) (fun h => by cases h) (by omega) (by simp; omega) ?_
      intro v11 u11 o11 gr11 at11
      have b11 : Below (w.heap.size + 1) u10 u11 := grown_below HS10.out.a gr11 (by omega)
      have hs11 := b11.size
      have HK11 := Lib.hid (mf3_grown HK10.out gr11 HNK.out)
      have HZ11 := Lib.hid (mf3_grown HZ10.out gr11 (fun q hq => by have := (HS10.out.a.lt q hq).1; omega))
      have HS11 := Lib.hid ((St2.appR HS10.out.swap o11 gr11 at11).swap)
      have T11 := (ht.trans T10).ext (b11.mono (by omega))
      have R11 := R10.belowB b11 (by omega)
      have HN11 : Hid (∀ q, v11.ownBlock = some q → q ≠ K) := fun q hq => by
        rcases at11 with h | h
        · exact HNK.out q (h.symm.trans hq)
        · rw [h] at hq; injection hq with hq; omega
      obtain ⟨zs, hzs⟩ : ∃ zs, zs = acc ++ [sA.data.toList] := ⟨_, rfl⟩
      have hzl : zs.length ≤ acc.length + 1 := by rw [hzs]; simp
      have HZS : Hid (∀ x ∈ zs, x.length ≤ 40) := fun x hx => by
        rw [hzs] at hx
        rcases List.mem_append.1 hx with h | h
        · exact HACC.out x h
        · rw [List.mem_singleton.1 h, size_list]; omega
      rw [← hzs] at HS11 o11
      obtain ⟨a11, c11, rfl, _, _, _⟩ := o11.readc
      clear hzs o11 N0 N1 gr11 at11
      try simp only [Act.put, List.setIfInBounds_toArray]
      obtain ⟨⟨y0, y1, y2⟩, yf⟩ := HK11.out
      refine wpAny_one (m := 7) (by kernel_rfl) ?_
      refine wpOp_at (o := _) (by rfl) (by rfl) ?_
      go_simp
      try simp only [Act.put, List.setIfInBounds_toArray, List.set_cons_zero, List.set_cons_succ]
      refine wpAny_one (m := 8) (by kernel_rfl) ?_
      refine wpOp_at (o := _) (by rfl) (by rfl) ?_
      go_simp
      try simp only [Act.put]
      refine wpAny_end (by kernel_rfl) ?_ _
      have HS12 := Lib.hid (HS11.out.off (g := K) (i := 1) HN11.out HNB.out (.slice a11 zs.length c11))
      have HK12 := Lib.hid (HK11.out.set1 (.slice a11 zs.length c11))
      have HZ12 := Lib.hid (HZ11.out.off (h := K) (i := 1) (by omega) (.slice a11 zs.length c11))
      have T12 : Touch R w (u11.setCell ⟨K, 1, none⟩ (.slice a11 zs.length c11)) := touch_set T11 (by omega) _
      have R12 := R11.belowB ((Below.refl w.heap.size u11).setCell (p := ⟨K, 1, none⟩) (by show w.heap.size ≤ K; omega) (.slice a11 zs.length c11)) hRl
      have hK12 : K < (u11.setCell ⟨K, 1, none⟩ (.slice a11 zs.length c11)).heap.size := by simp; omega
      clear y0 y1 y2 yf
      generalize u11.setCell ⟨K, 1, none⟩ (.slice a11 zs.length c11) = V12 at *
      go_wp2
      go_roundw
      case rel => exact ⟨m - 1, zs, a11, c11, psA, by omega, by omega, by go_num, by omega, by omega, HS12.out, HN11.out, HZS.out, HK12.out, HZ12.out, R12, T12, hK12⟩
      case measure => simp [intOf]; omega
    · have hml1 : acc.length ≤ 4 := by omega
      go_wp2_with fail
      refine (numM_lit R p' 4 wr.heap.size [2, 3, 1, 0] 3 wr rfl hrd (by omega) rfl (by omega) (by omega)).mono ?_
      rintro e w8 ⟨m8, hm8, rfl, hr8, ht8⟩
      have hm8' : 0 ≤ m8 ∧ m8 ≤ 3 := by
        simp only [List.mem_cons, List.not_mem_nil, or_false] at hm8; omega
      have hs8 := ht8.size
      have HZ8 := Lib.hid (HZZ.out.touch ht8 (by omega))
      have HK8 := Lib.hid (HKK.out.touch ht8 hKR)
      have HS8 := Lib.hid (HST.out.touch ht8 (by omega))
      have hT8 := ht.trans ht8
      have hK8 : K < w8.heap.size := by omega
      clear hm8 HZZ HKK HST
      go_wp2_with fail
      go_loopw [5] (fun i wz => ∃ (m : Int) (bcc : List (List UInt8)) (b : Option Addr) (d2 p'' : Nat), 0 ≤ m ∧ m + bcc.length ≤ 3 ∧ i = .int .i64 m ∧ p ≤ p'' ∧ p'' + m ≤ p + 9 ∧ St2 (w.heap.size + 1) wz (.slice a acc.length d) acc (.slice b bcc.length d2) bcc ∧ (∀ q, (Value.slice b bcc.length d2).ownBlock = some q → q ≠ K) ∧ (∀ x ∈ bcc, x.length ≤ 40) ∧ MF3 wz K (.string s1) (.slice a acc.length d) (.slice b bcc.length d2) ∧ MF3 wz w.heap.size (.string ⟨#[]⟩) (.slice none 0 0) (.slice none 0 0) ∧ Rd wz R p'' ∧ Touch R w wz ∧ K < wz.heap.size) (fun i _ => (intOf i).toNat)
      case atStart => exact ⟨m8, [], bb, 0, p' + 1, hm8'.1, by simp; omega, rfl, by omega, by omega, HS8.out, HNB.out, (fun x hx => by cases hx), HK8.out, HZ8.out, hr8, hT8, hK8⟩
      case round =>
        clear hrd ht8 hr8 hT8 hs8 hK8 HZ8 HK8 HS8 hm8' ht hKr hszr hmp hm0 hml hp1 hp2
        obtain ⟨mB, bcc, b, d2, pB, hmB, hmlB, rfl, hpB1, hpB2, hst, hnk, hbcc, hk, hz, hrd, ht, hKr⟩ := hrel
        have HBCC := Lib.hid hbcc
        have HNK2 := Lib.hid hnk
        have HKK := Lib.hid hk
        have HZZ := Lib.hid hz
        have HST := Lib.hid hst
        have hszr := ht.size
        clear hbcc hnk hk hz hst
        by_cases hmp : 0 < mB
        · go_wp2_with fail
          have HB : Hid (∀ u, Touch R wr u → u.cell? ⟨K, 2, none⟩ = some (.slice b bcc.length d2)) := fun u hu => (HKK.out.touch hu hKR).1.2.2
          refine wp_region_tail (by kernel_rfl) ?_
          refine wpAny_tailW (touchOk R) (fuel := 6) (tf := 3) [6, 7, 8] (by kernel_rfl) ?_
          refine wpAnyW_take (touchOk R) (fuel := 3) [true, true, true] (by kernel_rfl) (by kernel_rfl) (by rfl) (by kernel_rfl) (by kernel_rfl) (by kernel_rfl) ?_
          apply Exists.intro
          refine ⟨fun x => ?_, ?_⟩
          · have y0 := fun (y : RelT Grow x.val) => HB.out y.val (((Touch.refl R wr).drew).trans (x.rel.trans (Touch.of_below y.rel)))
            simp only [pickL]
            repeat (go_big_quiet_step (fail))
            exact wpQuiet_nil rfl
          have T0 : Touch R wr wr.drew := (Touch.refl R wr).drew
          have R0 : Rd wr.drew R pB := hrd.below ((Below.refl _ _).drew)
          refine wpAnyW_one (m := 3) (by kernel_rfl) (fun u1 g1 => ?_)
          refine wpOp_at (o := _) (by rfl) (by rfl) ?_
          go_simp
          refine ⟨Touch.of_below ((Below.refl _ _).alloc (Nat.le_refl _) _), ?_⟩
          try simp only [Act.put, List.setIfInBounds_toArray, List.set_cons_zero, List.set_cons_succ]
          have S3 := strs_new u1 #[.string ⟨#[83, 117, 98, 106, 101, 99, 116, 58, 32, 120]⟩, .string ⟨#[]⟩, .string ⟨#[116, 101, 120, 116]⟩, .string ⟨#[46]⟩, .string ⟨#[46, 97]⟩, .string ⟨#[82, 101, 99, 101, 105, 118, 101, 100, 58, 32, 98, 121, 32, 104]⟩] 9 6 40 (by decide)
          have A3 : Below u1.heap.size u1 (u1.alloc (.cells #[.string ⟨#[83, 117, 98, 106, 101, 99, 116, 58, 32, 120]⟩, .string ⟨#[]⟩, .string ⟨#[116, 101, 120, 116]⟩, .string ⟨#[46]⟩, .string ⟨#[46, 97]⟩, .string ⟨#[82, 101, 99, 101, 105, 118, 101, 100, 58, 32, 98, 121, 32, 104]⟩] 9)) := (Below.refl _ _).alloc (Nat.le_refl _) _
          have T3 := T0.trans ((Touch.of_below g1).trans (Touch.of_below A3))
          have R3 := (R0.below g1).below A3
          have B3 : u1.heap.size ≠ R := by have := g1.size; have := T0.size; omega
          generalize u1.alloc (.cells #[.string ⟨#[83, 117, 98, 106, 101, 99, 116, 58, 32, 120]⟩, .string ⟨#[]⟩, .string ⟨#[116, 101, 120, 116]⟩, .string ⟨#[46]⟩, .string ⟨#[46, 97]⟩, .string ⟨#[82, 101, 99, 101, 105, 118, 101, 100, 58, 32, 98, 121, 32, 104]⟩] 9) = V3 at *
          refine wpAnyW_one (m := 4) (by kernel_rfl) (fun u2 g2 => ?_)
          refine wpOp_at (o := _) (by rfl) (by rfl) ?_
          go_simp
          replace S3 := S3.touch (Touch.of_below g2) B3
          refine (of_any R _ u1.heap.size 0 6 6 40 _ (R3.below g2) (by omega) B3 (by omega) (by omega) S3).mono ?_
          rintro e v4 ⟨sA, psA, rfl, gsA, fsA, ksA, RsA, tsA⟩
          refine ⟨tsA, ?_⟩
          try simp only [Act.put, List.setIfInBounds_toArray, List.set_cons_zero, List.set_cons_succ]
          have TsA := T3.trans ((Touch.of_below g2).trans tsA)
          clear S3
          refine wpAnyW_one (m := 5) (by kernel_rfl) (fun u9 g9 => ?_)
          refine wpOp_at (o := _) (by rfl) (by rfl) ?_
          go_simp
          refine ⟨Touch.of_below ((Below.refl _ _).alloc (Nat.le_refl _) _), ?_⟩
          try simp only [Act.put, List.setIfInBounds_toArray, List.set_cons_zero, List.set_cons_succ]
          have N0 : (u9.alloc (.cells #[.string sA] 9)).cell? ⟨u9.heap.size, 0, none⟩ = some (.string sA) := by rw [World.cell?_alloc_at _ _ _ _ rfl]; rfl
          have A9 : Below u9.heap.size u9 (u9.alloc (.cells #[.string sA] 9)) := (Below.refl _ _).alloc (Nat.le_refl _) _
          generalize u9.alloc (.cells #[.string sA] 9) = V9 at *
          refine wpAnyW_rest (by kernel_rfl) (fun u10 g10 => ?_)
          have b10 : Below v4.heap.size v4 u10 := nx (nx g9 A9) g10
          have T10 := TsA.trans (Touch.of_below b10)
          have R10 := RsA.below b10
          have hs10 := T10.size
          have HK10 := Lib.hid (HKK.out.touch T10 hKR)
          have HZ10 := Lib.hid (HZZ.out.touch T10 (by omega))
          have HS10 := Lib.hid (HST.out.touch T10 (by omega))
          have N1 := (below_at g10 (lt_of_cell N0)).trans N0
          refine wpAny_one (m := 6) (by kernel_rfl) ?_
          refine wpOp_at (o := _) (by rfl) (by rfl) ?_
          refine wp_append_H _ _ rfl (w.heap.size + 1) _ bcc [sA.data.toList] (some ⟨u9.heap.size, 0, none⟩) 1 1 rfl rfl HS10.out.b (rd_one N1) (fun h => by cases h) (by omega) (by simp; omega) ?_
          intro v11 u11 o11 gr11 at11
          have b11 : Below (w.heap.size + 1) u10 u11 := grown_below HS10.out.b gr11 (by omega)
          have hs11 := b11.size
          have HK11 := Lib.hid (mf3_grown HK10.out gr11 HNK2.out)
          have HZ11 := Lib.hid (mf3_grown HZ10.out gr11 (fun q hq => by have := (HS10.out.b.lt q hq).1; omega))
          have HS11 := Lib.hid (St2.appR HS10.out o11 gr11 at11)
          have T11 := (ht.trans T10).ext (b11.mono (by omega))
          have R11 := R10.belowB b11 (by omega)
          have HN11 : Hid (∀ q, v11.ownBlock = some q → q ≠ K) := fun q hq => by
            rcases at11 with h | h
            · exact HNK2.out q (h.symm.trans hq)
            · rw [h] at hq; injection hq with hq; omega
          obtain ⟨zs, hzs⟩ : ∃ zs, zs = bcc ++ [sA.data.toList] := ⟨_, rfl⟩
          have hzl : zs.length ≤ bcc.length + 1 := by rw [hzs]; simp
          have HZS : Hid (∀ x ∈ zs, x.length ≤ 40) := fun x hx => by
            rw [hzs] at hx
            rcases List.mem_append.1 hx with h | h
            · exact HBCC.out x h
            · rw [List.mem_singleton.1 h, size_list]; omega
          rw [← hzs] at HS11 o11
          obtain ⟨a11, c11, rfl, _, _, _⟩ := o11.readc
          clear hzs o11 N0 N1 gr11 at11
          try simp only [Act.put, List.setIfInBounds_toArray]
          obtain ⟨⟨y0, y1, y2⟩, yf⟩ := HK11.out
          refine wpAny_one (m := 7) (by kernel_rfl) ?_
          refine wpOp_at (o := _) (by rfl) (by rfl) ?_
          go_simp
          try simp only [Act.put, List.setIfInBounds_toArray, List.set_cons_zero, List.set_cons_succ]
          refine wpAny_one (m := 8) (by kernel_rfl) ?_
          refine wpOp_at (o := _) (by rfl) (by rfl) ?_
          go_simp
          try simp only [Act.put]
          refine wpAny_end (by kernel_rfl) ?_ _
          have HS12 := Lib.hid (HS11.out.off (g := K) (i := 2) HNK.out HN11.out (.slice a11 zs.length c11))
          have HK12 := Lib.hid (HK11.out.set2 (.slice a11 zs.length c11))
          have HZ12 := Lib.hid (HZ11.out.off (h := K) (i := 2) (by omega) (.slice a11 zs.length c11))
          have T12 : Touch R w (u11.setCell ⟨K, 2, none⟩ (.slice a11 zs.length c11)) := touch_set T11 (by omega) _
          have R12 := R11.belowB ((Below.refl w.heap.size u11).setCell (p := ⟨K, 2, none⟩) (by show w.heap.size ≤ K; omega) (.slice a11 zs.length c11)) hRl
          have hK12 : K < (u11.setCell ⟨K, 2, none⟩ (.slice a11 zs.length c11)).heap.size := by simp; omega
          clear y0 y1 y2 yf
          generalize u11.setCell ⟨K, 2, none⟩ (.slice a11 zs.length c11) = V12 at *
          go_wp2
          go_roundw
          case rel => exact ⟨mB - 1, zs, a11, c11, psA, by omega, by omega, by go_num, by omega, by omega, HS12.out, HN11.out, HZS.out, HK12.out, HZ12.out, R12, T12, hK12⟩
          case measure => simp [intOf]; omega
        · obtain ⟨⟨y0, y1, y2⟩, yf⟩ := HKK.out
          obtain ⟨⟨z0, z1, z2⟩, zf⟩ := HZZ.out
          have hzl : w.heap.size < wr.heap.size := by omega
          go_wp2
          refine bodyPost_ret (v := .agg #[.string s1, .slice a acc.length d, .slice b bcc.length d2]) (by simp [results, Tryd.results53, go_sem, z0, z1, z2]) rfl (drawnM_mk (p' := pB) (by omega) (by omega) HACC.out (by omega) HBCC.out ?_ (by omega) (by omega) ?_ ?_)
          · exact (((((HST.out.off (g := w.heap.size) (i := 0) (fun q hq => by have := (HST.out.a.lt q hq).1; omega) (fun q hq => by have := (HST.out.b.lt q hq).1; omega) _)).off (g := w.heap.size) (i := 1) (fun q hq => by have := (HST.out.a.lt q hq).1; omega) (fun q hq => by have := (HST.out.b.lt q hq).1; omega) _)).off (g := w.heap.size) (i := 2) (fun q hq => by have := (HST.out.a.lt q hq).1; omega) (fun q hq => by have := (HST.out.b.lt q hq).1; omega) _).base (by omega)
          · exact hrd.belowB ((((Below.refl w.heap.size wr).setCell (p := ⟨w.heap.size, 0, none⟩) (Nat.le_refl _) _).setCell (p := ⟨w.heap.size, 1, none⟩) (Nat.le_refl _) _).setCell (p := ⟨w.heap.size, 2, none⟩) (Nat.le_refl _) _) hRl
          · exact touch_set (touch_set (touch_set ht (Nat.le_refl _) _) (Nat.le_refl _) _) (Nat.le_refl _) _
end Go.Proofs.YtccendchnndaiaaDoor
