/-
  Several texts in one. No statement is proved here.
-/
import Derived.Test.YtcdmjckkencgoaaGreatDoorZip1
import Derived.Maps.AppendAt
import Derived.Test.YtcdmjckkencgoaaGreatDoorGetF
import Derived.Deep.Cut
import Derived.Test.YtcdmjckkencgoaaGreatDoorPartN
import Derived.Test.YtcdmjckkencgoaaGreatDoorKindV
import Derived.Test.YtcdmjckkencgoaaGreatDoorAddrS
import Derived.Test.YtcdmjckkencgoaaGreatDoorParseS
import Derived.Test.YtcdmjckkencgoaaGreatDoorSplit2
import Derived.Test.YtcdmjckkencgoaaGreatDoorKindI
import Derived.Test.YtcdmjckkencgoaaGreatDoorFld
import Derived.Lib.TrimByte
import Derived.Laws.AppendOwn
import Derived.Laws.OwnMore
import Derived.Laws.AppendOwnNone
import Derived.Test.YtcdmjckkencgoaaGreatDoorFldS
import Derived.Test.YtcdmjckkencgoaaGreatDoorRowL
import Derived.Test.YtcdmjckkencgoaaGreatDoorQuietB
section
namespace Go.Proofs.YtcdmjckkencgoaaGreatDoor
open Go.RowKit

structure OneT (W : World) where
  val : World
  same : val = W
instance (W : World) : Nonempty (OneT W) := ⟨⟨W, rfl⟩⟩
section
variable {P : Program} {ops : Array Oper} {Q : Exit → Act → World → Prop} {md : Region.Mode}

/-- In state a, in every world, operation o leaves v and the world as it is. -/
def PYields (P : Program) (ops : Array Oper) (o : Oper) (v : Value) (a : Act) : Prop :=
  (Region.wanted o (yielded ops a.tmps) = true ∧ ∀ w', o.quietAt P a (fun u => ∃ y : OneT w', u = y.val) w' v) ∨ (Region.wanted o (yielded ops a.tmps) = false ∧ v = undef)
theorem PYields.of_same {o : Oper} {v : Value} {a a' : Act} (hy : PYields P ops o v a) (he : execOp a'.eval o = execOp a.eval o)
    (hw : Region.wanted o (yielded ops a'.tmps) = Region.wanted o (yielded ops a.tmps)) : PYields P ops o v a' := by
  unfold PYields Oper.quietAt at *
  rw [he, hw]
  exact hy
theorem PYields.wpOp {i : Nat} {o : Oper} {v : Value} {a : Act} {w : World} (hi : ops[i]? = some o) (hy : PYields P ops o v a)
    {K : Act → World → Prop} (h : K (a.put o.dst v) w) : wpOp P ops Q i K a w := by
  unfold Go.wpOp
  simp only [hi]
  rcases hy with ⟨hw, hv⟩ | ⟨hw, rfl⟩
  · rw [if_pos hw]
    refine .inl ?_
    have h1 := hv w
    unfold Oper.quietAt at h1
    unfold Oper.wp
    generalize (execOp a.eval o).run P w = r at *
    cases r with
    | ok n w' =>
      cases n <;> simp only [Oper.quietUpon] at h1 <;> simp only [Oper.upon]
      case value u =>
        obtain ⟨e1, e2⟩ := h1
        rw [e1, e2]
        exact h
      case skip =>
        obtain ⟨e1, e2⟩ := h1
        rw [e1, ← e2]
        exact h
      case enter f args =>
        obtain ⟨e1, hc⟩ := h1
        rw [e1]
        exact hc.mono fun e w'' ⟨he, y, hy⟩ => by subst he; rw [hy, y.same]; exact h
    | halt x w' => simp only [Oper.quietUpon] at h1
  · rw [if_neg (by rw [hw]; exact Bool.false_ne_true)]; exact h
theorem wpOp_putP {j : Nat} {oi oj : Oper} {v : Value} (hj : ops[j]? = some oj) (hap : oi.apart ops oj = true)
    (hsi : ∀ cs b, oi.op ≠ .select cs b) (hsj : ∀ cs b, oj.op ≠ .select cs b)
    (hQ : ∀ c a w, Q (.panic c) (a.put oi.dst v) w → Q (.panic c) a w) {K : Act → World → Prop} {a : Act} {w : World}
    (hy : PYields P ops oi v a) (h : wpOp P ops Q j K (a.put oi.dst v) w) :
    wpOp P ops Q j (fun a' w' => PYields P ops oi v a' ∧ K (a'.put oi.dst v) w') a w := by
  obtain ⟨h1, h2, h3⟩ := Oper.apart_spec hap
  have keep : ∀ (a : Act), PYields P ops oi v a → ∀ x, PYields P ops oi v (a.put oj.dst x) := fun a hy x =>
    hy.of_same (execOp_put oi hsi a oj.dst x h3) (wanted_put oi a oj.dst x h3)
  have keepD : ∀ d, PYields P ops oi v { a with defers := d :: a.defers } := fun d => hy.of_same rfl rfl
  unfold Go.wpOp at *
  simp only [hj] at *
  rw [wanted_put oj a oi.dst v h1] at h
  split
  · rename_i hw
    simp only [hw, if_true] at h
    rcases h with h | ⟨hasks, hlets⟩
    case inr => exact .inr ⟨by unfold Oper.asks at *; rw [execOp_put oj hsj a oi.dst v h1] at hasks; exact hasks, hlets⟩
    refine .inl ?_
    unfold Oper.wp at *
    rw [execOp_put oj hsj a oi.dst v h1] at h
    generalize (execOp a.eval oj).run P w = r at *
    cases r with
    | ok n w' =>
      cases n <;> simp only [Oper.upon] at h ⊢
      case value x => exact ⟨keep a hy x, by rw [← Act.put_comm a v x h2]; exact h⟩
      case skip => exact ⟨keep a hy _, by rw [← Act.put_comm a v undef h2]; exact h⟩
      case defer d =>
        refine ⟨keep _ (keepD d) _, ?_⟩
        rw [← Act.put_comm _ v undef h2, ← Act.put_defers]
        exact h
      case enter f args =>
        refine Calls.mono h fun e w'' he => ?_
        cases e with
        | returned x => exact ⟨keep a hy x, by rw [← Act.put_comm a v x h2]; exact he⟩
        | panicked c => exact hQ _ _ _ he
        | outgrown => exact he
      case row row args => exact Rows.mono h fun x w'' he => ⟨keep a hy x, by rw [← Act.put_comm a v x h2]; exact he⟩
    | halt x w' =>
      cases x <;> simp only [Oper.upon] at h ⊢
      case panic x => exact hQ _ _ _ h
  · rename_i hw
    simp only [hw] at h
    exact ⟨keep a hy _, by rw [← Act.put_comm a v undef h2]; exact h⟩
theorem wpAny_firstP {i : Nat} {oi : Oper} {v : Value} (hi : ops[i]? = some oi) (hsel : ∀ (j : Nat) (o : Oper) cs b, ops[j]? = some o → o.op ≠ .select cs b)
    (hQ : ∀ c a w, Q (.panic c) (a.put oi.dst v) w → Q (.panic c) a w) :
    ∀ (fuel : Nat) (listed : Array Bool) (a : Act) (w : World),
      (∀ j oj, ops[j]? = some oj → j ≠ i → listed.getD j true = false → (∀ e ∈ oj.after, Region.binds md e = true → e.on ≠ i) → oi.apart ops oj = true) →
      i ∈ Region.ready md ops listed → PYields P ops oi v a →
      wpAny P md ops Q fuel (listed.setIfInBounds i true) (a.put oi.dst v) w → wpAny P md ops Q (fuel + 1) listed a w := by
  intro fuel
  induction fuel with
  | zero =>
    intro listed a w _ hr hy H
    refine ⟨fun h => (by rw [h] at hr; cases hr), fun j hj => ?_⟩
    by_cases hji : j = i
    · subst hji; exact hy.wpOp hi H
    · have := ready_mono hj hji
      rw [H.1] at this
      cases this
  | succ fuel ih =>
    intro listed a w hfree hr hy H
    refine ⟨fun h => (by rw [h] at hr; cases hr), fun j hj => ?_⟩
    by_cases hji : j = i
    · subst hji; exact hy.wpOp hi H
    · have h1 := H.2 j (ready_mono hj hji)
      obtain ⟨hjun, oj, hoj, hall⟩ := mem_ready.1 hj
      have hnot : ∀ e ∈ oj.after, Region.binds md e = true → e.on ≠ i := fun e he hb heq => by
        have h1 := hall e he hb
        have h0 := (mem_ready.1 hr).1
        rw [heq] at h1
        rcases Nat.lt_or_ge i listed.size with h' | h'
        · simp [h'] at h0 h1; rw [h0] at h1; cases h1
        · simp [Array.getElem?_eq_none h'] at h1
      have h2 := wpOp_putP hoj (hfree j oj hoj hji hjun hnot) (fun cs b => hsel i oi cs b hi) (fun cs b => hsel j oj cs b hoj) hQ hy h1
      have hfree' : ∀ k ok, ops[k]? = some ok → k ≠ i → (listed.setIfInBounds j true).getD k true = false →
          (∀ e ∈ ok.after, Region.binds md e = true → e.on ≠ i) → oi.apart ops ok = true := fun k ok hk hki hun hno => by
        refine hfree k ok hk hki ?_ hno
        by_cases hjk : j = k
        · subst hjk; exact hjun
        · rw [getD_set_ne true hjk] at hun; exact hun
      refine wpOp_mono (fun a' w'' h3 => ih (listed.setIfInBounds j true) a' w'' hfree' (ready_mono hr (Ne.symm hji)) h3.1 ?_) h2
      rw [Array.setIfInBounds_comm _ _ hji]
      exact h3.2
theorem wpAny_maskP {A : Act} {n : Nat} (hsel : Region.noSelect ops = true) (hQ : ∀ c a o v w, Q (.panic c) (a.put o v) w → Q (.panic c) a w) {w : World} {fuel : Nat} : ∀ (m : List Bool) (l : List Oper) (k : Nat) (listed : Array Bool) (a : Act),
    (∀ j, l[j]? = ops[k + j]?) → a.tmps.size = n → maskOk md ops n m l k listed = true →
    (∀ W : World, wpQuiet P ops (fun w' => ∃ y : OneT W, w' = y.val) (fun a' => a' = A) (pickL m l) a) →
    wpAny P md ops Q fuel (maskListed m k listed) A w → wpAny P md ops Q (maskCount m + fuel) listed a w
  | [], l, k, listed, a, _, _, _, h, H => by
    have h1 : a = A := by have := h w; rw [pickL] at this; exact this; all_goals simp
    rw [h1]
    simpa [maskCount, maskListed] using H
  | false :: m, [], k, listed, a, _, _, hB, _, _ => by simp [maskOk] at hB
  | true :: m, [], k, listed, a, _, _, hB, _, _ => by simp [maskOk] at hB
  | false :: m, o :: l, k, listed, a, hl, hn, hB, h, H => by
    simp only [maskCount, maskListed, maskOk, pickL] at *
    exact wpAny_maskP hsel hQ m l (k + 1) listed a (fun j => by have := hl (j + 1); simpa [Nat.add_assoc, Nat.add_comm 1 j] using this) hn hB h H
  | true :: m, o :: l, k, listed, a, hl, hn, hB, h, H => by
    have h0 : ops[k]? = some o := by simpa using (hl 0).symm
    simp only [maskCount, maskListed, maskOk, pickL, Bool.and_eq_true] at *
    obtain ⟨⟨⟨hr, hf⟩, hd⟩, hB'⟩ := hB
    cases ho : o.dst with
    | none => rw [ho] at hd; cases hd
    | some d =>
      rw [ho] at hd
      simp only [Bool.and_eq_true, decide_eq_true_eq, List.all_eq_true, bne_iff_ne] at hd
      have hslot : ∀ v, (a.put (some d) v).tmps[d]? = some v := fun v => by simp [Act.put, hn, hd.1]
      by_cases hw : Region.wanted o (yielded ops a.tmps) = true
      · have h' : ∀ W : World, (∀ w', (∃ y : OneT W, w' = y.val) → o.quietAt P a (fun w' => ∃ y : OneT W, w' = y.val) w' ((A.tmps[d]?).getD undef)) ∧
            wpQuiet P ops (fun w' => ∃ y : OneT W, w' = y.val) (fun a' => a' = A) (pickL m l) (a.put (some d) ((A.tmps[d]?).getD undef)) := fun W => by
          have h1 := h W
          unfold wpQuiet at h1
          rw [if_pos hw] at h1
          obtain ⟨v, h2, h3⟩ := h1
          rw [ho] at h3
          have h4 := quiet_slot (d := d) (pickL m l) _ hd.2 h3
          rw [hslot] at h4
          rw [h4]
          exact ⟨h2, h3⟩
        have hy : PYields P ops o ((A.tmps[d]?).getD undef) a := .inl ⟨hw, fun w' => (h' w').1 w' ⟨⟨w', rfl⟩, rfl⟩⟩
        rw [show maskCount m + 1 + fuel = (maskCount m + fuel) + 1 by omega]
        refine wpAny_firstP h0 (Region.noSelect_spec hsel) (fun c a w => hQ c a _ _ w) _ listed a w (Region.free_spec h0 hf) (by simpa using hr) hy ?_
        rw [ho]
        exact wpAny_maskP hsel hQ m l (k + 1) _ _ (fun j => by have := hl (j + 1); simpa [Nat.add_assoc, Nat.add_comm 1 j] using this) (by rw [put_size]; exact hn) hB' (fun x => (h' x).2) H
      · have hwf : Region.wanted o (yielded ops a.tmps) = false := by simpa using hw
        rw [show maskCount m + 1 + fuel = (maskCount m + fuel) + 1 by omega]
        refine wpAny_firstP h0 (Region.noSelect_spec hsel) (fun c a w => hQ c a _ _ w) _ listed a w (Region.free_spec h0 hf) (by simpa using hr) (.inr ⟨hwf, rfl⟩) ?_
        refine wpAny_maskP hsel hQ m l (k + 1) _ _ (fun j => by have := hl (j + 1); simpa [Nat.add_assoc, Nat.add_comm 1 j] using this) (by rw [put_size]; exact hn) hB' (fun x => ?_) H
        have h1 := h x
        unfold wpQuiet at h1
        rw [if_neg hw] at h1
        exact h1
/-- What asks nothing of the world is taken first. -/
theorem wpAny_take {F fuel n : Nat} {l : List Oper} {listed : Array Bool} {a : Act} {w : World} (m : List Bool) (hF : maskCount m + fuel = F) (hsel : Region.noSelect l.toArray = true)
    (hn : a.tmps.size = n) (hB : maskOk md l.toArray n m l 0 listed = true)
    (h : ∃ A, (∀ W : World, wpQuiet P l.toArray (fun w' => ∃ y : OneT W, w' = y.val) (fun a' => a' = A) (pickL m l) a) ∧ wpAny P md l.toArray (NoPanic Q) fuel (maskListed m 0 listed) A w) : wpAny P md l.toArray (NoPanic Q) F listed a w := by
  obtain ⟨A, h1, h2⟩ := h
  rw [← hF]
  exact wpAny_maskP hsel (fun _ _ _ _ _ h => h) m l 0 listed a (fun j => by simp) hn hB h1 h2

/-! The tail. -/
/-- What is listed has all it waits for listed. -/
def Fit (md : Region.Mode) (ops : Array Oper) (L : Array Bool) : Prop := ∀ k o, ops[k]? = some o → L.getD k false = true → ∀ e ∈ o.after, Region.binds md e = true → L.getD e.on false = true
def fitB (md : Region.Mode) (ops : Array Oper) (L : Array Bool) : Bool := (List.range ops.size).all fun k => !L.getD k false || (match ops[k]? with | some o => o.after.all fun e => !Region.binds md e || L.getD e.on false | none => true)
theorem fit_of {L : Array Bool} (h : fitB md ops L = true) : Fit md ops L := by
  intro k o hk hl e he hb
  unfold fitB at h
  have := List.all_eq_true.1 h k (List.mem_range.2 (Array.getElem?_eq_some_iff.1 hk).1)
  rw [hk, hl] at this
  simp only [Bool.not_true, Bool.false_or] at this
  have := Array.all_eq_true_iff_forall_mem.1 this e he
  rw [hb] at this
  simpa using this
theorem getD_set_self' {L : Array Bool} {i : Nat} {d : Bool} (h : i < L.size) : (L.setIfInBounds i true).getD i d = true := by
  simp [Array.getD_eq_getD_getElem?, h]
theorem getD_set_up {L : Array Bool} {i k : Nat} (h : L.getD k false = true) : (L.setIfInBounds i true).getD k false = true := by
  by_cases e : i = k
  · subst e
    have : i < L.size := by
      rcases Nat.lt_or_ge i L.size with h' | h'
      · exact h'
      · rw [Array.getD_eq_getD_getElem?, Array.getElem?_eq_none h'] at h; cases h
    exact getD_set_self' this
  · rw [getD_set_ne false e]; exact h
theorem Fit.set {L : Array Bool} {j : Nat} (h : Fit md ops L) (hj : j ∈ Region.ready md ops L) : Fit md ops (L.setIfInBounds j true) := by
  obtain ⟨_, oj, hoj, hall⟩ := mem_ready.1 hj
  intro k o hk hl e he hb
  by_cases e1 : j = k
  · subst e1
    rw [hk] at hoj; injection hoj with hoj; subst hoj
    exact getD_set_up (hall e he hb)
  · rw [getD_set_ne false e1] at hl
    exact getD_set_up (h k o hk hl e he hb)
/-- Operation t waits for operation i, near or far. -/
def reachB (md : Region.Mode) (ops : Array Oper) : Nat → Nat → Nat → Bool
  | 0, _, _ => false
  | f + 1, t, i => match ops[t]? with
    | some o => o.after.any fun e => Region.binds md e && (e.on == i || reachB md ops f e.on i)
    | none => false
theorem reach_listed {L : Array Bool} (hf : Fit md ops L) : ∀ (f t i : Nat) (o : Oper), ops[t]? = some o → (∀ e ∈ o.after, Region.binds md e = true → L.getD e.on false = true) → reachB md ops f t i = true → L.getD i false = true
  | 0, _, _, _, _, _, h => by simp [reachB] at h
  | f + 1, t, i, o, ho, hall, h => by
    simp only [reachB, ho] at h
    rw [← Array.any_toList, List.any_eq_true] at h
    obtain ⟨e, he, h⟩ := h
    have he : e ∈ o.after := by simpa using he
    rw [Bool.and_eq_true, Bool.or_eq_true] at h
    obtain ⟨hb, h⟩ := h
    have hl := hall e he hb
    rcases h with h | h
    · rw [beq_iff_eq] at h; rw [← h]; exact hl
    · cases ho2 : ops[e.on]? with
      | none => cases f <;> simp [reachB, ho2] at h
      | some o2 => exact reach_listed hf f e.on i o2 ho2 (fun e2 he2 hb2 => hf e.on o2 ho2 hl e2 he2 hb2) h
/-- Whatever order is picked, till all but the tail T is listed. -/
def wpAnyZ (P : Program) (md : Region.Mode) (ops : Array Oper) (Q : Exit → Act → World → Prop) (T : List Nat) (tf : Nat) : Nat → Array Bool → Act → World → Prop
  | 0, listed, a, w => (∀ k, k < ops.size → k ∉ T → listed.getD k false = true) ∧ ∀ w', Grow w w' → wpAny P md ops Q tf listed a w'
  | fuel + 1, listed, a, w => ∀ w', Grow w w' → (Region.ready md ops listed = [] → Q .normal a w') ∧
    ∀ i ∈ Region.ready md ops listed, wpOp P ops Q i (fun a' w'' => Grow w' w'' ∧ wpAnyZ P md ops Q T tf fuel (listed.setIfInBounds i true) a' w'') a w'
theorem wpAny_of_Z {T : List Nat} {tf : Nat} : ∀ (fuel : Nat) (listed : Array Bool) (a : Act) (w : World), wpAnyZ P md ops Q T tf fuel listed a w → wpAny P md ops Q (fuel + tf) listed a w
  | 0, _, _, w, h => by rw [Nat.zero_add]; exact h.2 w (Grow.refl w)
  | fuel + 1, _, _, w, h => by
    rw [show fuel + 1 + tf = (fuel + tf) + 1 by omega]
    exact ⟨(h w (Grow.refl w)).1, fun i hi => wpOp_mono (fun a' w' h' => wpAny_of_Z fuel _ a' w' h'.2) ((h w (Grow.refl w)).2 i hi)⟩
theorem wpAnyZ_grow {T : List Nat} {tf fuel : Nat} {listed : Array Bool} {a : Act} {w u : World} (g : Grow w u) (h : wpAnyZ P md ops Q T tf fuel listed a w) : wpAnyZ P md ops Q T tf fuel listed a u := by
  cases fuel with
  | zero => exact ⟨h.1, fun w' k => h.2 w' (g.trans k)⟩
  | succ fuel => exact fun w' k => h w' (g.trans k)
theorem wpAnyZ_first {T : List Nat} {tf i : Nat} {oi : Oper} {v : Value} (hi : ops[i]? = some oi) (hsel : ∀ (j : Nat) (o : Oper) cs b, ops[j]? = some o → o.op ≠ .select cs b)
    (hQ : ∀ c a w, Q (.panic c) (a.put oi.dst v) w → Q (.panic c) a w) (hT : ∀ t ∈ T, reachB md ops ops.size t i = true) :
    ∀ (fuel : Nat) (listed : Array Bool) (a : Act) (w : World), Fit md ops listed →
      (∀ j oj, ops[j]? = some oj → j ≠ i → listed.getD j true = false → (∀ e ∈ oj.after, Region.binds md e = true → e.on ≠ i) → oi.apart ops oj = true) →
      i ∈ Region.ready md ops listed → GYields P ops oi v a w →
      wpAnyZ P md ops Q T tf fuel (listed.setIfInBounds i true) (a.put oi.dst v) w → wpAnyZ P md ops Q T tf (fuel + 1) listed a w := by
  have hun : ∀ {L : Array Bool} {k : Nat}, L.getD k true = false → L.getD k false = true → False := fun {L k} h0 h1 => by
    rcases Nat.lt_or_ge k L.size with h' | h'
    · simp [h'] at h0 h1; rw [h0] at h1; cases h1
    · simp [Array.getElem?_eq_none h'] at h1
  intro fuel
  induction fuel with
  | zero =>
    intro listed a w hfit _ hr hy H w' g
    refine ⟨fun h => (by rw [h] at hr; cases hr), fun j hj => ?_⟩
    by_cases hji : j = i
    · subst hji; exact (hy.grow g).wpOp hi fun w'' k => ⟨k, wpAnyZ_grow (g.trans k) H⟩
    · exfalso
      obtain ⟨hjun, oj, hoj, hall⟩ := mem_ready.1 hj
      have hjT : j ∈ T := by
        refine Classical.byContradiction fun hn => ?_
        have := H.1 j (Array.getElem?_eq_some_iff.1 hoj).1 hn
        rw [getD_set_ne false (Ne.symm hji)] at this
        exact hun hjun this
      exact hun (mem_ready.1 hr).1 (reach_listed hfit _ j i oj hoj hall (hT j hjT))
  | succ fuel ih =>
    intro listed a w hfit hfree hr hy H w' g
    refine ⟨fun h => (by rw [h] at hr; cases hr), fun j hj => ?_⟩
    by_cases hji : j = i
    · subst hji; exact (hy.grow g).wpOp hi fun w'' k => ⟨k, wpAnyZ_grow (g.trans k) H⟩
    · have h1 := (H w' g).2 j (ready_mono hj hji)
      obtain ⟨hjun, oj, hoj, hall⟩ := mem_ready.1 hj
      have hnot : ∀ e ∈ oj.after, Region.binds md e = true → e.on ≠ i := fun e he hb heq => by
        have h1 := hall e he hb
        rw [heq] at h1
        exact hun (mem_ready.1 hr).1 h1
      have h2 := wpOp_putG hoj (hfree j oj hoj hji hjun hnot) (fun cs b => hsel i oi cs b hi) (fun cs b => hsel j oj cs b hoj) hQ (hy.grow g) h1
      have hfree' : ∀ k ok, ops[k]? = some ok → k ≠ i → (listed.setIfInBounds j true).getD k true = false →
          (∀ e ∈ ok.after, Region.binds md e = true → e.on ≠ i) → oi.apart ops ok = true := fun k ok hk hki hun hno => by
        refine hfree k ok hk hki ?_ hno
        by_cases hjk : j = k
        · subst hjk; exact hjun
        · rw [getD_set_ne true hjk] at hun; exact hun
      refine wpOp_mono (fun a' w'' h3 => ⟨h3.2.1, ih (listed.setIfInBounds j true) a' w'' (hfit.set hj) hfree' (ready_mono hr (Ne.symm hji)) (h3.1.grow h3.2.1) ?_⟩) h2
      rw [Array.setIfInBounds_comm _ _ hji]
      exact h3.2.2
/-- Each that the mask names is waited for by all of the tail. -/
def maskReach (md : Region.Mode) (ops : Array Oper) (T : List Nat) : List Bool → Nat → Bool
  | true :: m, k => T.all (fun t => reachB md ops ops.size t k) && maskReach md ops T m (k + 1)
  | false :: m, k => maskReach md ops T m (k + 1)
  | [], _ => true
theorem wpAnyZ_mask {T : List Nat} {tf : Nat} {A : Act} {n : Nat} (hsel : Region.noSelect ops = true) (hQ : ∀ c a o v w, Q (.panic c) (a.put o v) w → Q (.panic c) a w) {w : World} {fuel : Nat} : ∀ (m : List Bool) (l : List Oper) (k : Nat) (listed : Array Bool) (a : Act),
    (∀ j, l[j]? = ops[k + j]?) → a.tmps.size = n → Fit md ops listed → maskOk md ops n m l k listed = true → maskReach md ops T m k = true →
    (∀ x : BelowT w, wpQuiet P ops (fun w' => ∃ y : BelowT x.val, w' = y.val) (fun a' => a' = A) (pickL m l) a) →
    wpAnyZ P md ops Q T tf fuel (maskListed m k listed) A w → wpAnyZ P md ops Q T tf (maskCount m + fuel) listed a w
  | [], l, k, listed, a, _, _, _, _, _, h, H => by
    have h1 : a = A := by have := h ⟨w, Below.refl _ _⟩; rw [pickL] at this; exact this; all_goals simp
    rw [h1]
    simpa [maskCount, maskListed] using H
  | false :: m, [], k, listed, a, _, _, _, hB, _, _, _ => by simp [maskOk] at hB
  | true :: m, [], k, listed, a, _, _, _, hB, _, _, _ => by simp [maskOk] at hB
  | false :: m, o :: l, k, listed, a, hl, hn, hfit, hB, hR, h, H => by
    simp only [maskCount, maskListed, maskOk, maskReach, pickL] at *
    exact wpAnyZ_mask hsel hQ m l (k + 1) listed a (fun j => by have := hl (j + 1); simpa [Nat.add_assoc, Nat.add_comm 1 j] using this) hn hfit hB hR h H
  | true :: m, o :: l, k, listed, a, hl, hn, hfit, hB, hR, h, H => by
    have h0 : ops[k]? = some o := by simpa using (hl 0).symm
    simp only [maskCount, maskListed, maskOk, maskReach, pickL, Bool.and_eq_true] at *
    obtain ⟨⟨⟨hr, hf⟩, hd⟩, hB'⟩ := hB
    obtain ⟨hR0, hR'⟩ := hR
    have hT : ∀ t ∈ T, reachB md ops ops.size t k = true := fun t ht => List.all_eq_true.1 hR0 t ht
    have hrk : k ∈ Region.ready md ops listed := by simpa using hr
    cases ho : o.dst with
    | none => rw [ho] at hd; cases hd
    | some d =>
      rw [ho] at hd
      simp only [Bool.and_eq_true, decide_eq_true_eq, List.all_eq_true, bne_iff_ne] at hd
      have hslot : ∀ v, (a.put (some d) v).tmps[d]? = some v := fun v => by simp [Act.put, hn, hd.1]
      by_cases hw : Region.wanted o (yielded ops a.tmps) = true
      · have h' : ∀ x : BelowT w, (∀ w', (∃ y : BelowT x.val, w' = y.val) → o.quietAt P a (fun w' => ∃ y : BelowT x.val, w' = y.val) w' ((A.tmps[d]?).getD undef)) ∧
            wpQuiet P ops (fun w' => ∃ y : BelowT x.val, w' = y.val) (fun a' => a' = A) (pickL m l) (a.put (some d) ((A.tmps[d]?).getD undef)) := fun x => by
          have h1 := h x
          unfold wpQuiet at h1
          rw [if_pos hw] at h1
          obtain ⟨v, h2, h3⟩ := h1
          rw [ho] at h3
          have h4 := quiet_slot (d := d) (pickL m l) _ hd.2 h3
          rw [hslot] at h4
          rw [h4]
          exact ⟨h2, h3⟩
        have hy : GYields P ops o ((A.tmps[d]?).getD undef) a w := .inl ⟨hw, fun w' g => by
          have h1 := (h' ⟨w', g⟩).1 w' ⟨⟨w', Below.refl _ _⟩, rfl⟩
          unfold Oper.quietAt at h1
          unfold growAt
          generalize (execOp a.eval o).run P w' = r at *
          cases r with
          | ok nx w2 =>
            cases nx <;> simp only [Oper.quietUpon] at h1 <;> simp only [growUpon]
            case value u => exact h1
            case skip => exact h1
            case enter f args => exact ⟨h1.1, h1.2.mono fun e w3 ⟨he, y, hy⟩ => ⟨he, by rw [hy]; exact y.below⟩⟩
          | halt x w2 => simp only [Oper.quietUpon] at h1⟩
        rw [show maskCount m + 1 + fuel = (maskCount m + fuel) + 1 by omega]
        refine wpAnyZ_first h0 (Region.noSelect_spec hsel) (fun c a w => hQ c a _ _ w) hT _ listed a w hfit (Region.free_spec h0 hf) hrk hy ?_
        rw [ho]
        exact wpAnyZ_mask hsel hQ m l (k + 1) _ _ (fun j => by have := hl (j + 1); simpa [Nat.add_assoc, Nat.add_comm 1 j] using this) (by rw [put_size]; exact hn) (hfit.set hrk) hB' hR' (fun x => (h' x).2) H
      · have hwf : Region.wanted o (yielded ops a.tmps) = false := by simpa using hw
        rw [show maskCount m + 1 + fuel = (maskCount m + fuel) + 1 by omega]
        refine wpAnyZ_first h0 (Region.noSelect_spec hsel) (fun c a w => hQ c a _ _ w) hT _ listed a w hfit (Region.free_spec h0 hf) hrk (.inr ⟨hwf, rfl⟩) ?_
        refine wpAnyZ_mask hsel hQ m l (k + 1) _ _ (fun j => by have := hl (j + 1); simpa [Nat.add_assoc, Nat.add_comm 1 j] using this) (by rw [put_size]; exact hn) (hfit.set hrk) hB' hR' (fun x => ?_) H
        have h1 := h x
        unfold wpQuiet at h1
        rw [if_neg hw] at h1
        exact h1
/-- The tail stands by itself: all else that is not listed is taken by masks and one by one. -/
theorem wpAny_tail {F fuel tf : Nat} (T : List Nat) {listed : Array Bool} {a : Act} {w : World} (hF : fuel + tf = F) (h : wpAnyZ P md ops Q T tf fuel listed a w) : wpAny P md ops Q F listed a w := by
  rw [← hF]; exact wpAny_of_Z _ _ _ _ h
theorem wpAnyZ_take {T : List Nat} {tf F fuel n : Nat} {l : List Oper} {listed : Array Bool} {a : Act} {w : World} (m : List Bool) (hF : maskCount m + fuel = F) (hsel : Region.noSelect l.toArray = true)
    (hn : a.tmps.size = n) (hfit : fitB md l.toArray listed = true) (hB : maskOk md l.toArray n m l 0 listed = true) (hR : maskReach md l.toArray T m 0 = true)
    (h : ∃ A, (∀ x : BelowT w, wpQuiet P l.toArray (fun w' => ∃ y : BelowT x.val, w' = y.val) (fun a' => a' = A) (pickL m l) a) ∧ wpAnyZ P md l.toArray (NoPanic Q) T tf fuel (maskListed m 0 listed) A w) : wpAnyZ P md l.toArray (NoPanic Q) T tf F listed a w := by
  obtain ⟨A, h1, h2⟩ := h
  rw [← hF]
  exact wpAnyZ_mask hsel (fun _ _ _ _ _ h => h) m l 0 listed a (fun j => by simp) hn (fit_of hfit) hB hR h1 h2
theorem wpAnyZ_one {T : List Nat} {tf m fuel : Nat} {listed : Array Bool} {a : Act} {w : World} (hr : Region.ready md ops listed = [m])
    (h : ∀ w', Grow w w' → wpOp P ops Q m (fun a' w'' => Grow w' w'' ∧ wpAnyZ P md ops Q T tf fuel (listed.setIfInBounds m true) a' w'') a w') : wpAnyZ P md ops Q T tf (fuel + 1) listed a w :=
  fun w' g => ⟨fun h0 => (by rw [hr] at h0; cases h0), fun i hi => by
    rw [hr] at hi
    have : i = m := by simpa using hi
    subst this
    exact h w' g⟩
def allBut (T : List Nat) (n : Nat) (listed : Array Bool) : Bool := (List.range n).all fun k => decide (k ∈ T) || listed.getD k false
theorem wpAnyZ_rest {T : List Nat} {tf : Nat} {listed : Array Bool} {a : Act} {w : World} (hl : allBut T ops.size listed = true) (h : ∀ w', Grow w w' → wpAny P md ops Q tf listed a w') : wpAnyZ P md ops Q T tf 0 listed a w := by
  refine ⟨fun k hk hT => ?_, h⟩
  have := List.all_eq_true.1 hl k (List.mem_range.2 hk)
  simpa [hT] using this
theorem wpAny_one {m fuel : Nat} {listed : Array Bool} {a : Act} {w : World} (hr : Region.ready md ops listed = [m])
    (h : wpOp P ops Q m (fun a' w'' => wpAny P md ops Q fuel (listed.setIfInBounds m true) a' w'') a w) : wpAny P md ops Q (fuel + 1) listed a w :=
  ⟨fun h0 => (by rw [hr] at h0; cases h0), fun i hi => by
    rw [hr] at hi
    have : i = m := by simpa using hi
    subst this
    exact h⟩
theorem wpAny_end {listed : Array Bool} {a : Act} {w : World} (hr : Region.ready md ops listed = []) (h : Q .normal a w) : ∀ fuel, wpAny P md ops (NoPanic Q) fuel listed a w
  | 0 => ⟨hr, h⟩
  | _ + 1 => ⟨fun _ => h, by rw [hr]; simp⟩
theorem wp_region_tail {id : Nat} {a : Act} {w : World} (hm : P.follows .mixedOrders = true)
    (h : wpAny P .any ops (NoPanic Q) ops.size (Array.replicate ops.size false) a w.drew) : (Code.region id ops true).wp P Q a w :=
  wp_region_noPanic (wp_region_any hm h)
end
end Go.Proofs.YtcdmjckkencgoaaGreatDoor
end

section
namespace Go.Proofs.YtcdmjckkencgoaaGreatDoor
open Go.RowKit

structure RelT (Rel : World → World → Prop) (W : World) where
  val : World
  rel : Rel W val
/-- E: what the operations that are taken first may do to the world; S: what all of them may do. -/
structure RelOk (E S : World → World → Prop) : Prop where
  refl : ∀ w, E w w
  trans : ∀ {a b c : World}, E a b → E b c → E a c
  strans : ∀ {a b c : World}, S a b → S b c → S a c
  sub : ∀ {a b : World}, E a b → S a b
theorem RelOk.srefl {E S : World → World → Prop} (ok : RelOk E S) (w : World) : S w w := ok.sub (ok.refl w)
instance (R : Nat) (W : World) : Nonempty (RelT (Touch R) W) := ⟨⟨W, Touch.refl R W⟩⟩
instance (W : World) : Nonempty (RelT Grow W) := ⟨⟨W, Grow.refl W⟩⟩
theorem touchOk (R : Nat) : RelOk Grow (Touch R) := ⟨Grow.refl, Grow.trans, Touch.trans, Touch.of_below⟩
theorem calls_relT {P : Program} {f : FuncId} {args : Array Value} {W : World} {x : RelT Grow W} {v : Value}
    (h : Calls P f args x.val fun e w' => e = .returned v ∧ Below x.val.heap.size x.val w') : Calls P f args x.val fun e w'' => e = .returned v ∧ ∃ y : RelT Grow W, w'' = y.val :=
  h.mono fun _ w' ⟨he, hb⟩ => ⟨he, ⟨w', Grow.trans x.rel hb⟩, rfl⟩
section
variable {P : Program} {E S : World → World → Prop} {ops : Array Oper} {Q : Exit → Act → World → Prop} {md : Region.Mode}

def relUpon (P : Program) (E : World → World → Prop) (w : World) (v : Value) : Result Next → Prop
  | .ok (.value u) w' => w' = w ∧ u = v
  | .ok .skip w' => w' = w ∧ v = undef
  | .ok (.enter f args) w' => w' = w ∧ Calls P f args w (fun e w'' => e = .returned v ∧ E w w'')
  | _ => False
def relAt (P : Program) (E : World → World → Prop) (o : Oper) (a : Act) (w : World) (v : Value) : Prop := relUpon P E w v ((execOp a.eval o).run P w)
/-- In state a, in every world grown from w, operation o leaves v in its temporary and turns nothing. -/
def RYields (P : Program) (E S : World → World → Prop) (ops : Array Oper) (o : Oper) (v : Value) (a : Act) (w : World) : Prop :=
  (Region.wanted o (yielded ops a.tmps) = true ∧ ∀ w', S w w' → relAt P E o a w' v) ∨ (Region.wanted o (yielded ops a.tmps) = false ∧ v = undef)
theorem RYields.grow (ok : RelOk E S) {o : Oper} {v : Value} {a : Act} {w u : World} (h : RYields P E S ops o v a w) (g : S w u) : RYields P E S ops o v a u :=
  h.imp (fun ⟨h1, h2⟩ => ⟨h1, fun w' k => h2 w' (ok.strans g k)⟩) id
theorem RYields.of_same {o : Oper} {v : Value} {a a' : Act} {w : World} (hy : RYields P E S ops o v a w) (he : execOp a'.eval o = execOp a.eval o)
    (hw : Region.wanted o (yielded ops a'.tmps) = Region.wanted o (yielded ops a.tmps)) : RYields P E S ops o v a' w := by
  unfold RYields relAt at *
  rw [he, hw]
  exact hy
theorem RYields.wpOp (ok : RelOk E S) {i : Nat} {o : Oper} {v : Value} {a : Act} {w : World} (hi : ops[i]? = some o) (hy : RYields P E S ops o v a w)
    {K : Act → World → Prop} (h : ∀ w', E w w' → K (a.put o.dst v) w') : wpOp P ops Q i K a w := by
  unfold Go.wpOp
  simp only [hi]
  rcases hy with ⟨hw, hv⟩ | ⟨hw, rfl⟩
  · rw [if_pos hw]
    refine .inl ?_
    have h1 := hv w (ok.srefl w)
    unfold relAt at h1
    unfold Oper.wp
    generalize (execOp a.eval o).run P w = r at *
    cases r with
    | ok n w' =>
      cases n <;> simp only [relUpon] at h1 <;> simp only [Oper.upon]
      case value u =>
        obtain ⟨e1, e2⟩ := h1
        rw [e1, e2]
        exact h _ (ok.refl w)
      case skip =>
        obtain ⟨e1, e2⟩ := h1
        rw [e1, ← e2]
        exact h _ (ok.refl w)
      case enter f args =>
        obtain ⟨e1, hc⟩ := h1
        rw [e1]
        exact hc.mono fun e w'' ⟨he, hw''⟩ => by subst he; exact h _ hw''
    | halt x w' => simp only [relUpon] at h1
  · rw [if_neg (by rw [hw]; exact Bool.false_ne_true)]; exact h _ (ok.refl w)

theorem wpOp_putR {j : Nat} {oi oj : Oper} {v : Value} (hj : ops[j]? = some oj) (hap : oi.apart ops oj = true)
    (hsi : ∀ cs b, oi.op ≠ .select cs b) (hsj : ∀ cs b, oj.op ≠ .select cs b)
    (hQ : ∀ c a w, Q (.panic c) (a.put oi.dst v) w → Q (.panic c) a w) {K : Act → World → Prop} {a : Act} {w u : World}
    (hy : RYields P E S ops oi v a u) (h : wpOp P ops Q j K (a.put oi.dst v) w) :
    wpOp P ops Q j (fun a' w' => RYields P E S ops oi v a' u ∧ K (a'.put oi.dst v) w') a w := by
  obtain ⟨h1, h2, h3⟩ := Oper.apart_spec hap
  have keep : ∀ (a : Act), RYields P E S ops oi v a u → ∀ x, RYields P E S ops oi v (a.put oj.dst x) u := fun a hy x =>
    hy.of_same (execOp_put oi hsi a oj.dst x h3) (wanted_put oi a oj.dst x h3)
  have keepD : ∀ d, RYields P E S ops oi v { a with defers := d :: a.defers } u := fun d => hy.of_same rfl rfl
  unfold Go.wpOp at *
  simp only [hj] at *
  rw [wanted_put oj a oi.dst v h1] at h
  split
  · rename_i hw
    simp only [hw, if_true] at h
    rcases h with h | ⟨hasks, hlets⟩
    case inr => exact .inr ⟨by unfold Oper.asks at *; rw [execOp_put oj hsj a oi.dst v h1] at hasks; exact hasks, hlets⟩
    refine .inl ?_
    unfold Oper.wp at *
    rw [execOp_put oj hsj a oi.dst v h1] at h
    generalize (execOp a.eval oj).run P w = r at *
    cases r with
    | ok n w' =>
      cases n <;> simp only [Oper.upon] at h ⊢
      case value x => exact ⟨keep a hy x, by rw [← Act.put_comm a v x h2]; exact h⟩
      case skip => exact ⟨keep a hy _, by rw [← Act.put_comm a v undef h2]; exact h⟩
      case defer d =>
        refine ⟨keep _ (keepD d) _, ?_⟩
        rw [← Act.put_comm _ v undef h2, ← Act.put_defers]
        exact h
      case enter f args =>
        refine Calls.mono h fun e w'' he => ?_
        cases e with
        | returned x => exact ⟨keep a hy x, by rw [← Act.put_comm a v x h2]; exact he⟩
        | panicked c => exact hQ _ _ _ he
        | outgrown => exact he
      case row row args => exact Rows.mono h fun x w'' he => ⟨keep a hy x, by rw [← Act.put_comm a v x h2]; exact he⟩
    | halt x w' =>
      cases x <;> simp only [Oper.upon] at h ⊢
      case panic x => exact hQ _ _ _ h
  · rename_i hw
    simp only [hw] at h
    exact ⟨keep a hy _, by rw [← Act.put_comm a v undef h2]; exact h⟩

/-- Whatever order is picked, till all but the tail T is listed. -/
def wpAnyW (P : Program) (E S : World → World → Prop) (md : Region.Mode) (ops : Array Oper) (Q : Exit → Act → World → Prop) (T : List Nat) (tf : Nat) : Nat → Array Bool → Act → World → Prop
  | 0, listed, a, w => (∀ k, k < ops.size → k ∉ T → listed.getD k false = true) ∧ ∀ w', E w w' → wpAny P md ops Q tf listed a w'
  | fuel + 1, listed, a, w => ∀ w', E w w' → (Region.ready md ops listed = [] → Q .normal a w') ∧
    ∀ i ∈ Region.ready md ops listed, wpOp P ops Q i (fun a' w'' => S w' w'' ∧ wpAnyW P E S md ops Q T tf fuel (listed.setIfInBounds i true) a' w'') a w'
theorem wpAny_of_W (ok : RelOk E S) {T : List Nat} {tf : Nat} : ∀ (fuel : Nat) (listed : Array Bool) (a : Act) (w : World), wpAnyW P E S md ops Q T tf fuel listed a w → wpAny P md ops Q (fuel + tf) listed a w
  | 0, _, _, w, h => by rw [Nat.zero_add]; exact h.2 w (ok.refl w)
  | fuel + 1, _, _, w, h => by
    rw [show fuel + 1 + tf = (fuel + tf) + 1 by omega]
    exact ⟨(h w (ok.refl w)).1, fun i hi => wpOp_mono (fun a' w' h' => wpAny_of_W ok fuel _ a' w' h'.2) ((h w (ok.refl w)).2 i hi)⟩
theorem wpAnyW_grow (ok : RelOk E S) {T : List Nat} {tf fuel : Nat} {listed : Array Bool} {a : Act} {w u : World} (g : E w u) (h : wpAnyW P E S md ops Q T tf fuel listed a w) : wpAnyW P E S md ops Q T tf fuel listed a u := by
  cases fuel with
  | zero => exact ⟨h.1, fun w' k => h.2 w' (ok.trans g k)⟩
  | succ fuel => exact fun w' k => h w' (ok.trans g k)
theorem wpAnyW_first (ok : RelOk E S) {T : List Nat} {tf i : Nat} {oi : Oper} {v : Value} (hi : ops[i]? = some oi) (hsel : ∀ (j : Nat) (o : Oper) cs b, ops[j]? = some o → o.op ≠ .select cs b)
    (hQ : ∀ c a w, Q (.panic c) (a.put oi.dst v) w → Q (.panic c) a w) (hT : ∀ t ∈ T, reachB md ops ops.size t i = true) :
    ∀ (fuel : Nat) (listed : Array Bool) (a : Act) (w : World), Fit md ops listed →
      (∀ j oj, ops[j]? = some oj → j ≠ i → listed.getD j true = false → (∀ e ∈ oj.after, Region.binds md e = true → e.on ≠ i) → oi.apart ops oj = true) →
      i ∈ Region.ready md ops listed → RYields P E S ops oi v a w →
      wpAnyW P E S md ops Q T tf fuel (listed.setIfInBounds i true) (a.put oi.dst v) w → wpAnyW P E S md ops Q T tf (fuel + 1) listed a w := by
  have hun : ∀ {L : Array Bool} {k : Nat}, L.getD k true = false → L.getD k false = true → False := fun {L k} h0 h1 => by
    rcases Nat.lt_or_ge k L.size with h' | h'
    · simp [h'] at h0 h1; rw [h0] at h1; cases h1
    · simp [Array.getElem?_eq_none h'] at h1
  intro fuel
  induction fuel with
  | zero =>
    intro listed a w hfit _ hr hy H w' g
    refine ⟨fun h => (by rw [h] at hr; cases hr), fun j hj => ?_⟩
    by_cases hji : j = i
    · subst hji; exact (hy.grow ok (ok.sub g)).wpOp ok hi fun w'' k => ⟨ok.sub k, wpAnyW_grow ok (ok.trans g k) H⟩
    · exfalso
      obtain ⟨hjun, oj, hoj, hall⟩ := mem_ready.1 hj
      have hjT : j ∈ T := by
        refine Classical.byContradiction fun hn => ?_
        have := H.1 j (Array.getElem?_eq_some_iff.1 hoj).1 hn
        rw [getD_set_ne false (Ne.symm hji)] at this
        exact hun hjun this
      exact hun (mem_ready.1 hr).1 (reach_listed hfit _ j i oj hoj hall (hT j hjT))
  | succ fuel ih =>
    intro listed a w hfit hfree hr hy H w' g
    refine ⟨fun h => (by rw [h] at hr; cases hr), fun j hj => ?_⟩
    by_cases hji : j = i
    · subst hji; exact (hy.grow ok (ok.sub g)).wpOp ok hi fun w'' k => ⟨ok.sub k, wpAnyW_grow ok (ok.trans g k) H⟩
    · have h1 := (H w' g).2 j (ready_mono hj hji)
      obtain ⟨hjun, oj, hoj, hall⟩ := mem_ready.1 hj
      have hnot : ∀ e ∈ oj.after, Region.binds md e = true → e.on ≠ i := fun e he hb heq => by
        have h1 := hall e he hb
        rw [heq] at h1
        exact hun (mem_ready.1 hr).1 h1
      have h2 := wpOp_putR hoj (hfree j oj hoj hji hjun hnot) (fun cs b => hsel i oi cs b hi) (fun cs b => hsel j oj cs b hoj) hQ (hy.grow ok (ok.sub g)) h1
      have hfree' : ∀ k ok, ops[k]? = some ok → k ≠ i → (listed.setIfInBounds j true).getD k true = false →
          (∀ e ∈ ok.after, Region.binds md e = true → e.on ≠ i) → oi.apart ops ok = true := fun k ok hk hki hun hno => by
        refine hfree k ok hk hki ?_ hno
        by_cases hjk : j = k
        · subst hjk; exact hjun
        · rw [getD_set_ne true hjk] at hun; exact hun
      refine wpOp_mono (fun a' w'' h3 => ⟨h3.2.1, ih (listed.setIfInBounds j true) a' w'' (hfit.set hj) hfree' (ready_mono hr (Ne.symm hji)) (h3.1.grow ok h3.2.1) ?_⟩) h2
      rw [Array.setIfInBounds_comm _ _ hji]
      exact h3.2.2
theorem wpAnyW_mask (ok : RelOk E S) {T : List Nat} {tf : Nat} {A : Act} {n : Nat} (hsel : Region.noSelect ops = true) (hQ : ∀ c a o v w, Q (.panic c) (a.put o v) w → Q (.panic c) a w) {w : World} {fuel : Nat} : ∀ (m : List Bool) (l : List Oper) (k : Nat) (listed : Array Bool) (a : Act),
    (∀ j, l[j]? = ops[k + j]?) → a.tmps.size = n → Fit md ops listed → maskOk md ops n m l k listed = true → maskReach md ops T m k = true →
    (∀ x : RelT S w, wpQuiet P ops (fun w' => ∃ y : RelT E x.val, w' = y.val) (fun a' => a' = A) (pickL m l) a) →
    wpAnyW P E S md ops Q T tf fuel (maskListed m k listed) A w → wpAnyW P E S md ops Q T tf (maskCount m + fuel) listed a w
  | [], l, k, listed, a, _, _, _, _, _, h, H => by
    have h1 : a = A := by have := h ⟨w, ok.srefl w⟩; rw [pickL] at this; exact this; all_goals simp
    rw [h1]
    simpa [maskCount, maskListed] using H
  | false :: m, [], k, listed, a, _, _, _, hB, _, _, _ => by simp [maskOk] at hB
  | true :: m, [], k, listed, a, _, _, _, hB, _, _, _ => by simp [maskOk] at hB
  | false :: m, o :: l, k, listed, a, hl, hn, hfit, hB, hR, h, H => by
    simp only [maskCount, maskListed, maskOk, maskReach, pickL] at *
    exact wpAnyW_mask ok hsel hQ m l (k + 1) listed a (fun j => by have := hl (j + 1); simpa [Nat.add_assoc, Nat.add_comm 1 j] using this) hn hfit hB hR h H
  | true :: m, o :: l, k, listed, a, hl, hn, hfit, hB, hR, h, H => by
    have h0 : ops[k]? = some o := by simpa using (hl 0).symm
    simp only [maskCount, maskListed, maskOk, maskReach, pickL, Bool.and_eq_true] at *
    obtain ⟨⟨⟨hr, hf⟩, hd⟩, hB'⟩ := hB
    obtain ⟨hR0, hR'⟩ := hR
    have hT : ∀ t ∈ T, reachB md ops ops.size t k = true := fun t ht => List.all_eq_true.1 hR0 t ht
    have hrk : k ∈ Region.ready md ops listed := by simpa using hr
    cases ho : o.dst with
    | none => rw [ho] at hd; cases hd
    | some d =>
      rw [ho] at hd
      simp only [Bool.and_eq_true, decide_eq_true_eq, List.all_eq_true, bne_iff_ne] at hd
      have hslot : ∀ v, (a.put (some d) v).tmps[d]? = some v := fun v => by simp [Act.put, hn, hd.1]
      by_cases hw : Region.wanted o (yielded ops a.tmps) = true
      · have h' : ∀ x : RelT S w, (∀ w', (∃ y : RelT E x.val, w' = y.val) → o.quietAt P a (fun w' => ∃ y : RelT E x.val, w' = y.val) w' ((A.tmps[d]?).getD undef)) ∧
            wpQuiet P ops (fun w' => ∃ y : RelT E x.val, w' = y.val) (fun a' => a' = A) (pickL m l) (a.put (some d) ((A.tmps[d]?).getD undef)) := fun x => by
          have h1 := h x
          unfold wpQuiet at h1
          rw [if_pos hw] at h1
          obtain ⟨v, h2, h3⟩ := h1
          rw [ho] at h3
          have h4 := quiet_slot (d := d) (pickL m l) _ hd.2 h3
          rw [hslot] at h4
          rw [h4]
          exact ⟨h2, h3⟩
        have hy : RYields P E S ops o ((A.tmps[d]?).getD undef) a w := .inl ⟨hw, fun w' g => by
          have h1 := (h' ⟨w', g⟩).1 w' ⟨⟨w', ok.refl w'⟩, rfl⟩
          unfold Oper.quietAt at h1
          unfold relAt
          generalize (execOp a.eval o).run P w' = r at *
          cases r with
          | ok nx w2 =>
            cases nx <;> simp only [Oper.quietUpon] at h1 <;> simp only [relUpon]
            case value u => exact h1
            case skip => exact h1
            case enter f args => exact ⟨h1.1, h1.2.mono fun e w3 ⟨he, y, hy⟩ => ⟨he, by rw [hy]; exact y.rel⟩⟩
          | halt x w2 => simp only [Oper.quietUpon] at h1⟩
        rw [show maskCount m + 1 + fuel = (maskCount m + fuel) + 1 by omega]
        refine wpAnyW_first ok h0 (Region.noSelect_spec hsel) (fun c a w => hQ c a _ _ w) hT _ listed a w hfit (Region.free_spec h0 hf) hrk hy ?_
        rw [ho]
        exact wpAnyW_mask ok hsel hQ m l (k + 1) _ _ (fun j => by have := hl (j + 1); simpa [Nat.add_assoc, Nat.add_comm 1 j] using this) (by rw [put_size]; exact hn) (hfit.set hrk) hB' hR' (fun x => (h' x).2) H
      · have hwf : Region.wanted o (yielded ops a.tmps) = false := by simpa using hw
        rw [show maskCount m + 1 + fuel = (maskCount m + fuel) + 1 by omega]
        refine wpAnyW_first ok h0 (Region.noSelect_spec hsel) (fun c a w => hQ c a _ _ w) hT _ listed a w hfit (Region.free_spec h0 hf) hrk (.inr ⟨hwf, rfl⟩) ?_
        refine wpAnyW_mask ok hsel hQ m l (k + 1) _ _ (fun j => by have := hl (j + 1); simpa [Nat.add_assoc, Nat.add_comm 1 j] using this) (by rw [put_size]; exact hn) (hfit.set hrk) hB' hR' (fun x => ?_) H
        have h1 := h x
        unfold wpQuiet at h1
        rw [if_neg hw] at h1
        exact h1
/-- The tail stands by itself: all else that is not listed is taken by masks and one by one. -/
theorem wpAny_tailW (ok : RelOk E S) {F fuel tf : Nat} (T : List Nat) {listed : Array Bool} {a : Act} {w : World} (hF : fuel + tf = F) (h : wpAnyW P E S md ops Q T tf fuel listed a w) : wpAny P md ops Q F listed a w := by
  rw [← hF]; exact wpAny_of_W ok _ _ _ _ h
theorem wpAnyW_take (ok : RelOk E S) {T : List Nat} {tf F fuel n : Nat} {l : List Oper} {listed : Array Bool} {a : Act} {w : World} (m : List Bool) (hF : maskCount m + fuel = F) (hsel : Region.noSelect l.toArray = true)
    (hn : a.tmps.size = n) (hfit : fitB md l.toArray listed = true) (hB : maskOk md l.toArray n m l 0 listed = true) (hR : maskReach md l.toArray T m 0 = true)
    (h : ∃ A, (∀ x : RelT S w, wpQuiet P l.toArray (fun w' => ∃ y : RelT E x.val, w' = y.val) (fun a' => a' = A) (pickL m l) a) ∧ wpAnyW P E S md l.toArray (NoPanic Q) T tf fuel (maskListed m 0 listed) A w) : wpAnyW P E S md l.toArray (NoPanic Q) T tf F listed a w := by
  obtain ⟨A, h1, h2⟩ := h
  rw [← hF]
  exact wpAnyW_mask ok hsel (fun _ _ _ _ _ h => h) m l 0 listed a (fun j => by simp) hn (fit_of hfit) hB hR h1 h2
theorem wpAnyW_one {T : List Nat} {tf m fuel : Nat} {listed : Array Bool} {a : Act} {w : World} (hr : Region.ready md ops listed = [m])
    (h : ∀ w', E w w' → wpOp P ops Q m (fun a' w'' => S w' w'' ∧ wpAnyW P E S md ops Q T tf fuel (listed.setIfInBounds m true) a' w'') a w') : wpAnyW P E S md ops Q T tf (fuel + 1) listed a w :=
  fun w' g => ⟨fun h0 => (by rw [hr] at h0; cases h0), fun i hi => by
    rw [hr] at hi
    have : i = m := by simpa using hi
    subst this
    exact h w' g⟩
theorem wpAnyW_rest {T : List Nat} {tf : Nat} {listed : Array Bool} {a : Act} {w : World} (hl : allBut T ops.size listed = true) (h : ∀ w', E w w' → wpAny P md ops Q tf listed a w') : wpAnyW P E S md ops Q T tf 0 listed a w := by
  refine ⟨fun k hk hT => ?_, h⟩
  have := List.all_eq_true.1 hl k (List.mem_range.2 hk)
  simpa [hT] using this
/-- Two operations may come up. -/
theorem wpAnyW_two {T : List Nat} {tf m n fuel : Nat} {listed : Array Bool} {a : Act} {w : World} (hr : Region.ready md ops listed = [m, n])
    (h1 : ∀ w', E w w' → wpOp P ops Q m (fun a' w'' => S w' w'' ∧ wpAnyW P E S md ops Q T tf fuel (listed.setIfInBounds m true) a' w'') a w')
    (h2 : ∀ w', E w w' → wpOp P ops Q n (fun a' w'' => S w' w'' ∧ wpAnyW P E S md ops Q T tf fuel (listed.setIfInBounds n true) a' w'') a w') : wpAnyW P E S md ops Q T tf (fuel + 1) listed a w :=
  fun w' g => ⟨fun h0 => (by rw [hr] at h0; cases h0), fun i hi => by
    rw [hr] at hi
    rcases (by simpa using hi : i = m ∨ i = n) with e | e
    · subst e; exact h1 w' g
    · subst e; exact h2 w' g⟩
end
end Go.Proofs.YtcdmjckkencgoaaGreatDoor
end

section
namespace Go.Proofs.YtcdmjckkencgoaaGreatDoor
open Go.RowKit

theorem only_grown {o : Option Nat} {w w' : World} (h : w.grownBy w' o) : Only o w w' := ⟨h.os, h.tape, h.output, h.size, h.block⟩
theorem kk3_only {w w' : World} {g : Nat} {v0 v1 v2 : Value} {o : Option Nat} (h : KK3 w g v0 v1 v2) (t : Only o w w') (hne : o = some g → False) : KK3 w' g v0 v1 v2 := by
  have hl := lt_of_cell h.1
  have hb := t.block g hl (fun e => hne e.symm)
  exact ⟨by rw [World.cell?_of_block (w := w) (a := ⟨g, 0, none⟩) hb, h.1], by rw [World.cell?_of_block (w := w) (a := ⟨g, 1, none⟩) hb, h.2.1], by rw [World.cell?_of_block (w := w) (a := ⟨g, 2, none⟩) hb, h.2.2]⟩
/-- Three cells of a block that can be written. -/
def KF3 (w : World) (g : Nat) (v0 v1 v2 : Value) : Prop := KK3 w g v0 v1 v2 ∧ ∀ i, w.frozen? ⟨g, i, none⟩ = false
theorem KF3.new (w : World) (v0 v1 v2 : Value) (t : TypeId) : KF3 (w.alloc (.cells #[v0, v1, v2] t)) w.heap.size v0 v1 v2 :=
  ⟨KK3.new w v0 v1 v2 t, fun i => by rw [World.frozen?_alloc_at _ _ _ _ rfl]⟩
theorem KF3.below {w w' : World} {g : Nat} {v0 v1 v2 : Value} (h : KF3 w g v0 v1 v2) (hb : Below w.heap.size w w') : KF3 w' g v0 v1 v2 := by
  have hl := lt_of_cell h.1.1
  exact ⟨h.1.below hb, fun i => by rw [below_fz hb hl, h.2]⟩
theorem KF3.only {w w' : World} {g : Nat} {v0 v1 v2 : Value} {o : Option Nat} (h : KF3 w g v0 v1 v2) (t : Only o w w') (hne : o = some g → False) : KF3 w' g v0 v1 v2 := by
  have hl := lt_of_cell h.1.1
  exact ⟨kk3_only h.1 t hne, fun i => by rw [World.frozen?_of_block (w := w) (a := ⟨g, i, none⟩) (t.block g hl (fun e => hne e.symm)), h.2]⟩
theorem KF3.touch {w w' : World} {R g : Nat} {v0 v1 v2 : Value} (h : KF3 w g v0 v1 v2) (t : Touch R w w') (hne : g ≠ R) : KF3 w' g v0 v1 v2 :=
  h.only (o := some R) ⟨t.os, t.tape, t.output, t.size, fun k hk hr => t.block k hk (fun e => hr (by rw [e]))⟩ (fun e => by injection e with e; exact hne e.symm)
theorem KF3.set0 {w : World} {g : Nat} {v0 v1 v2 : Value} (h : KF3 w g v0 v1 v2) (u : Value) : KF3 (w.setCell ⟨g, 0, none⟩ u) g u v1 v2 :=
  ⟨⟨cell_same h.1.1 _, (cell_off (by omega) _).trans h.1.2.1, (cell_off (by omega) _).trans h.1.2.2⟩, fun i => (World.frozen?_setCell _ _ _ _).trans (h.2 i)⟩
theorem KF3.set2 {w : World} {g : Nat} {v0 v1 v2 : Value} (h : KF3 w g v0 v1 v2) (u : Value) : KF3 (w.setCell ⟨g, 2, none⟩ u) g v0 v1 u :=
  ⟨⟨(cell_off (by omega) _).trans h.1.1, (cell_off (by omega) _).trans h.1.2.1, cell_same h.1.2.2 _⟩, fun i => (World.frozen?_setCell _ _ _ _).trans (h.2 i)⟩
theorem KF3.off {w : World} {g h i : Nat} {v0 v1 v2 : Value} (k : KF3 w g v0 v1 v2) (hne : h ≠ g) (u : Value) : KF3 (w.setCell ⟨h, i, none⟩ u) g v0 v1 v2 :=
  k.only (o := some h) ((Only.refl (some h) w).setCell u) (fun e => by injection e with e; exact hne e)
theorem rdF_ofD {B n : Nat} {a : Option Addr} {c : Nat} {xs : List Fld} {u : World} (h : OwnR n 2 fldC B (.slice a xs.length c) xs u) : RdR 2 fldC u a xs.length xs := by
  obtain ⟨a', c', e, h2, _, _⟩ := h.read fldC_len
  injection e with e1 _ _
  subst e1; exact h2
end Go.Proofs.YtcdmjckkencgoaaGreatDoor
end

section
namespace Go.Proofs.YtcdmjckkencgoaaGreatDoor
open Go.ChangeShapes Go.WideShapes Go.ChangeAt Go.RowKit

theorem RdGs.only {M B g : Nat} {w w' : World} {f : Nat} {a : Option Addr} {ks : List Prt} (t : Only (some g) w w') (hg : g < B) (h : RdGs M B w f a ks) : RdGs M B w' f a ks := by
  rcases h with e | ⟨b, off, e, hB, hl, hk⟩
  · exact .inl e
  · refine .inr ⟨b, off, e, hB, Nat.lt_of_lt_of_le hl t.size, fun i hi => ?_⟩
    obtain ⟨v0, v1, v2, g0, g1, g2, g3⟩ := hk i hi
    exact ⟨v0, v1, v2, by rw [only_at t hl (by omega), g0], by rw [only_at t hl (by omega), g1], by rw [only_at t hl (by omega), g2], RdG.only t hg f g3⟩
theorem RdGs.base {M B C : Nat} {w : World} {f : Nat} {a : Option Addr} {ks : List Prt} (hc : C ≤ B) (h : RdGs M B w f a ks) : RdGs M C w f a ks := by
  rcases h with e | ⟨b, off, e, hB, hl, hk⟩
  · exact .inl e
  · refine .inr ⟨b, off, e, Nat.le_trans hc hB, hl, fun i hi => ?_⟩
    obtain ⟨v0, v1, v2, g0, g1, g2, g3⟩ := hk i hi
    exact ⟨v0, v1, v2, g0, g1, g2, RdG.base hc f g3⟩
theorem lo_of_own {B : Nat} {a : Option Addr} {n c : Nat} (h : ∀ g, (Value.slice a n c).ownBlock = some g → B ≤ g) : lo B a := by
  intro x e
  subst e
  exact h x.block rfl
theorem KF3.set1 {w : World} {g : Nat} {v0 v1 v2 : Value} (h : KF3 w g v0 v1 v2) (u : Value) : KF3 (w.setCell ⟨g, 1, none⟩ u) g v0 u v2 :=
  ⟨⟨(cell_off (by omega) _).trans h.1.1, cell_same h.1.2.1 _, (cell_off (by omega) _).trans h.1.2.2⟩, fun i => (World.frozen?_setCell _ _ _ _).trans (h.2 i)⟩
theorem set3_get {L : List Value} {k : Nat} (h : k * 3 + 2 < L.length) (s0 s1 s2 : Value) : (((L.set (k * 3) s0).set (k * 3 + 1) s1).set (k * 3 + 2) s2)[k * 3]? = some s0 ∧ (((L.set (k * 3) s0).set (k * 3 + 1) s1).set (k * 3 + 2) s2)[k * 3 + 1]? = some s1 ∧ (((L.set (k * 3) s0).set (k * 3 + 1) s1).set (k * 3 + 2) s2)[k * 3 + 2]? = some s2 ∧
    ∀ i, i < k * 3 → (((L.set (k * 3) s0).set (k * 3 + 1) s1).set (k * 3 + 2) s2)[i]? = L[i]? := by
  refine ⟨?_, ?_, ?_, fun i hi => ?_⟩
  · rw [List.getElem?_set_ne (by omega), List.getElem?_set_ne (by omega), List.getElem?_set_self (by omega)]
  · rw [List.getElem?_set_ne (by omega), List.getElem?_set_self (by simp; omega)]
  · rw [List.getElem?_set_self (by simp; omega)]
  · rw [List.getElem?_set_ne (by omega), List.getElem?_set_ne (by omega), List.getElem?_set_ne (by omega)]
theorem strRow_of {B n c : Nat} {T : TypeId} {k : Nat} {a : Option Addr} {L : List Value} {w : World} (h : w.ownsRow B T k (.slice a n c) n L) {q : Nat} (hq : L.length = q) (hs : ∀ x ∈ L, ∃ s : ByteArray, x = .string s) : StrRow B w.heap.size w a q := by
  rcases h.2 with ⟨hv, h0⟩ | ⟨g, cap, cur, hv, hg1, _⟩
  · refine .inl ?_
    have := h.1
    rw [h0, Nat.zero_mul] at this
    omega
  · injection hv with e1 e2 e3
    subst e1
    refine .inr ⟨g, rfl, hg1, (World.ownsRow.lt h g rfl).2, (World.ownsRow.lt h g rfl).2, fun i hi => ?_⟩
    have hi' : i < L.length := by omega
    obtain ⟨s, hs'⟩ := hs _ (List.getElem_mem hi')
    refine ⟨⟨s, ?_⟩, h.frozenAt i⟩
    have := h.cells (g := g) rfl i (.string s) (by rw [List.getElem?_eq_getElem hi', hs'])
    rw [add0] at this; exact this
theorem strRow_ownL {B n c : Nat} {a : Option Addr} {xs : List (List UInt8)} {w : World} (h : OwnL B (.slice a n c) xs w) (hl : xs.length = n) : StrRow B w.heap.size w a n := by
  subst hl
  exact strRow_of (q := xs.length) h (by simp) (fun x hx => by
    obtain ⟨l, _, rfl⟩ := List.mem_map.1 hx
    exact ⟨_, rfl⟩)
theorem strRow_ownF {B n c : Nat} {a : Option Addr} {xs : List Fld} {w : World} (h : OwnF B (.slice a n c) xs w) (hl : xs.length = n) : StrRow B w.heap.size w a (2 * n) := by
  subst hl
  unfold OwnF OwnR at h
  refine strRow_of (q := 2 * xs.length) h (by have := h.1; omega) (fun x hx => ?_)
  obtain ⟨l, _, hx⟩ := List.mem_flatMap.1 hx
  unfold fldC at hx
  simp only [List.mem_cons, List.not_mem_nil, or_false] at hx
  rcases hx with rfl | rfl <;> exact ⟨_, rfl⟩
theorem tInfo : (Tryz.prog.info? 33).map (fun i => (i.zero, i.size, i.bytes)) = some (some (.agg #[.slice none 0 0, .slice none 0 0, .slice none 0 0]), 3, 72) := by kernel_rfl
def PRet (f : Nat) (p : Prt) (w : World) (e : Ending) (w' : World) : Prop := ∃ v, e = .returned v ∧ RdG 1048576 w.heap.size w' f v p ∧ ShT w.heap.size w'.heap.size w' f v p ∧ Below w.heap.size w w'
def ToAt (f : Nat) : Prop := ∀ (v : Value) (p : Prt) (w : World), RdT w f v p → Calls Tryz.prog 9 #[v] w (PRet f p w)
def KsRet (f : Nat) (ks : List Prt) (n : Nat) (w : World) (e : Ending) (w' : World) : Prop := ∃ a, e = .returned (.slice a n n) ∧ RdGs 1048576 w.heap.size w' f a ks ∧ ShK w.heap.size w'.heap.size w' f a ks ∧ Below w.heap.size w w'
def rowAt (f B : Nat) (wr : World) (L : List Value) (ks : List Prt) (j : Nat) (h : j < ks.length) : Prop := ∃ v0 v1 v2, L[j * 3]? = some v0 ∧ L[j * 3 + 1]? = some v1 ∧ L[j * 3 + 2]? = some v2 ∧ RdG 1048576 B wr f (.agg #[v0, v1, v2]) ks[j] ∧ ShT B wr.heap.size wr f (.agg #[v0, v1, v2]) ks[j]
set_option maxRecDepth 100000 in
set_option maxHeartbeats 2000000 in
theorem toPartS_of (f : Nat) (IH : ToAt f) (a : Option Addr) (n c : Nat) (ks : List Prt) (w : World) (hr : RdKs w f a ks) (hl : ks.length = n) (hn : n ≤ 1048576) :
    Calls Tryz.prog 33 #[.slice a n c] w (KsRet f ks n w) := by
  obtain ⟨i0, hi, hz0, hz1, hz2⟩ := info_parts tInfo
  have HLEN := Lib.hid hl
  have HR := Lib.hid hr
  clear hl hr
  go_enter Tryz.func33, Tryz.ntmps33
  go_wp2_with (at_make; refine wpList_make_full _ rfl _ _ 31 rfl w.heap.size 33 i0 (.agg #[.slice none 0 0, .slice none 0 0, .slice none 0 0]) 3 Tryz.underlying31 hi hz0 hz1 _ _ (n : Int) (n : Int) n rfl rfl rfl rfl ?c1 ?c2 ?c3 ?_)
  case c1 => rw [hz2]; omega
  case c2 => unfold maxLen; omega
  case c3 => exact Nat.le_refl _
  intro w1 hown hgrow
  have hb1 : Below w.heap.size w w1 := (Below.refl _ _).grown hgrow (Nat.le_refl _) (fun k hk => by cases hk)
  have hsz1 := (hown.lt w.heap.size rfl).2
  go_wp2_with fail
  go_loopw [4] (fun i wr => ∃ (k : Nat) (L : List Value), k ≤ n ∧ i = .int .i64 k ∧ Below w.heap.size w wr ∧ wr.ownsRow w.heap.size 33 3 (.slice (some ⟨w.heap.size, 0, none⟩) n n) n L ∧ w.heap.size < wr.heap.size ∧ ∀ j, j < k → (hj : j < ks.length) → rowAt f (w.heap.size + 1) wr L ks j hj) (fun i _ => n - (intOf i).toNat)
  case atStart => exact ⟨0, _, Nat.zero_le _, rfl, hb1, hown, hsz1, fun j h => by omega⟩
  case round =>
    obtain ⟨k, L, hk, rfl, hb, hO, hzr, hL⟩ := hrel
    have HL := Lib.hid hL
    clear hL
    by_cases hlt : k < n
    · have dk : decide ((k : Int) < n) = true := decide_eq_true (by omega)
      have hkx : k < ks.length := by rw [HLEN.out]; exact hlt
      obtain ⟨b, off, rfl, hbl, a1, c1, a2, c2, a3, c3, q0, q1, q2, q3⟩ := (HR.out.below hb).at hkx
      have HC := Lib.hid (IH _ ks[k] wr q3)
      have hlL : L.length = n * 3 := hO.1
      have h3 : k * 3 + 2 < L.length := by rw [hlL]; omega
      have HS3 := Lib.hid (set3_get h3)
      clear q3
      obtain ⟨q, hq⟩ : ∃ q, q = ks[k] := ⟨_, rfl⟩
      have HQ := Lib.hid hq
      rw [← hq] at HC q0 q1 q2
      clear hq
      generalize q.fields.length = n1 at *
      generalize q.body.length = n2 at *
      generalize q.kids.length = n3 at *
      go_wp2_with fail
      refine HC.out.mono ?_
      rintro e w2 ⟨v', rfl, hrd, hsh, hb2⟩
      obtain ⟨b1, m1, d1, b2, m2, d2, b3, m3, d3, rfl⟩ : ∃ (b1 : Option Addr) (m1 d1 : Nat) (b2 : Option Addr) (m2 d2 : Nat) (b3 : Option Addr) (m3 d3 : Nat), v' = .agg #[.slice b1 m1 d1, .slice b2 m2 d2, .slice b3 m3 d3] := by
        obtain ⟨_, _, _, _, _, _, _, _, e, _⟩ := hrd.open
        exact ⟨_, _, _, _, _, _, _, _, _, e⟩
      have HRD := Lib.hid hrd
      have HSH := Lib.hid hsh
      have hO2 := row_keep hO hb2
      have hb02 := nx hb hb2
      have hz2' : w.heap.size < w2.heap.size := Nat.lt_of_lt_of_le hzr hb2.size
      obtain ⟨v0, hv0⟩ := row_cell hO2 (k * 3) (by omega)
      obtain ⟨v1, hv1⟩ := row_cell hO2 (k * 3 + 1) (by omega)
      obtain ⟨v2, hv2⟩ := row_cell hO2 (k * 3 + 2) (by omega)
      have f0 : w2.frozen? ⟨w.heap.size, k * 3, none⟩ = false := hO2.frozenAt _
      have f1 : w2.frozen? ⟨w.heap.size, k * 3 + 1, none⟩ = false := hO2.frozenAt _
      have f2 : w2.frozen? ⟨w.heap.size, k * 3 + 2, none⟩ = false := hO2.frozenAt _
      have HST := Lib.hid (((hO2.stored (k * 3) (.slice b1 m1 d1)).1.stored (k * 3 + 1) (.slice b2 m2 d2)).1.stored (k * 3 + 2) (.slice b3 m3 d3)).1
      have T : Only (some w.heap.size) w2 (((w2.setCell ⟨w.heap.size, k * 3, none⟩ (.slice b1 m1 d1)).setCell ⟨w.heap.size, k * 3 + 1, none⟩ (.slice b2 m2 d2)).setCell ⟨w.heap.size, k * 3 + 2, none⟩ (.slice b3 m3 d3)) := (((Only.refl (some w.heap.size) w2).setCell (.slice b1 m1 d1)).setCell (.slice b2 m2 d2)).setCell (.slice b3 m3 d3)
      have SF : Soft (w.heap.size + 1) w2 (((w2.setCell ⟨w.heap.size, k * 3, none⟩ (.slice b1 m1 d1)).setCell ⟨w.heap.size, k * 3 + 1, none⟩ (.slice b2 m2 d2)).setCell ⟨w.heap.size, k * 3 + 2, none⟩ (.slice b3 m3 d3)) := ((Soft.low (Nat.lt_succ_self _) _).trans (Soft.low (Nat.lt_succ_self _) _)).trans (Soft.low (Nat.lt_succ_self _) _)
      have HNX : Hid (∀ j, j < k + 1 → (hj : j < ks.length) → rowAt f (w.heap.size + 1) (((w2.setCell ⟨w.heap.size, k * 3, none⟩ (.slice b1 m1 d1)).setCell ⟨w.heap.size, k * 3 + 1, none⟩ (.slice b2 m2 d2)).setCell ⟨w.heap.size, k * 3 + 2, none⟩ (.slice b3 m3 d3)) (((L.set (k * 3) (.slice b1 m1 d1)).set (k * 3 + 1) (.slice b2 m2 d2)).set (k * 3 + 2) (.slice b3 m3 d3)) ks j hj) := fun j hj hjx => by
        obtain ⟨e0, e1, e2, e3⟩ := HS3.out (.slice b1 m1 d1) (.slice b2 m2 d2) (.slice b3 m3 d3)
        by_cases e : j = k
        · subst e
          refine ⟨(.slice b1 m1 d1), (.slice b2 m2 d2), (.slice b3 m3 d3), e0, e1, e2, ?_, ?_⟩
          · rw [← HQ.out]
            exact RdG.only T (Nat.lt_succ_self _) f (RdG.base hzr f HRD.out)
          · rw [← HQ.out]
            exact ShT.soft SF f (ShT.wide hzr SF.size f HSH.out)
        · obtain ⟨x0, x1, x2, k0, k1, k2, k3, k4⟩ := HL.out j (by omega) hjx
          exact ⟨x0, x1, x2, by rw [e3 _ (by omega), k0], by rw [e3 _ (by omega), k1], by rw [e3 _ (by omega), k2], RdG.only T (Nat.lt_succ_self _) f (RdG.below hb2 f k3), ShT.soft SF f (ShT.wide (Nat.le_refl _) (Nat.le_trans hb2.size SF.size) f (ShT.soft (Soft.below hb2) f k4))⟩
      clear hlL h3 hO hO2 T hrd SF hsh
      go_wp2
      go_roundw
      case rel => exact ⟨k + 1, _, by omega, by go_num, (((hb02.setCell (by simp) _).setCell (by simp) _).setCell (by simp) _), HST.out, by simpa using hz2', HNX.out⟩
      case measure => simp [intOf]; omega
    · have dk : decide ((k : Int) < n) = false := decide_eq_false (by omega)
      have HKS : Hid (RdGs 1048576 w.heap.size wr f (some ⟨w.heap.size, 0, none⟩) ks) := by
        refine .inr ⟨w.heap.size, 0, rfl, Nat.le_refl _, hzr, fun i hi => ?_⟩
        obtain ⟨x0, x1, x2, k0, k1, k2, k3, _⟩ := HL.out i (by have := HLEN.out; omega) hi
        have C : ∀ j z, L[j]? = some z → wr.cell? ⟨w.heap.size, 0 + j, none⟩ = some z := fun j z hz => by
          have := hO.cells (g := w.heap.size) rfl j z hz
          rw [add0] at this
          rw [Nat.zero_add]; exact this
        exact ⟨x0, x1, x2, C _ _ k0, C _ _ k1, C _ _ k2, RdG.base (Nat.le_succ _) f k3⟩
      have HKH : Hid (ShK w.heap.size wr.heap.size wr f (some ⟨w.heap.size, 0, none⟩) ks) := by
        refine .inr ⟨w.heap.size, rfl, Nat.le_refl _, hzr, by have := HLEN.out; omega, fun i hi => ?_⟩
        obtain ⟨x0, x1, x2, k0, k1, k2, _, k4⟩ := HL.out i (by have := HLEN.out; omega) hi
        have C : ∀ j z, L[j]? = some z → wr.cell? ⟨w.heap.size, j, none⟩ = some z := fun j z hz => by
          have := hO.cells (g := w.heap.size) rfl j z hz
          rw [add0] at this; exact this
        exact ⟨x0, x1, x2, C _ _ k0, C _ _ k1, C _ _ k2, ShT.wide (Nat.le_succ _) (Nat.le_refl _) f k4⟩
      clear hO
      go_wp2
      go_ret
      exact ⟨_, rfl, HKS.out, HKH.out, hb⟩
set_option maxRecDepth 100000 in
set_option maxHeartbeats 2000000 in
theorem to_step (f : Nat) (IH : ToAt f) : ToAt (f + 1) := by
  intro v p w hr
  obtain ⟨f', a1, c1, a2, c2, a3, c3, hff, rfl, ⟨hf, hfc⟩, ⟨hbd, hbc, hbn⟩, hkc, hpf, hks⟩ := hr.open
  obtain rfl : f = f' := by omega
  have hA : Below w.heap.size w (((w.alloc (.cells #[.slice a1 p.fields.length c1, .slice a2 p.body.length c2, .slice a3 p.kids.length c3] 26)).alloc (.cells #[.slice none 0 0, .slice none 0 0, .slice none 0 0] 33)).alloc (.cells #[.slice none 0 0, .slice none 0 0, .slice none 0 0] 33)) := (((Below.refl _ _).alloc (Nat.le_refl _) _).alloc (by simp) _).alloc (by simp; omega) _
  have HX : Hid (KK3 (((w.alloc (.cells #[.slice a1 p.fields.length c1, .slice a2 p.body.length c2, .slice a3 p.kids.length c3] 26)).alloc (.cells #[.slice none 0 0, .slice none 0 0, .slice none 0 0] 33)).alloc (.cells #[.slice none 0 0, .slice none 0 0, .slice none 0 0] 33)) w.heap.size (.slice a1 p.fields.length c1) (.slice a2 p.body.length c2) (.slice a3 p.kids.length c3)) :=
    ((KK3.new w _ _ _ _).below ((Below.refl _ _).alloc (Nat.le_refl _) _)).below ((Below.refl _ _).alloc (Nat.le_refl _) _)
  have HY : Hid (KF3 (((w.alloc (.cells #[.slice a1 p.fields.length c1, .slice a2 p.body.length c2, .slice a3 p.kids.length c3] 26)).alloc (.cells #[.slice none 0 0, .slice none 0 0, .slice none 0 0] 33)).alloc (.cells #[.slice none 0 0, .slice none 0 0, .slice none 0 0] 33)) (w.heap.size + 1) (.slice none 0 0) (.slice none 0 0) (.slice none 0 0)) := by
    have := (KF3.new (w.alloc (.cells #[.slice a1 p.fields.length c1, .slice a2 p.body.length c2, .slice a3 p.kids.length c3] 26)) (.slice none 0 0) (.slice none 0 0) (.slice none 0 0) 33).below ((Below.refl _ _).alloc (Nat.le_refl _) (.cells #[.slice none 0 0, .slice none 0 0, .slice none 0 0] 33))
    have e : (w.alloc (.cells #[.slice a1 p.fields.length c1, .slice a2 p.body.length c2, .slice a3 p.kids.length c3] 26)).heap.size = w.heap.size + 1 := by simp
    rw [e] at this; exact this
  have HZ : Hid (KF3 (((w.alloc (.cells #[.slice a1 p.fields.length c1, .slice a2 p.body.length c2, .slice a3 p.kids.length c3] 26)).alloc (.cells #[.slice none 0 0, .slice none 0 0, .slice none 0 0] 33)).alloc (.cells #[.slice none 0 0, .slice none 0 0, .slice none 0 0] 33)) (w.heap.size + 1 + 1) (.slice none 0 0) (.slice none 0 0) (.slice none 0 0)) := by
    have := KF3.new ((w.alloc (.cells #[.slice a1 p.fields.length c1, .slice a2 p.body.length c2, .slice a3 p.kids.length c3] 26)).alloc (.cells #[.slice none 0 0, .slice none 0 0, .slice none 0 0] 33)) (.slice none 0 0) (.slice none 0 0) (.slice none 0 0) 33
    have e : ((w.alloc (.cells #[.slice a1 p.fields.length c1, .slice a2 p.body.length c2, .slice a3 p.kids.length c3] 26)).alloc (.cells #[.slice none 0 0, .slice none 0 0, .slice none 0 0] 33)).heap.size = w.heap.size + 1 + 1 := by simp
    rw [e] at this; exact this
  have HF : Hid (∀ u, Below w.heap.size w u → Calls Tryz.prog 32 #[.slice a1 p.fields.length c1] u (FldsRet p.fields u)) := fun u h => toFieldS_any a1 p.fields.length c1 p.fields u (hf.below h) (by have := hpf.1; omega)
  have HB : Hid (∀ u, Below w.heap.size w u → Calls Tryz.prog 18 #[.slice a2 p.body.length c2] u (ListRet p.body u)) := fun u h => toStringS_any a2 p.body.length c2 p.body u (hbd.below h) (by have := hpf.2.2.1; omega)
  have HK : Hid (∀ u, Below w.heap.size w u → Calls Tryz.prog 33 #[.slice a3 p.kids.length c3] u (KsRet f p.kids p.kids.length u)) := fun u h => toPartS_of f IH a3 p.kids.length c3 p.kids u (hks.below h) rfl hpf.2.2.2.2
  have HPF := Lib.hid hpf
  clear hf hfc hbd hbc hbn hkc hpf hks hff hr
  unfold FldsRet at HF
  unfold ListRet at HB
  unfold KsRet at HK
  generalize hn3 : p.kids.length = n3 at *
  generalize hn2 : p.body.length = n2 at *
  generalize hn1 : p.fields.length = n1 at *
  have HN1 := Lib.hid hn1
  have HN2 := Lib.hid hn2
  have HN3 := Lib.hid hn3
  clear hn1 hn2 hn3
  go_enter Tryz.func9, Tryz.ntmps9
  go_wp2_with fail
  generalize ((w.alloc (.cells #[.slice a1 n1 c1, .slice a2 n2 c2, .slice a3 n3 c3] 26)).alloc (.cells #[.slice none 0 0, .slice none 0 0, .slice none 0 0] 33)).alloc (.cells #[.slice none 0 0, .slice none 0 0, .slice none 0 0] 33) = W at *
  have hWl : w.heap.size + 1 + 1 < W.heap.size := lt_of_cell HZ.out.1.1
  refine (HF.out _ hA).mono ?_
  rintro e w1 ⟨b1, d1, rfl, ho1, hr1, hc1, hb1⟩
  have L1 : Hid (lo W.heap.size b1) := lo_of_own (fun g hg => (OwnR.lt ho1 g hg).1)
  have S1 : Hid (StrRow W.heap.size w1.heap.size w1 b1 (2 * n1)) := strRow_ownF ho1 HN1.out
  have HR1 := Lib.hid hr1
  have HX1 := Lib.hid (HX.out.below hb1)
  have HY1 := Lib.hid (HY.out.below hb1)
  have HZ1 := Lib.hid (HZ.out.below hb1)
  have hb01 := nx hA hb1
  clear ho1 hr1
  obtain ⟨⟨y0, y1, y2⟩, yf⟩ := HZ1.out
  have g0 := yf 0
  have g1 := yf 1
  have g2 := yf 2
  clear yf
  go_upto_region 3 with fail
  have HR2 : Hid (RdF (w1.setCell ⟨w.heap.size + 1 + 1, 0, none⟩ (.slice b1 n1 d1)) b1 n1 p.fields) := rdF_only HR1.out ((Only.refl (some (w.heap.size + 1 + 1)) w1).setCell _) (L1.out.mono hWl)
  have HX2 : Hid (KK3 (w1.setCell ⟨w.heap.size + 1 + 1, 0, none⟩ (.slice b1 n1 d1)) w.heap.size (.slice a1 n1 c1) (.slice a2 n2 c2) (.slice a3 n3 c3)) := kk3_only HX1.out ((Only.refl (some (w.heap.size + 1 + 1)) w1).setCell _) (fun e => by injection e with e; omega)
  have HY2 := Lib.hid (HY1.out.off (h := w.heap.size + 1 + 1) (i := 0) (by omega) (.slice b1 n1 d1))
  have HZ2 := Lib.hid (HZ1.out.set0 (.slice b1 n1 d1))
  have hb2 : Below w.heap.size w (w1.setCell ⟨w.heap.size + 1 + 1, 0, none⟩ (.slice b1 n1 d1)) := hb01.setCell (by simp; omega) _
  have hs2 : W.heap.size ≤ (w1.setCell ⟨w.heap.size + 1 + 1, 0, none⟩ (.slice b1 n1 d1)).heap.size := by have := hb1.size; simpa using this
  have S2 : Hid (Soft W.heap.size w1 (w1.setCell ⟨w.heap.size + 1 + 1, 0, none⟩ (.slice b1 n1 d1))) := Soft.low hWl _
  clear y0 y1 y2 g0 g1 g2
  generalize w1.setCell ⟨w.heap.size + 1 + 1, 0, none⟩ (.slice b1 n1 d1) = w2 at *
  obtain ⟨x0, x1, x2⟩ := HX2.out
  go_wp2_with fail
  refine (HB.out _ hb2).mono ?_
  rintro e w3 ⟨b2, d2, rfl, ho3, hr3, hb3⟩
  have L2 : Hid (lo W.heap.size b2) := lo_of_own (fun g hg => Nat.le_trans hs2 (ho3.lt g hg).1)
  have S3 : Hid (StrRow W.heap.size w3.heap.size w3 b2 n2) := strRow_ownL (ho3.base hs2) HN2.out
  have S23 : Hid (Soft W.heap.size w2 w3) := Soft.below hb3
  have HAC : Hid (n2 ≤ d2 ∧ (b2 = none → d2 = 0)) := by
    obtain ⟨_, _, e, _, _, h4, h5⟩ := ho3.readc
    injection e with e1 e2 e3
    subst e1 e3
    exact ⟨by omega, h4⟩
  have HR3 := Lib.hid (HR2.out.below hb3)
  have HB3 := Lib.hid hr3
  have HX3 := Lib.hid (HX2.out.below hb3)
  have HY3 := Lib.hid (HY2.out.below hb3)
  have HZ3 := Lib.hid (HZ2.out.below hb3)
  have hb03 := nx hb2 hb3
  have hs3 := Nat.le_trans hs2 hb3.size
  clear ho3 hr3 x0 x1 x2
  obtain ⟨⟨y0, y1, y2⟩, yf⟩ := HZ3.out
  have g0 := yf 0
  have g1 := yf 1
  have g2 := yf 2
  clear yf
  go_upto_region 4 with fail
  have T4 : Only (some (w.heap.size + 1 + 1)) w3 (w3.setCell ⟨w.heap.size + 1 + 1, 1, none⟩ (.slice b2 n2 d2)) := (Only.refl _ w3).setCell _
  have HR4 := Lib.hid (rdF_only HR3.out T4 (L1.out.mono hWl))
  have HB4 := Lib.hid (rdL_only HB3.out T4 (L2.out.mono hWl))
  have HX4 := Lib.hid (kk3_only HX3.out T4 (fun e => by injection e with e; omega))
  have HY4 := Lib.hid (HY3.out.off (h := w.heap.size + 1 + 1) (i := 1) (by omega) (.slice b2 n2 d2))
  have HZ4 := Lib.hid (HZ3.out.set1 (.slice b2 n2 d2))
  have hb4 : Below w.heap.size w (w3.setCell ⟨w.heap.size + 1 + 1, 1, none⟩ (.slice b2 n2 d2)) := hb03.setCell (by simp; omega) _
  have hs4 : W.heap.size ≤ (w3.setCell ⟨w.heap.size + 1 + 1, 1, none⟩ (.slice b2 n2 d2)).heap.size := by simpa using hs3
  have S34 : Hid (Soft W.heap.size w3 (w3.setCell ⟨w.heap.size + 1 + 1, 1, none⟩ (.slice b2 n2 d2))) := Soft.low hWl _
  clear y0 y1 y2 g0 g1 g2 T4
  generalize w3.setCell ⟨w.heap.size + 1 + 1, 1, none⟩ (.slice b2 n2 d2) = w4 at *
  obtain ⟨x0, x1, x2⟩ := HX4.out
  go_wp2_with fail
  refine (HK.out _ hb4).mono ?_
  rintro e w5 ⟨b3, rfl, hk5, hsk5, hb5⟩
  have S5 := Lib.hid hsk5
  have S45 : Hid (Soft W.heap.size w4 w5) := Soft.below hb5
  clear hsk5
  have HK5 := Lib.hid hk5
  have HR5 := Lib.hid (HR4.out.below hb5)
  have HB5 := Lib.hid (HB4.out.below hb5)
  have HY5 := Lib.hid (HY4.out.below hb5)
  have HZ5 := Lib.hid (HZ4.out.below hb5)
  have hb05 := nx hb4 hb5
  have hs5 := Nat.le_trans hs4 hb5.size
  clear hk5 x0 x1 x2
  obtain ⟨⟨y0, y1, y2⟩, yf⟩ := HZ5.out
  have g0 := yf 0
  have g1 := yf 1
  have g2 := yf 2
  clear yf
  go_upto_region 5 with fail
  have T6 : Only (some (w.heap.size + 1 + 1)) w5 (w5.setCell ⟨w.heap.size + 1 + 1, 2, none⟩ (.slice b3 n3 n3)) := (Only.refl _ w5).setCell _
  have HR6 := Lib.hid (rdF_only HR5.out T6 (L1.out.mono hWl))
  have HB6 := Lib.hid (rdL_only HB5.out T6 (L2.out.mono hWl))
  have HK6 : Hid (RdGs 1048576 (w.heap.size + 1 + 1 + 1) (w5.setCell ⟨w.heap.size + 1 + 1, 2, none⟩ (.slice b3 n3 n3)) f b3 p.kids) := RdGs.only T6 (by omega) (RdGs.base (by omega) HK5.out)
  have HY6 := Lib.hid (HY5.out.off (h := w.heap.size + 1 + 1) (i := 2) (by omega) (.slice b3 n3 n3))
  have HZ6 := Lib.hid (HZ5.out.set2 (.slice b3 n3 n3))
  have hb6 : Below w.heap.size w (w5.setCell ⟨w.heap.size + 1 + 1, 2, none⟩ (.slice b3 n3 n3)) := hb05.setCell (by simp; omega) _
  have S56 : Hid (Soft W.heap.size w5 (w5.setCell ⟨w.heap.size + 1 + 1, 2, none⟩ (.slice b3 n3 n3))) := Soft.low hWl _
  clear y0 y1 y2 g0 g1 g2 T6
  generalize w5.setCell ⟨w.heap.size + 1 + 1, 2, none⟩ (.slice b3 n3 n3) = w6 at *
  obtain ⟨⟨y0, y1, y2⟩, yf⟩ := HZ6.out
  obtain ⟨⟨x0, x1, x2⟩, xf⟩ := HY6.out
  have g0 := xf 0
  have g1 := xf 1
  have g2 := xf 2
  clear xf yf
  go_wp2
  have T7 : Only (some (w.heap.size + 1)) w6 (((w6.setCell ⟨w.heap.size + 1, 0, none⟩ (.slice b1 n1 d1)).setCell ⟨w.heap.size + 1, 1, none⟩ (.slice b2 n2 d2)).setCell ⟨w.heap.size + 1, 2, none⟩ (.slice b3 n3 n3)) := (((Only.refl _ w6).setCell _).setCell _).setCell _
  have S67 : Soft W.heap.size w6 (((w6.setCell ⟨w.heap.size + 1, 0, none⟩ (.slice b1 n1 d1)).setCell ⟨w.heap.size + 1, 1, none⟩ (.slice b2 n2 d2)).setCell ⟨w.heap.size + 1, 2, none⟩ (.slice b3 n3 n3)) := ((Soft.low (by omega) _).trans (Soft.low (by omega) _)).trans (Soft.low (by omega) _)
  have S57 := S56.out.trans S67
  have S37 := (S34.out.trans S45.out).trans S57
  have S17 := (S2.out.trans S23.out).trans S37
  refine bodyPost_ret (v := .agg #[.slice b1 n1 d1, .slice b2 n2 d2, .slice b3 n3 n3]) (by simp [results, Tryz.results9, go_sem, x0, x1, x2]) rfl ?_
  have e1 := HN1.out
  have e2 := HN2.out
  have e3 := HN3.out
  refine ⟨_, rfl, ?_, ?_, ((hb6.setCell (by simp) _).setCell (by simp) _).setCell (by simp) _⟩
  · subst e1 e2 e3
    exact RdG.mk ⟨rdF_only HR6.out T7 (L1.out.mono (by omega)), hc1, L1.out.mono (by omega)⟩ ⟨rdL_only HB6.out T7 (L2.out.mono (by omega)), HAC.out.1, HAC.out.2, L2.out.mono (by omega)⟩ (Nat.le_refl _) HPF.out (RdGs.base (by omega) (RdGs.only T7 (by omega) HK6.out))
  · subst e1 e2 e3
    exact ShT.mk ((S1.out.soft S17).wide (by omega) (by have := S17.size; simpa using this)) ((S3.out.soft S37).wide (by omega) (by have := S37.size; simpa using this)) (ShT.wideK (by omega) (by have := S57.size; simpa using this) (S5.out.soft (S57.mono hs4)))
theorem to_all : ∀ f, ToAt f
  | 0 => fun _ _ _ h => h.elim
  | f + 1 => to_step f (to_all f)
end Go.Proofs.YtcdmjckkencgoaaGreatDoor
end

section
namespace Go.Proofs.YtcdmjckkencgoaaGreatDoor
open Go.ChangeShapes Go.WideShapes Go.ChangeAt Go.RowKit
open Go.ChangeMaps (open_string shut_string)
open Go.ChangeShapes Go.WideShapes Go.RowKit Go.Deep

theorem cells3n {H : Type} {enc : TypeId × Value → H} {P : Program} {W : World} {base : Nat} {spare : Nat → Bool} {held : Bool} {T : TypeId} {f0 f1 f2 : Field} {f : Nat} {cs : List Value} {x : DataW H × List MemPlace} (hs : P.underlying T = some (.struct #[f0, f1, f2])) (hone : oneCellFields P #[f0, f1, f2] = true)
    (h : DataW.trod enc P W base spare held f T cs = some x) (hl : cs.length = 3) :
    ∃ c0 c1 c2 y0 y1 y2 n, f = n + 1 ∧ cs = [c0, c1, c2] ∧ DataW.trod enc P W base spare held n f0.type [c0] = some y0 ∧ DataW.trod enc P W base spare held n f1.type [c1] = some y1 ∧ DataW.trod enc P W base spare held n f2.type [c2] = some y2 := by
  obtain ⟨ys, n', hn', hy, hlen, hyl, hf⟩ := DataW.trod_struct hs h
  match cs, hl with
  | [c0, c1, c2], _ =>
    have g0 := hf 0 f0 rfl
    have g1 := hf 1 f1 rfl
    have g2 := hf 2 f2 rfl
    obtain ⟨o0, k0⟩ := hone_of hone 0 f0 rfl
    obtain ⟨o1, k1⟩ := hone_of hone 1 f1 rfl
    obtain ⟨o2, k2⟩ := hone_of hone 2 f2 rfl
    rw [o0, k0] at g0
    rw [o1, k1] at g1
    rw [o2, k2] at g2
    match ys, hyl with
    | [y0, y1, y2], _ => exact ⟨c0, c1, c2, y0, y1, y2, n', hn', rfl, g0, g1, g2⟩
theorem addr_noneP (b o j : Nat) : (⟨b, o, none⟩ : Addr).add j = ⟨b, o + j, none⟩ := by unfold Addr.add; split <;> simp_all
theorem flds_slice {H : Type} {enc : TypeId × Value → H} {W : World} {m : Nat} {c : Value} {y : DataW H × List MemPlace} (h : DataW.trod enc Tryz.prog W 0 (fun _ => true) true m 22 [c] = some y) :
    ∃ (a : Option Addr) (n k : Nat) (xs : List Fld), c = .slice a n k ∧ RdF W a n xs ∧ n ≤ maxLen ∧ (∀ x ∈ xs, SmallF maxLen x) ∧ n ≤ k := by
  obtain ⟨d, p⟩ := y
  rcases DataW.trod_slice Tryz.underlying22 h with ⟨e, _⟩ | ⟨g, len, cap, _, _, _, _, e, _, _, hlc, _⟩
  · injection e with e _
    subst e
    exact ⟨none, 0, 0, [], rfl, ⟨rfl, .inl rfl⟩, Nat.zero_le _, (fun x hx => by cases hx), Nat.le_refl _⟩
  · injection e with e _
    subst e
    obtain ⟨xs, h1, h2, h3⟩ := flds_of_trod (a := some g) (n := len) (c := cap) (d := d) (p := p) ⟨_, h⟩
    exact ⟨some g, len, cap, xs, rfl, h1, h2, h3, hlc⟩
theorem strs_slice {H : Type} {enc : TypeId × Value → H} {W : World} {m : Nat} {c : Value} {y : DataW H × List MemPlace} (h : DataW.trod enc Tryz.prog W 0 (fun _ => true) true m 23 [c] = some y) :
    ∃ (a : Option Addr) (n k : Nat) (xs : List (List UInt8)), c = .slice a n k ∧ RdL W a n xs ∧ n ≤ maxLen ∧ (∀ x ∈ xs, x.length ≤ maxLen) ∧ n ≤ k ∧ (a = none → k = 0) := by
  obtain ⟨d, p⟩ := y
  rcases DataW.trod_slice Tryz.underlying23 h with ⟨e, _⟩ | ⟨g, len, cap, _, _, _, _, e, _, _, hlc, _⟩
  · injection e with e _
    subst e
    exact ⟨none, 0, 0, [], rfl, ⟨rfl, .inl rfl⟩, Nat.zero_le _, (fun x hx => by cases hx), Nat.le_refl _, fun _ => rfl⟩
  · injection e with e _
    subst e
    obtain ⟨xs, h1, h2, h3⟩ := strs_of_trod Tryz.underlying23 Tryz.underlying9 (by kernel_rfl) (a := some g) (n := len) (c := cap) (d := d) (p := p) ⟨_, h⟩
    exact ⟨some g, len, cap, xs, rfl, h1, h2, (fun x hx => by obtain ⟨i, hi, rfl⟩ := List.getElem_of_mem hx; exact h3 i hi), hlc, fun e => by cases e⟩
set_option maxRecDepth 100000 in
theorem kids_slice {H : Type} {enc : TypeId × Value → H} {W : World} {M m : Nat} {c : Value} {y : DataW H × List MemPlace} (hm : m ≤ M + 1)
    (IH : ∀ m', m' ≤ M → ∀ (cs : List Value) (x : DataW H × List MemPlace), cs.length = 3 → DataW.trod enc Tryz.prog W 0 (fun _ => true) true m' 26 cs = some x → ∃ (v0 v1 v2 : Value) (p : Prt), cs = [v0, v1, v2] ∧ RdG maxLen 0 W M (.agg #[v0, v1, v2]) p)
    (h : DataW.trod enc Tryz.prog W 0 (fun _ => true) true m 24 [c] = some y) :
    ∃ (a : Option Addr) (n k : Nat) (ks : List Prt), c = .slice a n k ∧ ks.length = n ∧ n ≤ maxLen ∧ n ≤ k ∧ RdGs maxLen 0 W M a ks := by
  have hC : Tryz.prog.cellsOf 26 = 3 := by kernel_rfl
  rcases DataW.trod_slice Tryz.underlying24 h with ⟨e, _⟩ | ⟨g, len, cap, elems, rest, n, hn, e, _, _, hlc, hcm, hel, hi, _⟩
  · injection e with e _
    subst e
    exact ⟨none, 0, 0, [], rfl, rfl, Nat.zero_le _, Nat.le_refl _, .inl rfl⟩
  · injection e with e _
    subst e
    have hq : ∀ i, i < len → ∃ (p : Prt) (v0 v1 v2 : Value), W.cell? (g.add (i * 3)) = some v0 ∧ W.cell? (g.add (i * 3 + 1)) = some v1 ∧ W.cell? (g.add (i * 3 + 2)) = some v2 ∧ RdG maxLen 0 W M (.agg #[v0, v1, v2]) p := by
      intro i hil
      have := hi i hil
      rw [List.getElem?_eq_getElem (by omega)] at this
      obtain ⟨cs, hc, ht⟩ := Option.bind_eq_some_iff.1 this
      rw [hC] at hc
      obtain ⟨_, hcl, hat⟩ := World.cells?_some hc
      obtain ⟨v0, v1, v2, p, rfl, hp⟩ := IH n (by omega) cs _ hcl ht
      have a0 := hat 0 (by omega)
      have a1 := hat 1 (by omega)
      have a2 := hat 2 (by omega)
      rw [Go.Deep.add_add] at a0 a1 a2
      exact ⟨p, v0, v1, v2, a0, a1, a2, hp⟩
    obtain ⟨b, off, spot⟩ := g
    refine ⟨_, len, cap, (List.range len).map (fun i => if h : i < len then Classical.choose (hq i h) else prt0), rfl, by simp, by omega, hlc, ?_⟩
    by_cases h0 : len = 0
    · exact .inl (by simp [h0])
    · obtain ⟨_, _, _, _, c0, _⟩ := hq 0 (by omega)
      have hspot : spot = none := by simpa [Addr.add] using World.cell?_spot c0
      subst hspot
      rw [addr_noneP] at c0
      refine .inr ⟨b, off, rfl, Nat.zero_le _, lt_of_cell c0, fun i hi' => ?_⟩
      have hil : i < len := by simpa using hi'
      obtain ⟨v0, v1, v2, a0, a1, a2, hp⟩ := Classical.choose_spec (hq i hil)
      rw [addr_noneP] at a0 a1 a2
      refine ⟨v0, v1, v2, a0, by rw [Nat.add_assoc]; exact a1, by rw [Nat.add_assoc]; exact a2, ?_⟩
      rw [List.getElem_map, List.getElem_range, dif_pos hil]
      exact hp
set_option maxRecDepth 100000 in
theorem part_cells {H : Type} {enc : TypeId × Value → H} {W : World} : ∀ (M m : Nat), m ≤ M → ∀ (cs : List Value) (x : DataW H × List MemPlace), cs.length = 3 → DataW.trod enc Tryz.prog W 0 (fun _ => true) true m 26 cs = some x →
    ∃ (v0 v1 v2 : Value) (p : Prt), cs = [v0, v1, v2] ∧ RdG maxLen 0 W M (.agg #[v0, v1, v2]) p
  | 0, m, hm, cs, x, hl, h => by
    obtain ⟨c0, c1, c2, y0, y1, y2, n, hn, _⟩ := cells3n Tryz.underlying26 (by kernel_rfl) h hl
    omega
  | M + 1, m, hm, cs, x, hl, h => by
    obtain ⟨c0, c1, c2, y0, y1, y2, n, hn, rfl, g0, g1, g2⟩ := cells3n Tryz.underlying26 (by kernel_rfl) h hl
    obtain ⟨a1, n1, k1, fs, rfl, r1, s1, t1, u1⟩ := flds_slice g0
    obtain ⟨a2, n2, k2, bs, rfl, r2, s2, t2, u2, w2⟩ := strs_slice g1
    obtain ⟨a3, n3, k3, ks, rfl, r3, s3, t3, u3⟩ := kids_slice (M := M) (m := n) (by omega) (part_cells M) g2
    obtain rfl := r1.1
    obtain rfl := r2.1
    subst r3
    exact ⟨_, _, _, .mk fs bs ks, rfl, RdG.mk (p := .mk fs bs ks) ⟨r1, u1, lo_zero _⟩ ⟨r2, u2, w2, lo_zero _⟩ t3 ⟨s1, t1, s2, t2, s3⟩ u3⟩
set_option maxRecDepth 100000 in
theorem open_prt {H : Type} {enc : TypeId × Value → H} {W : World} {r : Reach} {b0 : Nat} {v : Value} {d : DataW H} {p : List MemPlace} (hv : Value.okWide Tryz.prog W r b0 26 v)
    (h : DataW.Trod enc Tryz.prog W 0 (fun _ => true) true 26 v d p) : ∃ (f : Nat) (t : Prt), RdG maxLen 0 W f v t := by
  obtain ⟨v0, v1, v2, y0, y1, y2, q, rfl, rfl, rfl, t0, t1, t2⟩ := Joins.open_agg3 Tryz.underlying26 (by kernel_rfl) (by kernel_rfl) hv h
  obtain ⟨a1, n1, k1, fs, rfl, r1, s1, t1', u1⟩ := flds_slice t0
  obtain ⟨a2, n2, k2, bs, rfl, r2, s2, t2', u2, w2⟩ := strs_slice t1
  obtain ⟨a3, n3, k3, ks, rfl, r3, s3, t3, u3⟩ := kids_slice (M := q) (m := q) (by omega) (part_cells q) t2
  obtain rfl := r1.1
  obtain rfl := r2.1
  subst r3
  exact ⟨q + 1, .mk fs bs ks, RdG.mk (p := .mk fs bs ks) ⟨r1, u1, lo_zero _⟩ ⟨r2, u2, w2, lo_zero _⟩ t3 ⟨s1, t1', s2, t2', s3⟩ u3⟩
end Go.Proofs.YtcdmjckkencgoaaGreatDoor
end

section
namespace Go.Proofs.YtcdmjckkencgoaaGreatDoor
open Go.RowKit

theorem bndF_bnd {fs : List Fld} {b : List UInt8} (h : bndF fs = some b) : isBnd b = true := by
  unfold bndF bndOf at h
  split at h
  · rename_i hc; injection h with h; subst h; exact hc.2.2
  · cases h
/-- What stands behind the fields. -/
def restO (d : Nat) (p : Prt) : Option (List (List UInt8)) := match bndF p.fields with
  | none => if okBody p.body = true ∧ p.kids = [] then some p.body else none
  | some b => if p.body = [] ∧ p.kids.length ≤ 4 then (mapO (linesT d) p.kids).bind fun ps => joinP ps b else none
theorem linesT_rest (d : Nat) (p : Prt) : linesT (d + 1) p = if fldsOk p.fields then (restO d p).map fun r => foldFs p.fields ++ [] :: r else none := rfl
def kidsO (d : Nat) (ks : List Prt) (b : List UInt8) : Option (List (List UInt8)) := if ks.length ≤ 4 then (mapO (linesT d) ks).bind fun ps => joinP ps b else none
theorem restO_leaf {d : Nat} {p : Prt} (h : bndF p.fields = none) : restO d p = if okBody p.body = true ∧ p.kids = [] then some p.body else none := by unfold restO; rw [h]
theorem restO_many {d : Nat} {p : Prt} {b : List UInt8} (h : bndF p.fields = some b) : restO d p = if p.body = [] then kidsO d p.kids b else none := by
  unfold restO kidsO
  rw [h]
  show (if p.body = [] ∧ p.kids.length ≤ 4 then (mapO (linesT d) p.kids).bind fun ps => joinP ps b else none) = _
  by_cases h1 : p.body = []
  · by_cases h2 : p.kids.length ≤ 4
    · rw [if_pos ⟨h1, h2⟩, if_pos h1, if_pos h2]
    · rw [if_neg (fun c => h2 c.2), if_pos h1, if_neg h2]
  · rw [if_neg (fun c => h1 c.1), if_neg h1]
theorem kidsO_long {d : Nat} {ks : List Prt} {b : List UInt8} (h : 4 < ks.length) : kidsO d ks b = none := by unfold kidsO; rw [if_neg (by omega)]
theorem kidsO_bad {d i : Nat} {ks : List Prt} {b : List UInt8} (h : i < ks.length) (hk : linesT d ks[i] = none) : kidsO d ks b = none := by
  unfold kidsO
  rw [mapO_none h hk]
  split <;> rfl
theorem kidsO_all {d : Nat} {ks : List Prt} {b : List UInt8} {ps : List (List (List UInt8))} (h : ks.length ≤ 4) (hm : mapO (linesT d) ks = some ps) : kidsO d ks b = joinP ps b := by
  unfold kidsO; rw [if_pos h, hm]; rfl
theorem kidsO_looks {d i : Nat} {ks : List Prt} {b : List UInt8} {ls : List (List UInt8)} (h : i < ks.length) (hk : linesT d ks[i] = some ls) (hf : freeB b ls = false) : kidsO d ks b = none := by
  unfold kidsO
  split
  · cases hm : mapO (linesT d) ks with
    | none => rfl
    | some ps =>
      obtain ⟨g1, g2⟩ := mapO_some hm
      have hi : i < ps.length := by omega
      have := g2 i h hi
      rw [hk] at this
      injection this with this
      exact joinP_bad (okParts_bad hi (by rw [← this]; exact hf))
  · rfl
/-- Kids that are valid, none of whose lines is a mark. -/
def kidGood (d : Nat) (b : List UInt8) (q : Prt) : Prop := ∃ ls, linesT d q = some ls ∧ freeB b ls = true
theorem mapO_isSome {α β : Type} {f : α → Option β} : ∀ {xs : List α}, (∀ i, (h : i < xs.length) → (f xs[i]).isSome = true) → (mapO f xs).isSome = true
  | [], _ => rfl
  | x :: xs, h => by
    rw [mapO_cons]
    have h0 : (f x).isSome = true := h 0 (by simp)
    obtain ⟨y, hy⟩ := Option.isSome_iff_exists.1 h0
    obtain ⟨ys, hys⟩ := Option.isSome_iff_exists.1 (mapO_isSome (f := f) (xs := xs) (fun i hi => h (i + 1) (by simpa using hi)))
    rw [hy, hys]; rfl
theorem kidsO_good {d : Nat} {ks : List Prt} {b : List UInt8} (hb : isBnd b = true) (h0 : ks ≠ []) (h4 : ks.length ≤ 4) (h : ∀ i, (hi : i < ks.length) → kidGood d b ks[i]) : (kidsO d ks b).isSome = true := by
  have hs : (mapO (linesT d) ks).isSome = true := mapO_isSome fun i hi => by
    obtain ⟨ls, h1, _⟩ := h i hi; rw [h1]; rfl
  obtain ⟨ps, hm⟩ := Option.isSome_iff_exists.1 hs
  obtain ⟨g1, g2⟩ := mapO_some hm
  rw [kidsO_all h4 hm, joinP_yes hb]
  · rfl
  · intro e
    rw [e] at g1
    exact h0 (List.length_eq_zero_iff.1 (by simpa using g1.symm))
  · exact okParts_good fun k hk => by
      obtain ⟨ls, h1, h2⟩ := h k (by omega)
      have := g2 k (by omega) hk
      rw [h1] at this
      injection this with this
      rw [← this]; exact h2
theorem kidsO_nil {d : Nat} {b : List UInt8} : kidsO d [] b = none := by
  unfold kidsO
  show (if 0 ≤ 4 then (some []).bind fun ps => joinP ps b else none) = none
  rw [if_pos (by omega)]; exact joinP_nil b
/-! Bounds. -/
theorem okBody_iff {b : List (List UInt8)} : okBody b = true ↔ (∀ x ∈ b, isText x = true) ∧ b.length ≤ 30 := by unfold okBody; simp
theorem okBody_bad {b : List (List UInt8)} {k : Nat} (h : k < b.length) (hx : isText b[k] = false) : okBody b = false := by
  cases hq : okBody b with
  | false => rfl
  | true => have := (okBody_iff.1 hq).1 _ (List.getElem_mem h); rw [hx] at this; cases this
theorem okBody_long {b : List (List UInt8)} (h : 30 < b.length) : okBody b = false := by
  cases hq : okBody b with
  | false => rfl
  | true => have := (okBody_iff.1 hq).2; omega
theorem okBody_good {b : List (List UInt8)} (h : ∀ k, (hk : k < b.length) → isText b[k] = true) (hl : b.length ≤ 30) : okBody b = true :=
  okBody_iff.2 ⟨fun x hx => by obtain ⟨i, hi, rfl⟩ := List.getElem_of_mem hx; exact h i hi, hl⟩
theorem sumP_le {M : Nat} : ∀ {ps : List (List (List UInt8))}, (∀ p ∈ ps, p.length ≤ M) → sumP ps ≤ ps.length * (M + 1)
  | [], _ => by simp [sumP]
  | p :: ps, h => by
    have h1 := h p (by simp)
    have h2 := sumP_le (M := M) (ps := ps) (fun q hq => h q (by simp [hq]))
    rw [sumP_cons, List.length_cons, Nat.add_mul]; omega
theorem foldFs_small2 (xs : List Fld) : (foldFs xs).length ≤ 183 * xs.length ∧ ∀ p ∈ foldFs xs, p.length ≤ 182 := by
  have key : ∀ ys : List Fld, (ys.flatMap foldF).length ≤ 183 * ys.length ∧ ∀ p ∈ ys.flatMap foldF, p.length ≤ 182 := by
    intro ys
    induction ys with
    | nil => simp
    | cons y ys ih =>
      have hl := foldF_len y
      refine ⟨by rw [List.flatMap_cons, List.length_append, List.length_cons]; omega, fun p hp => ?_⟩
      rw [List.flatMap_cons] at hp
      rcases List.mem_append.1 hp with h | h
      · exact hl.2 p h
      · exact ih.2 p h
  unfold foldFs
  split
  · rename_i h
    rw [← foldAll_map (fldsOk_iff.1 h).1]; exact key xs
  · simp
theorem foldFs_len {fs : List Fld} (h : fldsOk fs = true) : (foldFs fs).length ≤ 3660 := by
  have h1 := (foldFs_small2 fs).1
  have h2 := (fldsOk_iff.1 h).2
  omega
theorem linesT_len : ∀ (d : Nat) (p : Prt) (ls : List (List UInt8)), linesT d p = some ls → ls.length ≤ 5 ^ d * 4000
  | 0, _, _, h => by cases h
  | d + 1, p, ls, h => by
    obtain ⟨hf, r, rfl, hr⟩ := linesT_some h
    have h1 := foldFs_len hf
    have h5 : 1 ≤ 5 ^ d := Nat.one_le_pow _ _ (by omega)
    rw [List.length_append, List.length_cons, Nat.pow_succ]
    rcases hr with ⟨_, h2, _, rfl⟩ | ⟨b, ps, _, _, h4, hm, hj⟩
    · have := (okBody_iff.1 h2).2; omega
    · obtain ⟨_, _, _, rfl⟩ := joinP_some hj
      obtain ⟨g1, g2⟩ := mapO_some hm
      have hs := sumP_le (M := 5 ^ d * 4000) (ps := ps) (fun q hq => by
        obtain ⟨i, hi, rfl⟩ := List.getElem_of_mem hq
        exact linesT_len d _ _ (g2 i (by omega) hi))
      rw [joinsP_sum]
      have h6 : ps.length * (5 ^ d * 4000 + 1) ≤ 4 * (5 ^ d * 4000 + 1) := Nat.mul_le_mul_right _ (by omega)
      omega
theorem mapO_sum {d : Nat} {ks : List Prt} {ps : List (List (List UInt8))} (hd : d ≤ 3) (h4 : ks.length ≤ 4) (hm : mapO (linesT d) ks = some ps) : sumP ps ≤ 3000000 := by
  obtain ⟨g1, g2⟩ := mapO_some hm
  have h5 : 5 ^ d ≤ 125 := Nat.pow_le_pow_right (n := 5) (by omega) hd
  have hs := sumP_le (M := 500000) (ps := ps) (fun q hq => by
    obtain ⟨i, hi, rfl⟩ := List.getElem_of_mem hq
    have := linesT_len d _ _ (g2 i (by omega) hi); omega)
  have : ps.length * (500000 + 1) ≤ 4 * (500000 + 1) := Nat.mul_le_mul_right _ (by omega)
  omega
end Go.Proofs.YtcdmjckkencgoaaGreatDoor
end

section
namespace Go.Proofs.YtcdmjckkencgoaaGreatDoor
open Go.RowKit

/-- One field appended to a row of the call's own, as an operation. -/
theorem wp_append_F {o : Oper} {Q : Exit → Act → World → Prop} {K : Act → World → Prop} {a : Act} {w : World} (s x : Operand)
    (ho : o.op = .call { callee := .builtin .append, args := #[s, x], argTypes := #[30, 30] })
    (B : Nat) (v : Value) (xs : List Fld) (f : Fld) (g : Nat) (hs : a.eval s = v) (hx : a.eval x = .slice (some ⟨g, 0, none⟩) 1 1) (hown : OwnF B v xs w)
    (hy0 : w.cell? ⟨g, 0, none⟩ = some (.string (str f.name))) (hy1 : w.cell? ⟨g, 1, none⟩ = some (.string (str f.val))) (hB : B ≤ w.heap.size) (hl : xs.length ≤ 1000000)
    (h : ∀ v' w', OwnF B v' (xs ++ [f]) w' → Below B w w' → K (a.put o.dst v') w') : Oper.wp Tryz.prog o a w K Q := by
  obtain ⟨i0, hi, hz0, hz1, hz2⟩ := info_parts fInfo
  have hown1 := hown
  unfold OwnF OwnR at hown1
  refine wp_append_own w s x 30 ho B 78 i0 (.agg #[.string ⟨#[]⟩, .string ⟨#[]⟩]) 2 32 Tryz.underlying30 hi hz0 hz1 hz2 rfl (by decide) v xs.length (xs.flatMap fldC) hs hown1 ⟨g, 0, none⟩ 1 1 (fldC f) hx rfl ?_ ?_ ?_ ?_ hB ?_
  · intro j u hj
    rw [add0]
    match j, hj with
    | 0, hj => simp [fldC] at hj; subst hj; exact hy0
    | 1, hj => simp [fldC] at hj; subst hj; exact hy1
  · intro u hu; simp [fldC] at hu; rcases hu with rfl | rfl <;> rfl
  · unfold maxLen; omega
  · omega
  · intro v' w' h2 h3 _
    exact h v' w' (OwnR.snoc h2) ((Below.refl _ _).grown h3 hB (fun k hk => (World.ownsRow.lt hown1 k hk).1))
/-- What a cut leaves, and how it stands to the parts. -/
def CutP (s : ByteArray) (c : UInt8) (w : World) (e : Ending) (w' : World) : Prop := ∃ (p r : List UInt8) (more : Bool), e = .returned (.tuple #[.string (str p), .string (str r), .bool more]) ∧ partsU c s.data.toList = restU c more p r ∧ (cutU c s.data.toList = if more then some (p, r) else none) ∧ p.length ≤ s.size ∧ r.length ≤ s.size ∧ (more = true → r.length < s.size) ∧ Below w.heap.size w w'
theorem cutP_of {s : ByteArray} {c : UInt8} {w : World} {e : Ending} {w' : World} (h : CutRetS s c w e w') : CutP s c w e w' := by
  obtain ⟨h1, h2, q, h3⟩ := h
  have hb : Below w.heap.size w w' := by rw [h3]; exact below_drewN (Below.refl _ _) q
  cases hc : cutU c s.data.toList with
  | none =>
    refine ⟨s.data.toList, [], false, ?_, restU_last hc [], by simp [hc], by rw [size_list]; exact Nat.le_refl _, by simp, (fun h => by cases h), hb⟩
    rw [h2 hc, str_of]; rfl
  | some y =>
    obtain ⟨a, d⟩ := y
    have hbd := cutU_bound hc
    rw [size_list] at hbd
    exact ⟨a, d, true, h1 a d hc, restU_cut hc, by simp [hc], by omega, by omega, fun _ => by omega, hb⟩
theorem readPS_cut {l n v : List UInt8} (h : cutU 61 (trimS l) = some (n, v)) : readPS l = match splitW (trimS v) with | some [t] => some ⟨low (trimS n), t⟩ | _ => none := by unfold readPS; rw [h]; rfl
theorem readPS_uncut {l : List UInt8} (h : cutU 61 (trimS l) = none) : readPS l = none := by unfold readPS; rw [h]
theorem okS_cut {h a b : List UInt8} (fs : List Fld) (hc : cutU 47 (trimS h) = some (a, b)) : okS h fs = okK ⟨low a, low b, fs⟩ := by unfold okS headS; rw [hc]; rfl
theorem okS_uncut {h : List UInt8} (fs : List Fld) (hc : cutU 47 (trimS h) = none) : okS h fs = none := by unfold okS headS; rw [hc]; rfl
theorem restU_head {c : UInt8} {m : Bool} {p r : List UInt8} : restU c m p r = p :: (restU c m p r).tail := by cases m <;> rfl
set_option maxRecDepth 100000 in
set_option maxHeartbeats 4000000 in
theorem parseKindS_any (s : ByteArray) (w : World) (hs : s.size ≤ 1073741824) :
    Calls Tryz.prog 84 #[.string s] w (PKRet (parseK s.data.toList) w) := by
  have hb0 : Below w.heap.size w (w.alloc (.cells #[.string ⟨#[]⟩, .string ⟨#[]⟩, .slice none 0 0] 97)) := (Below.refl _ _).alloc (Nat.le_refl _) _
  cases htx : isText s.data.toList
  · have HX := Lib.hid htx
    have HN := Lib.hid (parseK_no htx)
    clear htx
    go_enter Tryz.func84, Tryz.ntmps84
    go_wp2_with fail
    refine (textValidS_any s _ (by unfold maxLen; omega)).mono ?_
    rintro e w1 ⟨rfl, rfl⟩
    rw [HX.out]
    go_wp2
    exact bodyPost_ret (v := .tuple #[.agg #[.string ⟨#[]⟩, .string ⟨#[]⟩, .slice none 0 0], .bool false]) (by simp [results, Tryz.results84, go_sem]) rfl (pkRet_none HN.out hb0)
  · have HX := Lib.hid htx
    have hs2 : s.size ≤ 200 := by have := text_len htx; rw [size_list] at this; exact this
    have HPK := Lib.hid (parseK_textS htx)
    clear htx
    go_enter Tryz.func84, Tryz.ntmps84
    go_wp2_with fail
    refine (textValidS_any s _ (by unfold maxLen; omega)).mono ?_
    rintro e w1 ⟨rfl, rfl⟩
    rw [HX.out]
    go_wp2_with fail
    refine (l2Cut_any s 59 _ (by decide) (by omega)).mono ?_
    intro e w1 hret
    obtain ⟨h, r0, m0, rfl, hpu, _, hpl, hrl, hml, hb1⟩ := cutP_of hret
    have HRS : Hid (∀ fs, mapPS (restU 59 m0 h r0).tail = some fs → parseK s.data.toList = okS h fs) := fun fs hf => by
      rw [HPK.out, readKS_parts (h := h) (ps := (restU 59 m0 h r0).tail) (by rw [hpu]; exact restU_head), hf]; rfl
    have HRN : Hid (mapPS (restU 59 m0 h r0).tail = none → parseK s.data.toList = none) := fun hf => by
      rw [HPK.out, readKS_parts (h := h) (ps := (restU 59 m0 h r0).tail) (by rw [hpu]; exact restU_head), hf]; rfl
    have HST : Hid (goesK (restU 59 m0 h r0).tail [] m0 r0) := goesK_start
    clear hpu hret
    generalize (restU 59 m0 h r0).tail = ps at *
    have hzh : (str h).size ≤ 200 := by rw [str_size]; omega
    have hzr : (str r0).size ≤ 200 := by rw [str_size]; omega
    have htl := trimS_len h
    have hzt : (str (trimS h)).size ≤ 200 := by rw [str_size]; omega
    have HTR : Hid (∀ u : World, Calls Tryz.prog 117 #[.string (str h)] u fun e w' => e = .returned (.string (str (trimS h))) ∧ Below u.heap.size u w') := fun u => by
      have := l2Trim_any (str h) u (by omega)
      rw [str_list] at this
      exact this.mono fun _ _ ⟨h1, h2⟩ => ⟨h1, by rw [← h2]; exact Below.refl _ _⟩
    have HTL : Hid ((str (trimS h)).data.toList = trimS h) := str_list _
    have hb01 := nx hb0 hb1
    have hl1 : w.heap.size < w1.heap.size := by have := hb1.size; simp at this; omega
    have HZ1 : Hid ((∀ i, w1.cell? ⟨w.heap.size, i, none⟩ = #[Value.string ⟨#[]⟩, .string ⟨#[]⟩, .slice none 0 0][i]?) ∧ ∀ i, w1.frozen? ⟨w.heap.size, i, none⟩ = false) := by
      obtain ⟨q1, q2, _⟩ := fresh1 hb1
      exact ⟨q1, q2⟩
    clear htl
    generalize hHS : str h = HS at *
    generalize hTT : str (trimS h) = TT at *
    clear hHS hTT
    go_wp2_with fail
    refine (HTR.out _).mono ?_
    rintro e w2 ⟨rfl, hb2⟩
    go_wp2_with fail
    refine (l2Cut_any TT 47 _ (by decide) (by omega)).mono ?_
    intro e w3 hret
    obtain ⟨ma, su, ok, rfl, _, hcu, hpl2, hrl2, _, hb3⟩ := cutP_of hret
    rw [HTL.out] at hcu
    have HCU := Lib.hid hcu
    clear hret hcu
    have hzm : (str ma).size ≤ 200 := by rw [str_size]; omega
    have hzs : (str su).size ≤ 200 := by rw [str_size]; omega
    have HL1 : Hid (∀ u : World, Calls Tryz.prog 102 #[.string (str ma)] u fun e w' => e = .returned (.string (str (low ma))) ∧ Below u.heap.size u w') := fun u => by
      have := lowerTextS_any (str ma) u (by omega)
      rw [lowS_str] at this; exact this
    have HL2 : Hid (∀ u : World, Calls Tryz.prog 102 #[.string (str su)] u fun e w' => e = .returned (.string (str (low su))) ∧ Below u.heap.size u w') := fun u => by
      have := lowerTextS_any (str su) u (by omega)
      rw [lowS_str] at this; exact this
    have hm1 : (str (low ma)).size ≤ 200 := by rw [str_size, low_len]; omega
    have hm2 : (str (low su)).size ≤ 200 := by rw [str_size, low_len]; omega
    have HM1 : Hid ((str (low ma)).data.toList = low ma ∧ (str (low su)).data.toList = low su) := ⟨str_list _, str_list _⟩
    generalize hMM : str (low ma) = MM at *
    generalize hSS : str (low su) = SS at *
    have HMM := Lib.hid hMM
    have HSS := Lib.hid hSS
    clear hMM hSS
    generalize str ma = m9 at *
    generalize str su = s9 at *
    go_wp2_with fail
    refine (HL1.out _).mono ?_
    rintro e w4 ⟨rfl, hb4⟩
    go_wp2_with fail
    refine (HL2.out _).mono ?_
    rintro e w5 ⟨rfl, hb5⟩
    have hb15 := nx (nx (nx hb2 hb3) hb4) hb5
    have hl5 : w.heap.size < w5.heap.size := Nat.lt_of_lt_of_le hl1 hb15.size
    have hA5 : Below w5.heap.size w5 (w5.alloc (.cells #[.string MM, .string SS, .slice none 0 0] 97)) := (Below.refl _ _).alloc (Nat.le_refl _) _
    go_wp2_with fail
    have hbA0 := nx hb01 (nx hb15 hA5)
    generalize hWK : w5.alloc (.cells #[.string MM, .string SS, .slice none 0 0] 97) = WK at *
    have cK : ∀ i, WK.cell? ⟨w5.heap.size, i, none⟩ = #[Value.string MM, .string SS, .slice none 0 0][i]? := fun i => by
      rw [← hWK, World.cell?_alloc_at _ _ _ _ rfl]
    have fK : ∀ i, WK.frozen? ⟨w5.heap.size, i, none⟩ = false := fun i => by
      rw [← hWK, World.frozen?_alloc_at _ _ _ _ rfl]
    have hlK : w5.heap.size < WK.heap.size := by rw [← hWK]; simp
    obtain ⟨K, hK⟩ : ∃ K, K = w5.heap.size := ⟨_, rfl⟩
    rw [← hK] at cK fK hlK hl5 hA5
    have HCW : Hid (∀ u, Below K WK u → (∀ i, u.cell? ⟨w.heap.size, i, none⟩ = #[Value.string ⟨#[]⟩, .string ⟨#[]⟩, .slice none 0 0][i]?) ∧ (∀ i, u.frozen? ⟨w.heap.size, i, none⟩ = false) ∧ Below w.heap.size w u) := fun u hu => by
      have h4K : Below w1.heap.size w1 WK := nx hb15 (by rw [hK] at hA5; exact hA5)
      refine ⟨fun i => ?_, fun i => ?_, ?_⟩
      · rw [below_at hu hl5, below_at h4K hl1]; exact HZ1.out.1 i
      · rw [below_fz hu hl5, below_fz h4K hl1]; exact HZ1.out.2 i
      · exact hbA0.trans (hu.mono (Nat.le_of_lt hl5))
    rw [← hK]
    have hKw := hl5
    clear hWK hK hb2 hb3 hb4 hb5 hb15 hA5 HZ1 hbA0 hb01 hb1 hb0 hl5
    have HRP := Lib.hid hrl
    have HMI := Lib.hid hml
    clear hml hrl
    go_loopw [5, 6] (fun r m wr => ∃ (rl : List UInt8) (mb : Bool) (acc : List Fld) (a : Option Addr) (d : Nat), r = .string (str rl) ∧ m = .bool mb ∧ rl.length ≤ s.size ∧ (mb = true → acc.length + rl.length + 1 ≤ s.size) ∧ acc.length ≤ s.size ∧ goesK ps acc mb rl ∧ (∀ x ∈ acc, SmallF 200 x) ∧ OwnF (K + 1) (.slice a acc.length d) acc wr ∧ wr.cell? ⟨K, 0, none⟩ = some (.string MM) ∧ wr.cell? ⟨K, 1, none⟩ = some (.string SS) ∧ wr.cell? ⟨K, 2, none⟩ = some (.slice a acc.length d) ∧ wr.frozen? ⟨K, 2, none⟩ = false ∧ Below K WK wr ∧ K < wr.heap.size) (fun r m _ => match m with | .bool true => Lib.strSize r + 1 | _ => 0)
    case atStart => exact ⟨r0, m0, [], none, 0, rfl, rfl, HRP.out, (fun h => by have := HMI.out h; simp; omega), by simp, HST.out, (fun x hx => by cases hx), OwnR.nil _ _ _ _ _, cK 0, cK 1, cK 2, fK 2, Below.refl _ _, hlK⟩
    case round =>
      obtain ⟨rl, mb, acc, a, d, rfl, rfl, hrl, hmb, hal, hg, hsm, hown, k0, k1, k2, kf, hb, hKr⟩ := hrel
      have HG := Lib.hid hg
      have HSM := Lib.hid hsm
      clear hg hsm cK fK
      cases mb
      · have HMP := Lib.hid (goesK_end HG.out)
        have HKK := Lib.hid (HRS.out acc HMP.out)
        have HOWN := Lib.hid hown
        obtain ⟨a0, d0, hv0, hrd, _, hcap⟩ := hown.read fldC_len
        injection hv0 with e1 _ e3
        subst e1 e3
        have HRD := Lib.hid hrd
        have hKV : Hid (∀ u, Below K WK u → RdF u a acc.length acc → Calls Tryz.prog 119 #[.agg #[.string MM, .string SS, .slice a acc.length d]] u fun e w' => e = .returned (.bool (isKnd ⟨low ma, low su, acc⟩)) ∧ Below u.heap.size u w') := fun u _ hr => by
          have := kindValidS_any MM SS a acc.length d acc u (by omega) (by omega) hr hcap (by omega) (fun x hx => (HSM.out x hx).up (by omega))
          rw [HM1.out.1, HM1.out.2] at this; exact this
        obtain ⟨cZ, fZ, hBZ⟩ := HCW.out _ hb
        have hlz : w.heap.size < wr.heap.size := Nat.lt_trans hKw hKr
        have HMK : Hid (MM = str (Knd.mk (low ma) (low su) acc).main ∧ SS = str (Knd.mk (low ma) (low su) acc).sub) := ⟨HMM.out.symm, HSS.out.symm⟩
        clear hown hrd hmb hrl
        cases ok
        · have HN : Hid (parseK s.data.toList = none) := by show _ = _; rw [HKK.out]; exact okS_uncut acc HCU.out
          clear HKK hKV
          go_wp2
          refine bodyPost_ret (v := .tuple #[.agg #[.string ⟨#[]⟩, .string ⟨#[]⟩, .slice none 0 0], .bool false]) (by simp [results, Tryz.results84, go_sem, cZ]) rfl (pkRet_none HN.out ?_)
          exact (((hBZ.setCell (by simp) _).setCell (by simp) _).setCell (by simp) _)
        · have HKL : Hid (parseK s.data.toList = okK ⟨low ma, low su, acc⟩) := by show _ = _; rw [HKK.out]; exact okS_cut acc HCU.out
          clear HKK
          cases hkn : isKnd ⟨low ma, low su, acc⟩
          · have HN : Hid (parseK s.data.toList = none) := by show _ = _; rw [HKL.out]; exact okK_no hkn
            rw [hkn] at hKV
            clear hkn
            go_wp2_with fail
            refine (hKV.out _ hb HRD.out).mono ?_
            rintro e w8 ⟨rfl, hb8⟩
            have cZ8 : ∀ i, w8.cell? ⟨w.heap.size, i, none⟩ = #[Value.string ⟨#[]⟩, .string ⟨#[]⟩, .slice none 0 0][i]? := fun i => (below_at hb8 hlz).trans (cZ i)
            have fZ8 : ∀ i, w8.frozen? ⟨w.heap.size, i, none⟩ = false := fun i => (below_fz hb8 hlz).trans (fZ i)
            clear cZ fZ
            go_wp2
            refine bodyPost_ret (v := .tuple #[.agg #[.string ⟨#[]⟩, .string ⟨#[]⟩, .slice none 0 0], .bool false]) (by simp [results, Tryz.results84, go_sem, cZ8]) rfl (pkRet_none HN.out ?_)
            exact ((((hBZ.trans (hb8.mono (Nat.le_of_lt hlz))).setCell (by simp) _).setCell (by simp) _).setCell (by simp) _)
          · have HN : Hid (parseK s.data.toList = some ⟨low ma, low su, acc⟩) := by show _ = _; rw [HKL.out]; exact okK_yes hkn
            rw [hkn] at hKV
            clear hkn
            go_wp2_with fail
            refine (hKV.out _ hb HRD.out).mono ?_
            rintro e w8 ⟨rfl, hb8⟩
            have cZ8 : ∀ i, w8.cell? ⟨w.heap.size, i, none⟩ = #[Value.string ⟨#[]⟩, .string ⟨#[]⟩, .slice none 0 0][i]? := fun i => (below_at hb8 hlz).trans (cZ i)
            have fZ8 : ∀ i, w8.frozen? ⟨w.heap.size, i, none⟩ = false := fun i => (below_fz hb8 hlz).trans (fZ i)
            have k08 := (below_at hb8 hKr).trans k0
            have k18 := (below_at hb8 hKr).trans k1
            have k28 := (below_at hb8 hKr).trans k2
            have HO8 := Lib.hid (HOWN.out.keep hb8)
            have hlz8 : w.heap.size < w8.heap.size := Nat.lt_of_lt_of_le hlz hb8.size
            clear cZ fZ k0 k1 k2
            go_wp2
            refine bodyPost_ret (v := .tuple #[.agg #[.string MM, .string SS, .slice a acc.length d], .bool true]) (by simp [results, Tryz.results84, go_sem, cZ8]) rfl (pkRet_some HN.out HMK.out.1 HMK.out.2 ?_ ?_)
            · exact OwnR.base (ownF_offG (ownF_offG (ownF_offG HO8.out (by omega) 0 _) (by omega) 1 _) (by omega) 2 _) (by omega)
            · exact ((((hBZ.trans (hb8.mono (Nat.le_of_lt hlz))).setCell (by simp) _).setCell (by simp) _).setCell (by simp) _)
      · have hmb' := hmb rfl
        have hzl : (str rl).size ≤ 200 := by rw [str_size]; omega
        have HRL : Hid ((str rl).data.toList = rl ∧ (str rl).size = rl.length) := ⟨str_list _, str_size _⟩
        have HRZ : Hid (Lib.strSize (.string (str rl)) = (str rl).size) := rfl
        clear hmb
        generalize str rl = RL at *
        go_wp2_with fail
        refine (l2Cut_any RL 59 _ (by decide) (by omega)).mono ?_
        intro e w6 hret
        obtain ⟨pl, r1, m1, rfl, hpu, _, hpl3, hrl3, hml3, hb6⟩ := cutP_of hret
        rw [HRL.out.1] at hpu
        have HPU := Lib.hid hpu
        have hzp : (str pl).size ≤ 200 := by rw [str_size]; omega
        have HPS : Hid (readPS pl = none → parseK s.data.toList = none) := fun h => HRN.out (goesK_bad HG.out HPU.out h)
        have HPN : Hid (∀ f, readPS pl = some f → goesK ps (acc ++ [f]) m1 r1 ∧ SmallF 200 f) := fun f h => ⟨goesK_next HG.out HPU.out h, (readPS_small h).up (by rw [str_size] at hzp; exact hzp)⟩
        have hb06 : Below K WK w6 := hb.trans (hb6.mono (Nat.le_of_lt hKr))
        have hzt6 : (str (trimS pl)).size ≤ 200 := by rw [str_size] at hzp ⊢; have := trimS_len pl; omega
        have HTP : Hid (∀ u : World, Calls Tryz.prog 117 #[.string (str pl)] u fun e w' => e = .returned (.string (str (trimS pl))) ∧ Below u.heap.size u w') := fun u => by
          have := l2Trim_any (str pl) u (by omega)
          rw [str_list] at this
          exact this.mono fun _ _ ⟨h1, h2⟩ => ⟨h1, by rw [← h2]; exact Below.refl _ _⟩
        have HTL6 : Hid ((str (trimS pl)).data.toList = trimS pl) := str_list _
        clear hret hpu
        generalize str pl = PL at *
        generalize str (trimS pl) = TP at *
        go_wp2_with fail
        refine (HTP.out _).mono ?_
        rintro e w7 ⟨rfl, hb7⟩
        go_wp2_with fail
        refine (l2Cut_any TP 61 _ (by decide) (by omega)).mono ?_
        intro e w8 hret
        obtain ⟨na, va, fi, rfl, _, hcu, hpl4, hrl4, _, hb8⟩ := cutP_of hret
        rw [HTL6.out] at hcu
        have HCP := Lib.hid hcu
        clear hret hcu
        have hzn : (str na).size ≤ 200 := by rw [str_size]; omega
        have hzv : (str va).size ≤ 200 := by rw [str_size]; omega
        have HTV : Hid (∀ u : World, Calls Tryz.prog 117 #[.string (str va)] u fun e w' => e = .returned (.string (str (trimS va))) ∧ Below u.heap.size u w') := fun u => by
          have := l2Trim_any (str va) u (by omega)
          rw [str_list] at this
          exact this.mono fun _ _ ⟨h1, h2⟩ => ⟨h1, by rw [← h2]; exact Below.refl _ _⟩
        have hzw : (str (trimS va)).size ≤ 200 := by rw [str_size] at hzv ⊢; have := trimS_len va; omega
        have HWV : Hid (∀ u : World, Calls Tryz.prog 118 #[.string (str (trimS va))] u fun e w' => ∃ v, e = .returned (.tuple #[v, .bool (splitW (trimS va)).isSome]) ∧ OwnL u.heap.size v ((splitW (trimS va)).getD []) w' ∧ Below u.heap.size u w') := fun u => by
          have := l1Words_any (str (trimS va)) u (by omega)
          unfold WordsRet at this
          rw [str_list] at this; exact this
        have HTN : Hid (∀ u : World, Calls Tryz.prog 117 #[.string (str na)] u fun e w' => e = .returned (.string (str (trimS na))) ∧ Below u.heap.size u w') := fun u => by
          have := l2Trim_any (str na) u (by omega)
          rw [str_list] at this
          exact this.mono fun _ _ ⟨h1, h2⟩ => ⟨h1, by rw [← h2]; exact Below.refl _ _⟩
        have HLN : Hid (∀ u : World, Calls Tryz.prog 102 #[.string (str (trimS na))] u fun e w' => e = .returned (.string (str (low (trimS na)))) ∧ Below u.heap.size u w') := fun u => by
          have := lowerTextS_any (str (trimS na)) u (by rw [str_size] at hzn ⊢; have := trimS_len na; omega)
          rw [lowS_str] at this; exact this
        generalize str va = VA at *
        generalize str (trimS va) = VT at *
        go_wp2_with fail
        refine (HTV.out _).mono ?_
        rintro e w9 ⟨rfl, hb9⟩
        go_wp2_with fail
        refine (HWV.out _).mono ?_
        rintro e w10 ⟨v10, rfl, ho10, hb10⟩
        have hbr := nx (nx (nx (nx hb6 hb7) hb8) hb9) hb10
        have hBr : Below K WK w10 := hb.trans (hbr.mono (Nat.le_of_lt hKr))
        obtain ⟨cZ, fZ, hBZ⟩ := HCW.out _ hBr
        have hK10 : K < w10.heap.size := Nat.lt_of_lt_of_le hKr hbr.size
        have hlz : w.heap.size < w10.heap.size := Nat.lt_trans hKw hK10
        obtain ⟨a10, d10, rfl, hr10, hm10⟩ := ho10.read
        have HR10 := Lib.hid hr10
        clear hb6 hb7 hb8 hb9 hb10 ho10 hr10
        cases fi
        · have HN : Hid (parseK s.data.toList = none) := HPS.out (readPS_uncut HCP.out)
          clear HWV HTN HLN HPN
          go_wp2
          refine bodyPost_ret (v := .tuple #[.agg #[.string ⟨#[]⟩, .string ⟨#[]⟩, .slice none 0 0], .bool false]) (by simp [results, Tryz.results84, go_sem, cZ]) rfl (pkRet_none HN.out ?_)
          exact (((hBZ.setCell (by simp) _).setCell (by simp) _).setCell (by simp) _)
        · have HRD := Lib.hid (readPS_cut HCP.out)
          cases hsw : splitW (trimS va) with
          | none =>
            have HN : Hid (parseK s.data.toList = none) := HPS.out (by rw [HRD.out, hsw])
            simp only [Option.getD_none, Option.isSome_none, List.length_nil]
            clear hsw
            clear HWV HTN HLN HPN
            go_wp2
            refine bodyPost_ret (v := .tuple #[.agg #[.string ⟨#[]⟩, .string ⟨#[]⟩, .slice none 0 0], .bool false]) (by simp [results, Tryz.results84, go_sem, cZ]) rfl (pkRet_none HN.out ?_)
            exact (((hBZ.setCell (by simp) _).setCell (by simp) _).setCell (by simp) _)
          | some xs =>
            rw [hsw] at HR10 hm10
            simp only [Option.getD_some, Option.isSome_some]
            have HR11 : Hid (RdL w10 a10 xs.length xs) := HR10.out
            by_cases h1 : xs.length = 1
            · match xs, h1 with
              | [t], _ =>
              have HSP : Hid (readPS pl = some ⟨low (trimS na), t⟩) := by show _ = _; rw [HRD.out, hsw]
              obtain ⟨hgn, hsf⟩ := HPN.out _ HSP.out
              have HGN := Lib.hid hgn
              have HSF := Lib.hid hsf
              obtain ⟨b, off, rfl, hbl, hcell⟩ := HR11.out.2.resolve_left (by simp)
              have hq := hcell 0 (by simp)
              rw [Nat.add_zero] at hq
              replace hq : w10.cell? ⟨b, off, none⟩ = some (.string (str t)) := hq
              have k010 := (below_at hbr hKr).trans k0
              have k110 := (below_at hbr hKr).trans k1
              have k210 := (below_at hbr hKr).trans k2
              have kf10 := (below_fz hbr hKr).trans kf
              have HO10 := Lib.hid (hown.keep hbr)
              have HFE : Hid (str (low (trimS na)) = str (Fld.mk (low (trimS na)) t).name ∧ str t = str (Fld.mk (low (trimS na)) t).val) := ⟨rfl, rfl⟩
              obtain ⟨f, hf⟩ : ∃ f, f = Fld.mk (low (trimS na)) t := ⟨_, rfl⟩
              rw [← hf] at HFE HGN HSF
              have HFA := Lib.hid HFE.out.1
              have HFB := Lib.hid HFE.out.2
              clear HFE hf
              generalize hLN : str (low (trimS na)) = LN at *
              generalize hTV : str t = TV at *
              generalize str (trimS na) = TN at *
              generalize str na = NA at *
              have HB : Hid (∀ u, Below w10.heap.size w10 u → u.cell? ⟨K, 2, none⟩ = some (.slice a acc.length d) ∧ u.cell? ⟨b, off, none⟩ = some (.string TV)) := fun u hu => ⟨(below_at hu hK10).trans k210, (below_at hu hbl).trans hq⟩
              clear hcell hgn hsf k0 k1 k2 kf hown hsw hLN hTV cZ fZ
              go_wp2_with fail
              refine wp_region_tail (by kernel_rfl) ?_
              refine wpAny_tail (fuel := 10) (tf := 3) [10, 11, 12] (by kernel_rfl) ?_
              refine wpAnyZ_take (fuel := 1) [true, true, true, true, true, true, true, true, true] (by kernel_rfl) (by kernel_rfl) (by rfl) (by kernel_rfl) (by kernel_rfl) (by kernel_rfl) ?_
              apply Exists.intro
              refine ⟨fun x => ?_, ?_⟩
              · have y0 := fun (y : BelowT x.val) => (HB.out y.val (nx ((Below.refl _ _).drew) (nx x.below y.below))).1
                have y1 := fun (y : BelowT x.val) => (HB.out y.val (nx ((Below.refl _ _).drew) (nx x.below y.below))).2
                simp only [pickL]
                repeat (go_big_quiet_step (first
                  | (go_at_call 117; exact calls_belowT (HTN.out _))
                  | (go_at_call 102; exact calls_belowT (HLN.out _))))
                exact wpQuiet_nil rfl
              refine wpAnyZ_one (m := 9) (by kernel_rfl) (fun u1 g1 => ?_)
              refine wpOp_at (o := _) (by rfl) (by rfl) ?_
              go_simp
              refine ⟨(Below.refl _ _).alloc (Nat.le_refl _) _, ?_⟩
              try simp only [Act.put, List.setIfInBounds_toArray, List.set_cons_zero, List.set_cons_succ]
              have hg1 : Below w10.heap.size w10 u1 := nx ((Below.refl _ _).drew) g1
              have HA1 : Hid (Below w10.heap.size w10 (u1.alloc (.cells #[.string LN, .string TV] 78))) := nx hg1 ((Below.refl _ _).alloc (Nat.le_refl _) _)
              have hnew0 : (u1.alloc (.cells #[.string LN, .string TV] 78)).cell? ⟨u1.heap.size, 0, none⟩ = some (.string LN) := by rw [World.cell?_alloc_at _ _ _ _ rfl]; rfl
              have hnew1 : (u1.alloc (.cells #[.string LN, .string TV] 78)).cell? ⟨u1.heap.size, 1, none⟩ = some (.string TV) := by rw [World.cell?_alloc_at _ _ _ _ rfl]; rfl
              have hnl : u1.heap.size < (u1.alloc (.cells #[.string LN, .string TV] 78)).heap.size := by simp
              generalize hU : u1.alloc (.cells #[.string LN, .string TV] 78) = U1 at *
              clear hU
              refine wpAnyZ_rest (by kernel_rfl) (fun u2 g2 => ?_)
              have HB2 : Hid (Below w10.heap.size w10 u2) := nx HA1.out g2
              have hB2 : Below K WK u2 := hBr.trans (HB2.out.mono (Nat.le_of_lt hK10))
              have k02 := (below_at HB2.out hK10).trans k010
              have k12 := (below_at HB2.out hK10).trans k110
              have k22 := (below_at HB2.out hK10).trans k210
              have kf2 := (below_fz HB2.out hK10).trans kf10
              have hK2 : K < u2.heap.size := Nat.lt_of_lt_of_le hK10 HB2.out.size
              have hO2 := HO10.out.keep HB2.out
              refine wpAny_one (m := 10) (by kernel_rfl) ?_
              refine wpOp_at (o := _) (by rfl) (by rfl) ?_
              refine wp_append_F _ _ rfl (K + 1) _ acc f u1.heap.size rfl rfl hO2 (by rw [below_at g2 hnl, hnew0, HFA.out]) (by rw [below_at g2 hnl, hnew1, HFB.out]) hK2 (by omega) ?_
              intro v3 u3 hO3 hb3
              have hB3 : Below K WK u3 := hB2.trans (hb3.mono (by omega))
              have k03 := (below_at hb3 (by omega)).trans k02
              have k13 := (below_at hb3 (by omega)).trans k12
              have k23 := (below_at hb3 (by omega)).trans k22
              have kf3 := (below_fz hb3 (by omega)).trans kf2
              have hK3 : K < u3.heap.size := Nat.lt_of_lt_of_le hK2 hb3.size
              obtain ⟨ys, hys⟩ : ∃ ys, ys = acc ++ [f] := ⟨_, rfl⟩
              have hyl : ys.length = acc.length + 1 := by rw [hys]; simp
              have HYL := Lib.hid hyl
              have HYS : Hid (∀ x ∈ ys, SmallF 200 x) := fun x hx => by
                rw [hys] at hx
                rcases List.mem_append.1 hx with h | h
                · exact HSM.out x h
                · rw [List.mem_singleton.1 h]; exact HSF.out
              rw [← hys] at hO3 HGN
              have HO3 := Lib.hid hO3
              obtain ⟨a', d', rfl, _, _, _⟩ := hO3.read fldC_len
              have HO4 := Lib.hid (ownF_off HO3.out 2 (.slice a' ys.length d'))
              clear hys hO3 hyl k010 k110 k210 kf10 k02 k12 k22 kf2 hO2 hb3 hB2 hnew0 hnew1
              try simp only [Act.put, List.setIfInBounds_toArray]
              refine wpAny_one (m := 11) (by kernel_rfl) ?_
              refine wpOp_at (o := _) (by rfl) (by rfl) ?_
              go_simp
              try simp only [Act.put, List.setIfInBounds_toArray, List.set_cons_zero, List.set_cons_succ]
              refine wpAny_one (m := 12) (by kernel_rfl) ?_
              refine wpOp_at (o := _) (by rfl) (by rfl) ?_
              go_simp
              try simp only [Act.put]
              refine wpAny_end (by kernel_rfl) ?_ _
              have hz1 : (str r1).size = r1.length := str_size r1
              have hz2 := HRL.out.2
              go_wp2
              go_roundw
              case rel => exact ⟨r1, m1, ys, a', d', rfl, rfl, by omega, (fun h => by have := hml3 h; have := HYL.out; omega), by have := HYL.out; omega, HGN.out, HYS.out, HO4.out, (cell_off (by omega) _).trans k03, (cell_off (by omega) _).trans k13, cell_same k23 _, (World.frozen?_setCell _ _ _ _).trans kf3, hB3.setCell (Nat.le_refl _) _, by simpa using hK3⟩
              case measure =>
                cases m1
                · simp
                · have := hml3 rfl
                  show Lib.strSize (.string (str r1)) + 1 < Lib.strSize (.string RL) + 1
                  rw [Lib.strSize_string, Lib.strSize_string, str_size]; omega
            · have hne : ((xs.length : Int) != 1) = true := by rw [bne_iff_ne]; omega
              have HN : Hid (parseK s.data.toList = none) := HPS.out (by
                rw [HRD.out, hsw]
                match xs, h1 with
                | [], _ => rfl
                | _ :: _ :: _, _ => rfl)
              clear hsw
              clear HWV HTN HLN HPN
              go_wp2
              refine bodyPost_ret (v := .tuple #[.agg #[.string ⟨#[]⟩, .string ⟨#[]⟩, .slice none 0 0], .bool false]) (by simp [results, Tryz.results84, go_sem, cZ]) rfl (pkRet_none HN.out ?_)
              exact (((hBZ.setCell (by simp) _).setCell (by simp) _).setCell (by simp) _)
end Go.Proofs.YtcdmjckkencgoaaGreatDoor
end

section
namespace Go.Proofs.YtcdmjckkencgoaaGreatDoor
open Go.RowKit

def SmallK2 (k : Knd) : Prop := k.main.length ≤ 1000 ∧ k.sub.length ≤ 1000 ∧ (∀ x ∈ k.params, SmallF 1000 x) ∧ k.params.length ≤ 1000
/-- A kind that lies in memory: its parameters are read at a. -/
def RdK (u : World) (k : Knd) (a : Option Addr) (d : Nat) : Prop := RdF u a k.params.length k.params ∧ k.params.length ≤ d ∧ SmallK2 k
theorem RdK.below {u u' : World} {k : Knd} {a : Option Addr} {d : Nat} (h : RdK u k a d) (b : Below u.heap.size u u') : RdK u' k a d := ⟨h.1.below b, h.2⟩
theorem RdK.own {B : Nat} {u : World} {k : Knd} {a : Option Addr} {d : Nat} (h : OwnF B (.slice a k.params.length d) k.params u) (hs : SmallK2 k) : RdK u k a d := by
  obtain ⟨a', d', e, h2, _, h4⟩ := OwnR.read h fldC_len
  injection e with e1 _ e3
  subst e1 e3
  exact ⟨h2, h4, hs⟩
theorem smallK2_valid {k : Knd} (h : isKnd k = true) : SmallK2 k := by
  obtain ⟨h1, h2, h3, h4⟩ := isKnd_small h
  exact ⟨by omega, by omega, fun x hx => (h4 x hx).up (by omega), by omega⟩
theorem smallK2_zero : SmallK2 knd0 := ⟨by simp [knd0], by simp [knd0], (fun x hx => by cases hx), by simp [knd0]⟩
theorem smallK2_parse (l : List UInt8) : SmallK2 ((parseK l).getD knd0) := by
  cases h : parseK l with
  | none => exact smallK2_zero
  | some k => exact smallK2_valid (parseK_valid h)
theorem kndL_str (k : Knd) : (⟨(str k.main).data.toList, (str k.sub).data.toList, k.params⟩ : Knd) = k := Knd.ext' (str_list _) (str_list _) rfl
/-- A kind's value. -/
def kV (k : Knd) (a : Option Addr) (d : Nat) : Value := .agg #[.string (str k.main), .string (str k.sub), .slice a k.params.length d]
theorem kindValid_k {k : Knd} {a : Option Addr} {d : Nat} (u : World) (tab : Tab u) (h : RdK u k a d) :
    Calls Tryz.prog 134 #[.agg #[.string (str k.main), .string (str k.sub), .slice a k.params.length d]] u fun e w' => e = .returned (.bool (isKnd k)) ∧ Below u.heap.size u w' := by
  have := kindValid_any (str k.main) (str k.sub) a k.params.length d k.params u tab (by rw [str_size]; have := h.2.2.1; omega) (by rw [str_size]; have := h.2.2.2.1; omega) h.1 (by have := h.2.2.2.2.2; omega) (fun x hx => (h.2.2.2.2.1 x hx).up (by omega))
  rw [kndL_str] at this; exact this
theorem kindValidS_k {k : Knd} {a : Option Addr} {d : Nat} (u : World) (h : RdK u k a d) :
    Calls Tryz.prog 119 #[.agg #[.string (str k.main), .string (str k.sub), .slice a k.params.length d]] u fun e w' => e = .returned (.bool (isKnd k)) ∧ Below u.heap.size u w' := by
  have := kindValidS_any (str k.main) (str k.sub) a k.params.length d k.params u (by rw [str_size]; have := h.2.2.1; omega) (by rw [str_size]; have := h.2.2.2.1; omega) h.1 h.2.1 (by have := h.2.2.2.2.2; omega) (fun x hx => (h.2.2.2.2.1 x hx).up (by omega))
  rw [kndL_str] at this; exact this
theorem boundaryOf_k {k : Knd} {a : Option Addr} {d : Nat} (u : World) (tab : Tab u) (h : RdK u k a d) :
    Calls Tryz.prog 97 #[.agg #[.string (str k.main), .string (str k.sub), .slice a k.params.length d]] u fun e w' => e = .returned (.tuple #[.string (str ((bndOf k).getD [])), .bool (bndOf k).isSome]) ∧ Below u.heap.size u w' := by
  have := boundaryOf_any (str k.main) (str k.sub) a k.params.length d k.params u tab (by rw [str_size]; have := h.2.2.1; omega) (by rw [str_size]; have := h.2.2.2.1; omega) h.1 (by have := h.2.2.2.2.2; omega) (fun x hx => (h.2.2.2.2.1 x hx).up (by omega))
  rw [kndL_str] at this; exact this
theorem boundaryOfS_k {k : Knd} {a : Option Addr} {d : Nat} (u : World) (h : RdK u k a d) :
    Calls Tryz.prog 85 #[.agg #[.string (str k.main), .string (str k.sub), .slice a k.params.length d]] u fun e w' => e = .returned (.tuple #[.string (str ((bndOf k).getD [])), .bool (bndOf k).isSome]) ∧ Below u.heap.size u w' := by
  have := boundaryOfS_any (str k.main) (str k.sub) a k.params.length d k.params u (by rw [str_size]; have := h.2.2.1; omega) (by rw [str_size]; have := h.2.2.2.1; omega) h.1 h.2.1 (by have := h.2.2.2.2.2; omega) (fun x hx => (h.2.2.2.2.1 x hx).up (by omega))
  rw [kndL_str] at this; exact this
def PKL (o : Option Knd) (w : World) (e : Ending) (w' : World) : Prop := ∃ a c, e = .returned (.tuple #[.agg #[.string (str (o.getD knd0).main), .string (str (o.getD knd0).sub), .slice a (o.getD knd0).params.length c], .bool o.isSome]) ∧ RdK w' (o.getD knd0) a c ∧ Below w.heap.size w w'
theorem parseKind_k (s : ByteArray) (u : World) (tab : Tab u) (hs : s.size ≤ 1073741824) : Calls Tryz.prog 96 #[.string s] u (PKL (parseK s.data.toList) u) :=
  (parseKind_any s u tab hs).mono fun _ _ ⟨a, c, h1, h2, h3⟩ => ⟨a, c, h1, RdK.own h2 (smallK2_parse _), h3⟩
theorem parseKindS_k (s : ByteArray) (u : World) (hs : s.size ≤ 1073741824) : Calls Tryz.prog 84 #[.string s] u (PKL (parseK s.data.toList) u) :=
  (parseKindS_any s u hs).mono fun _ _ ⟨a, c, h1, h2, h3⟩ => ⟨a, c, h1, RdK.own h2 (smallK2_parse _), h3⟩
end Go.Proofs.YtcdmjckkencgoaaGreatDoor
end

section
namespace Go.Proofs.YtcdmjckkencgoaaGreatDoor
open Go.RowKit

theorem alone_at (s : ByteArray) (k : Nat) (h1 : 1 ≤ k) (h2 : k + 1 < s.size) : alone s.data.toList k = (decide (s[k] = 32) && (decide (s[k - 1] ≠ 32) && decide (s[k + 1] ≠ 32))) := by
  have hg : ∀ i, (h : i < s.size) → s.data.toList.getD i 0 = s[i] := fun i h => by
    rw [List.getD_eq_getElem?_getD, List.getElem?_eq_getElem (by rw [size_list]; exact h)]; rfl
  unfold alone
  rw [hg k (by omega), hg (k - 1) (by omega), hg (k + 1) h2]
/-- A line as a string, its rest. -/
theorem ext_tk (l : List UInt8) (a : Nat) : (str l).extract 0 a = str (l.take a) := by rw [ext_take, str_list]
theorem ext_dr (l : List UInt8) (a : Nat) : (str l).extract a (str l).size = str (l.drop a) := by rw [ext_drop, str_list]
set_option maxRecDepth 100000 in
set_option maxHeartbeats 400000 in
theorem standsAlone_any (s : ByteArray) (k : Nat) (w : World) (hs : s.size ≤ 1073741824) (h1 : 1 ≤ k) (h2 : k + 1 < s.size) :
    Calls Tryz.prog 155 #[.string s, .int .i64 k] w fun e w' => e = .returned (.bool (alone s.data.toList k)) ∧ w = w' := by
  have HA := Lib.hid (alone_at s k h1 h2)
  have h3 : k < s.size := by omega
  have h4 : k - 1 < s.size := by omega
  by_cases ha : s[k] = 32
  · have e1 := beq_t ha (n := 32) rfl
    by_cases hb : s[k - 1] = 32
    · have e2 := bneq_f hb (n := 32) rfl
      have HR : Hid (alone s.data.toList k = false) := by show _ = _; rw [HA.out, hb]; simp
      clear ha hb
      go_enter Tryz.func155, Tryz.ntmps155
      go_wp2
      go_ret
      exact ⟨ret_bool HR.out.symm, rfl⟩
    · have e2 := bneq_t hb (n := 32) rfl
      by_cases hc : s[k + 1] = 32
      · have e3 := bneq_f hc (n := 32) rfl
        have HR : Hid (alone s.data.toList k = false) := by show _ = _; rw [HA.out, hc]; simp
        clear ha hb hc
        go_enter Tryz.func155, Tryz.ntmps155
        go_wp2
        go_ret
        exact ⟨ret_bool HR.out.symm, rfl⟩
      · have e3 := bneq_t hc (n := 32) rfl
        have HR : Hid (alone s.data.toList k = true) := by show _ = _; rw [HA.out]; simp [ha, hb, hc]
        clear ha hb hc
        go_enter Tryz.func155, Tryz.ntmps155
        go_wp2
        go_ret
        exact ⟨ret_bool HR.out.symm, rfl⟩
  · have e1 := beq_f ha (n := 32) rfl
    have HR : Hid (alone s.data.toList k = false) := by show _ = _; rw [HA.out]; simp [ha]
    clear ha
    go_enter Tryz.func155, Tryz.ntmps155
    go_wp2
    go_ret
    exact ⟨ret_bool HR.out.symm, rfl⟩
def BrkRet (l : List UInt8) (first : Nat) (w : World) (e : Ending) (w' : World) : Prop := e = .returned (.tuple #[.int .i64 ((brk l first).getD 0 : Nat), .bool (brk l first).isSome]) ∧ w = w'
theorem brkRet_none {l : List UInt8} {first : Nat} {w : World} (h : brk l first = none) : BrkRet l first w (.returned (.tuple #[.int .i64 0, .bool false])) w := by
  unfold BrkRet; rw [h]; exact ⟨rfl, rfl⟩
theorem brkRet_some {l : List UInt8} {first b : Nat} {w : World} (h : brk l first = some b) : BrkRet l first w (.returned (.tuple #[.int .i64 (b : Int), .bool true])) w := by
  unfold BrkRet; rw [h]; exact ⟨rfl, rfl⟩
theorem brk_of (s : ByteArray) (first n : Nat) (h : s.size ≤ first + n + 1) (hn : n = 0 ∨ first + n + 1 ≤ s.size) : brk s.data.toList first = brkTo s.data.toList first n := by
  unfold brk; rw [size_list]
  congr 1; omega
theorem best_t {l : List UInt8} {b : Option Nat} {i : Nat} (h : alone l i = true) (h2 : i ≤ 40 ∨ b = none) : bestStep l b i = some i := by
  unfold bestStep; rw [if_pos]; rw [h]; rcases h2 with h2 | h2 <;> simp [h2]
theorem best_f {l : List UInt8} {b : Option Nat} {i : Nat} (h : alone l i = false) : bestStep l b i = b := by
  unfold bestStep; rw [h]; rfl
theorem best_late {l : List UInt8} {b : Option Nat} {i c : Nat} (h : 40 < i) (hb : b = some c) : bestStep l b i = b := by
  unfold bestStep; rw [if_neg]; rw [hb]; simp; omega
set_option maxRecDepth 100000 in
set_option maxHeartbeats 1000000 in
theorem breakPlace_any (s : ByteArray) (first : Nat) (w : World) (hs : s.size ≤ 1073741824) (hf : 2 ≤ first) (hf2 : first ≤ 1073741824) :
    Calls Tryz.prog 122 #[.string s, .int .i64 first] w (BrkRet s.data.toList first w) := by
  go_enter Tryz.func122, Tryz.ntmps122
  go_wp2_with fail
  go_loop [6, 7, 8] (fun p f i => ∃ (n j : Nat), j = first + n ∧ (n = 0 ∨ j + 1 ≤ s.size) ∧ i = .int .i64 j ∧ ((p = .int .i64 0 ∧ f = .bool false ∧ brkTo s.data.toList first n = none) ∨ ∃ b : Nat, p = .int .i64 b ∧ f = .bool true ∧ brkTo s.data.toList first n = some b)) (fun _ _ i => s.size - (intOf i).toNat)
  case atStart => exact ⟨0, first, rfl, .inl rfl, rfl, .inl ⟨rfl, rfl, rfl⟩⟩
  case round =>
    obtain ⟨n, j, hj, hn, rfl, hb⟩ := hrel
    have HJ := Lib.hid hj
    have hj2 : 2 ≤ j := by omega
    by_cases hlt : (j : Int) < s.size - 1
    · have h2 : j + 1 < s.size := by omega
      rcases hb with ⟨rfl, rfl, hbr⟩ | ⟨b, rfl, rfl, hbr⟩
      · cases ha : alone s.data.toList j
        · have HN : Hid (brkTo s.data.toList first (n + 1) = none) := by show _ = _; rw [brkTo_succ, ← hj, best_f ha, hbr]
          have HA := Lib.hid ha
          clear ha hbr hj hn
          go_wp2_with fail
          refine (standsAlone_any s j _ hs (by omega) h2).mono ?_
          rintro e w1 ⟨rfl, rfl⟩
          rw [HA.out]
          go_wp2
          go_round
          case rel => exact ⟨n + 1, j + 1, by have := HJ.out; omega, by omega, by go_num, .inl ⟨rfl, rfl, HN.out⟩⟩
          case measure => simp [intOf]; omega
        · have HN : Hid (brkTo s.data.toList first (n + 1) = some j) := by show _ = _; rw [brkTo_succ, ← hj, best_t ha (.inr hbr)]
          have HA := Lib.hid ha
          clear ha hbr hj hn
          go_wp2_with fail
          refine (standsAlone_any s j _ hs (by omega) h2).mono ?_
          rintro e w1 ⟨rfl, rfl⟩
          rw [HA.out]
          go_wp2
          go_round
          case rel => exact ⟨n + 1, j + 1, by have := HJ.out; omega, by omega, by go_num, .inr ⟨j, rfl, rfl, HN.out⟩⟩
          case measure => simp [intOf]; omega
      · by_cases h40 : 40 < j
        · have HR : Hid (brk s.data.toList first = some b) := by
            show _ = _; unfold brk; rw [size_list]; exact brkTo_stay hbr (by omega) (by omega)
          clear hbr hj hn
          go_wp2
          go_ret2
          exact brkRet_some HR.out
        · cases ha : alone s.data.toList j
          · have HN : Hid (brkTo s.data.toList first (n + 1) = some b) := by show _ = _; rw [brkTo_succ, ← hj, best_f ha, hbr]
            have HA := Lib.hid ha
            clear ha hbr hj hn
            go_wp2_with fail
            refine (standsAlone_any s j _ hs (by omega) h2).mono ?_
            rintro e w1 ⟨rfl, rfl⟩
            rw [HA.out]
            go_wp2
            go_round
            case rel => exact ⟨n + 1, j + 1, by have := HJ.out; omega, by omega, by go_num, .inr ⟨b, rfl, rfl, HN.out⟩⟩
            case measure => simp [intOf]; omega
          · have HN : Hid (brkTo s.data.toList first (n + 1) = some j) := by show _ = _; rw [brkTo_succ, ← hj, best_t ha (.inl (by omega))]
            have HA := Lib.hid ha
            clear ha hbr hj hn
            go_wp2_with fail
            refine (standsAlone_any s j _ hs (by omega) h2).mono ?_
            rintro e w1 ⟨rfl, rfl⟩
            rw [HA.out]
            go_wp2
            go_round
            case rel => exact ⟨n + 1, j + 1, by have := HJ.out; omega, by omega, by go_num, .inr ⟨j, rfl, rfl, HN.out⟩⟩
            case measure => simp [intOf]; omega
    · have HR := Lib.hid (brk_of s first n (by omega) (by omega))
      clear hj hn
      rcases hb with ⟨rfl, rfl, hbr⟩ | ⟨b, rfl, rfl, hbr⟩
      · have HB := Lib.hid hbr
        clear hbr
        go_wp2
        go_ret2
        exact brkRet_none (by rw [HR.out, HB.out])
      · have HB := Lib.hid hbr
        clear hbr
        go_wp2
        go_ret2
        exact brkRet_some (by rw [HR.out, HB.out])
theorem breakPlace_none (s : ByteArray) (first : Nat) (w : World) (hs : s.size ≤ 1073741824) (hf : 2 ≤ first) (hf2 : first ≤ 1073741824) (h : brk s.data.toList first = none) :
    Calls Tryz.prog 122 #[.string s, .int .i64 first] w fun e w' => e = .returned (.tuple #[.int .i64 0, .bool false]) ∧ w = w' := by
  refine (breakPlace_any s first w hs hf hf2).mono ?_
  rintro e w' ⟨h1, h2⟩
  rw [h] at h1; exact ⟨h1, h2⟩
theorem breakPlace_some (s : ByteArray) (first a : Nat) (w : World) (hs : s.size ≤ 1073741824) (hf : 2 ≤ first) (hf2 : first ≤ 1073741824) (h : brk s.data.toList first = some a) :
    Calls Tryz.prog 122 #[.string s, .int .i64 first] w fun e w' => e = .returned (.tuple #[.int .i64 (a : Int), .bool true]) ∧ w = w' := by
  refine (breakPlace_any s first w hs hf hf2).mono ?_
  rintro e w' ⟨h1, h2⟩
  rw [h] at h1; exact ⟨h1, h2⟩
def RowL (xs : List (List UInt8)) (w : World) (e : Ending) (w' : World) : Prop := ∃ v, e = .returned v ∧ OwnL w.heap.size v xs w' ∧ Below w.heap.size w w'
theorem line_val (f : Fld) (h : f.val ≠ []) : str f.name ++ ⟨#[58]⟩ ++ (⟨#[32]⟩ ++ str f.val) = str (lineF f) := by
  apply bytes_ext
  rw [Joins.data_append, Joins.data_append, Joins.data_append, str_list, str_list, str_list]
  unfold lineF
  rw [if_neg h]; simp
theorem line_val2 (f : Fld) (h : f.val ≠ []) : str f.name ++ ⟨#[58]⟩ ++ ⟨#[32]⟩ ++ str f.val = str (lineF f) := by
  apply bytes_ext
  rw [Joins.data_append, Joins.data_append, Joins.data_append, str_list, str_list, str_list]
  unfold lineF
  rw [if_neg h]; simp
theorem line_none (f : Fld) (h : f.val = []) : str f.name ++ ⟨#[58]⟩ = str (lineF f) := by
  apply bytes_ext
  rw [Joins.data_append, str_list, str_list]
  unfold lineF
  rw [if_pos h]
theorem neq_empty_t {s : ByteArray} (h : 0 < s.size) : (s.toList != (ByteArray.mk #[]).toList) = true := by
  rw [bne, beq_dec, decide_eq_false]; rfl
  intro e; rw [e] at h; exact absurd h (by decide)
set_option maxRecDepth 100000 in
set_option maxHeartbeats 2000000 in
theorem foldField_any (f : Fld) (w : World) (hf : SmallF 1073741000 f) :
    Calls Tryz.prog 88 #[.agg #[.string (str f.name), .string (str f.val)]] w (RowL (foldF f) w) := by
  obtain ⟨i0, hi, hz0, hz1, hz2⟩ := info_parts sInfo
  have hb0 : Below w.heap.size w (w.alloc (.cells #[.string (str f.name), .string (str f.val)] 78)) := (Below.refl _ _).alloc (Nat.le_refl _) _
  have HF := Lib.hid hf
  have HFV := Lib.hid (fieldValid_fld f)
  cases hv : isFld f
  · have HV := Lib.hid hv
    have HN := Lib.hid (foldF_no hv)
    clear hv hf
    generalize str f.name = n at *
    generalize str f.val = v at *
    go_enter Tryz.func88, Tryz.ntmps88
    go_wp2_with fail
    refine (HFV.out _ HF.out).mono ?_
    rintro e w1 ⟨rfl, hb1⟩
    rw [HV.out]
    go_wp2
    go_ret
    exact ⟨_, rfl, by rw [HN.out]; exact OwnL.nil _ _, nx hb0 hb1⟩
  · have HV := Lib.hid hv
    have hll := line_len hv
    have hnl := (isFName_iff.1 (isFld_iff.1 hv).1).2.1
    have hvl := (isFld_iff.1 hv).2.2.1
    have HG0 : Hid (foldF f = [] ++ foldL (lineF f) (f.name.length + 3)) := foldF_val hv
    have hzn := str_size f.name
    have hzv := str_size f.val
    have HFI : Hid (((f.name.length + 3 : Nat) : Int) = ((str f.name).size : Int) + 1 + 2) := by
      show _ = _
      rw [hzn]; omega
    clear hv hf
    by_cases hv0 : f.val = []
    all_goals
      first
        | (have HLN := Lib.hid (line_none f hv0); have he := empty_t (s := str f.val) (by rw [hzv, hv0]; rfl))
        | (have HLN := Lib.hid (line_val f hv0); have he := empty_f (s := str f.val) (by rw [hzv]; exact List.length_pos_iff.2 hv0))
    all_goals
      have hzn1 : (str f.name).size ≤ 30 := by omega
      have hzv1 : (str f.val).size ≤ 150 := by omega
      clear hv0 hzn hzv hvl
      generalize hln : lineF f = ln at *
      generalize hfi : f.name.length + 3 = fi at *
      have hfi2 : 2 ≤ fi ∧ fi ≤ 100 := by omega
      have HLN2 := Lib.hid hln
      have HFI2 := Lib.hid hfi
      clear hln hfi hnl
      generalize str f.name = n at *
      generalize str f.val = v at *
      have hsz1 : (ByteArray.mk #[58]).size = 1 := rfl
      have hsz2 : (ByteArray.mk #[32]).size = 1 := rfl
      have hA1 : (n ++ ⟨#[58]⟩ : ByteArray).size ≤ 40 := by rw [ByteArray.size_append]; omega
      go_enter Tryz.func88, Tryz.ntmps88
      go_wp2_with fail
      refine (HFV.out _ HF.out).mono ?_
      rintro e w1 ⟨rfl, hb1⟩
      rw [HV.out]
      obtain ⟨cA, fA, zA⟩ := fresh1 hb1
      have hbw := nx hb0 hb1
      go_wp2_with fail
      go_loopw [3, 4, 5] (fun s q r wr => ∃ (acc : List (List UInt8)) (l : List UInt8) (k : Nat), s = .string (str l) ∧ q = .int .i64 k ∧ OwnL w.heap.size r acc wr ∧ foldF f = acc ++ foldL l k ∧ 2 ≤ k ∧ k ≤ 100 ∧ l.length ≤ 182 ∧ acc.length + l.length ≤ 182 ∧ Below w.heap.size w wr) (fun s _ _ _ => Lib.strSize s)
      case atStart => exact ⟨[], ln, fi, by rw [← HLN.out], by rw [HFI.out], OwnL.nil _ _, HG0.out, hfi2.1, hfi2.2, hll, by simp; omega, hbw⟩
      case round =>
        obtain ⟨acc, l, k, rfl, rfl, hown, hg, hk1, hk2, hl1, hl2, hb⟩ := hrel
        have HG := Lib.hid hg
        have hown1 := hown
        unfold OwnL at hown1
        have hbs := hb.size
        have hlz := str_size l
        have HLI := Lib.hid (str_list l)
        have HSS : Hid (Lib.strSize (.string (str l)) = l.length) := by show Lib.strSize _ = _; rw [Lib.strSize_string, hlz]
        clear hg
        by_cases h40 : 40 < l.length
        · have h40' : 40 < (str l).size := by omega
          cases hbk : brk l k with
          | none =>
            have HE : Hid (foldF f = acc ++ [(str l).data.toList]) := by show _ = _; rw [HG.out, str_list, foldL_stop hbk]
            have HB : Hid (brk (str l).data.toList k = none) := by show _ = _; rw [str_list]; exact hbk
            clear hbk
            generalize str l = px at *
            go_wp2_with fail
            refine (breakPlace_none px k _ (by omega) hk1 (by omega) HB.out).mono ?_
            rintro e w2 ⟨rfl, rfl⟩
            go_wp2_with (at_builtin; refine wpList_append_own _ rfl _ _ 23 rfl w.heap.size 9 i0 (.string ⟨#[]⟩) 1 16 Tryz.underlying23 hi hz0 hz1 hz2 rfl (by decide) _ _ _ rfl (World.ownsRow.alloc hown1 _) ⟨wr.heap.size, 0, none⟩ 1 1 [.string px] rfl rfl ?q1 ?q2 ?q3 ?q4 ?q5 ?_)
            case q1 =>
              intro u v hj
              match u, hj with
              | 0, hj => simp at hj; subst hj; simp [Addr.add]
            case q2 => intro u hu; simp at hu; subst hu; rfl
            case q3 => unfold maxLen; omega
            case q4 => omega
            case q5 => simp; omega
            intro v' w3 hown' hgrow _
            have hO3 := own_snoc hown'
            have hb3 : Below w.heap.size wr w3 := ((Below.refl _ _).alloc (by omega) _).grown hgrow (by simp; omega) (fun k hk => (World.ownsRow.lt hown1 k hk).1)
            go_wp2
            go_ret
            exact ⟨v', rfl, by rw [HE.out]; exact hO3, hb.trans hb3⟩
          | some a =>
            obtain ⟨ha1, ha2, _, _⟩ := brk_some hbk
            have HE : Hid (foldF f = (acc ++ [((str l).extract 0 a).data.toList]) ++ foldL (l.drop a) 2) := by show _ = _; rw [HG.out, foldL_cut h40 hk1 hbk, ext_tk, str_list]; simp
            have HB : Hid (brk (str l).data.toList k = some a) := by show _ = _; rw [str_list]; exact hbk
            have HX : Hid ((str l).extract a l.length = str (l.drop a)) := by show _ = _; rw [← ext_dr l a, hlz]
            have ha3 : a ≤ (str l).size := by omega
            have ha4 : a ≤ 182 := by omega
            have hdl : (l.drop a).length + a = l.length := by rw [List.length_drop]; omega
            have HDL := Lib.hid hdl
            clear hbk hdl
            generalize hpx : str l = px at *
            have HPX := Lib.hid hpx
            clear hpx
            go_wp2_with fail
            refine (breakPlace_some px k a _ (by omega) hk1 (by omega) HB.out).mono ?_
            rintro e w2 ⟨rfl, rfl⟩
            go_wp2_with (at_builtin; refine wpList_append_own _ rfl _ _ 23 rfl w.heap.size 9 i0 (.string ⟨#[]⟩) 1 16 Tryz.underlying23 hi hz0 hz1 hz2 rfl (by decide) _ _ _ rfl (World.ownsRow.alloc hown1 _) ⟨wr.heap.size, 0, none⟩ 1 1 [.string (px.extract 0 a)] rfl rfl ?c1 ?c2 ?c3 ?c4 ?c5 ?_)
            case c1 =>
              intro u v hj
              match u, hj with
              | 0, hj => simp at hj; subst hj; simp [Addr.add]
            case c2 => intro u hu; simp at hu; subst hu; rfl
            case c3 => unfold maxLen; omega
            case c4 => omega
            case c5 => simp; omega
            intro v' w3 hown' hgrow _
            have hO3 := own_snoc hown'
            have hb3 : Below w.heap.size wr w3 := ((Below.refl _ _).alloc (by omega) _).grown hgrow (by simp; omega) (fun k hk => (World.ownsRow.lt hown1 k hk).1)
            go_wp2
            go_roundw
            case rel => exact ⟨_, l.drop a, 2, by rw [← HX.out], rfl, hO3, HE.out, by omega, by omega, by have := HDL.out; omega, by have := HDL.out; simp only [List.length_append, List.length_singleton]; omega, hb.trans hb3⟩
            case measure =>
              show Lib.strSize _ < Lib.strSize _
              rw [HX.out, Lib.strSize_string, Lib.strSize_string, str_size, hlz]
              have := HDL.out; omega
        · have h40' : ¬ 40 < (str l).size := by omega
          have HE : Hid (foldF f = acc ++ [(str l).data.toList]) := by show _ = _; rw [HG.out, str_list, foldL_short (by omega)]
          generalize str l = px at *
          go_wp2_with (at_builtin; refine wpList_append_own _ rfl _ _ 23 rfl w.heap.size 9 i0 (.string ⟨#[]⟩) 1 16 Tryz.underlying23 hi hz0 hz1 hz2 rfl (by decide) _ _ _ rfl (World.ownsRow.alloc hown1 _) ⟨wr.heap.size, 0, none⟩ 1 1 [.string px] rfl rfl ?r1 ?r2 ?r3 ?r4 ?r5 ?_)
          case r1 =>
            intro u v hj
            match u, hj with
            | 0, hj => simp at hj; subst hj; simp [Addr.add]
          case r2 => intro u hu; simp at hu; subst hu; rfl
          case r3 => unfold maxLen; omega
          case r4 => omega
          case r5 => simp; omega
          intro v' w3 hown' hgrow _
          have hO3 := own_snoc hown'
          have hb3 : Below w.heap.size wr w3 := ((Below.refl _ _).alloc (by omega) _).grown hgrow (by simp; omega) (fun k hk => (World.ownsRow.lt hown1 k hk).1)
          go_wp2
          go_ret
          exact ⟨v', rfl, by rw [HE.out]; exact hO3, hb.trans hb3⟩
end Go.Proofs.YtcdmjckkencgoaaGreatDoor
end

section
namespace Go.Proofs.YtcdmjckkencgoaaGreatDoor
open Go.RowKit

set_option maxRecDepth 100000 in
set_option maxHeartbeats 1000000 in
theorem l3Break_any (s : ByteArray) (from0 : Nat) (w : World) (hs : s.size ≤ 1073741824) (hf : 1 ≤ from0) (hf2 : from0 ≤ 1073741824) :
    Calls Tryz.prog 115 #[.string s, .int .i64 from0] w fun e w' => e = .returned (.int .i64 (idxI (brk s.data.toList (from0 + 1)))) ∧ w = w' := by
  go_enter Tryz.func115, Tryz.ntmps115
  go_wp2_with fail
  go_loop [5, 6] (fun p i => ∃ (n j : Nat), j = from0 + 1 + n ∧ (n = 0 ∨ j + 1 ≤ s.size) ∧ i = .int .i64 j ∧ ((p = .int .i64 (-1) ∧ brkTo s.data.toList (from0 + 1) n = none) ∨ ∃ b : Nat, p = .int .i64 b ∧ brkTo s.data.toList (from0 + 1) n = some b)) (fun _ i => s.size - (intOf i).toNat)
  case atStart => exact ⟨0, from0 + 1, rfl, .inl rfl, by go_num, .inl ⟨rfl, rfl⟩⟩
  case round =>
    obtain ⟨n, j, hj, hn, rfl, hb⟩ := hrel
    have HJ := Lib.hid hj
    have hj2 : 2 ≤ j := by omega
    by_cases hlt : (j : Int) + 1 < s.size
    · have h2 : j + 1 < s.size := by omega
      have h3 : j < s.size := by omega
      have h4 : j - 1 < s.size := by omega
      have h5 : 1 ≤ j := by omega
      have HA := Lib.hid (alone_at s j (by omega) h2)
      cases ha : alone s.data.toList j
      · have HN : Hid (brkTo s.data.toList (from0 + 1) (n + 1) = brkTo s.data.toList (from0 + 1) n) := by show _ = _; rw [brkTo_succ, ← hj, best_f ha]
        have ho : s[j] ≠ 32 ∨ (s[j] = 32 ∧ s[j - 1] = 32) ∨ (s[j] = 32 ∧ s[j - 1] ≠ 32 ∧ s[j + 1] = 32) := by
          have := HA.out
          rw [ha] at this
          by_cases g1 : s[j] = 32 <;> by_cases g2 : s[j - 1] = 32 <;> by_cases g3 : s[j + 1] = 32 <;> simp [g1, g2, g3] at this ⊢
        have HB := Lib.hid hb
        clear ha hj hn hb
        rcases ho with g1 | ⟨g1, g2⟩ | ⟨g1, g2, g3⟩
        · have e1 := bneq_t g1 (n := 32) rfl
          clear g1
          go_wp2
          go_round
          case rel => exact ⟨n + 1, j + 1, by have := HJ.out; omega, by omega, by go_num, by rw [HN.out]; exact HB.out⟩
          case measure => simp [intOf]; omega
        · have e1 := bneq_f g1 (n := 32) rfl
          have e2 := beq_t g2 (n := 32) rfl
          clear g1 g2
          go_wp2
          go_round
          case rel => exact ⟨n + 1, j + 1, by have := HJ.out; omega, by omega, by go_num, by rw [HN.out]; exact HB.out⟩
          case measure => simp [intOf]; omega
        · have e1 := bneq_f g1 (n := 32) rfl
          have e2 := beq_f g2 (n := 32) rfl
          have e3 := beq_t g3 (n := 32) rfl
          clear g1 g2 g3
          go_wp2
          go_round
          case rel => exact ⟨n + 1, j + 1, by have := HJ.out; omega, by omega, by go_num, by rw [HN.out]; exact HB.out⟩
          case measure => simp [intOf]; omega
      · have ho : s[j] = 32 ∧ s[j - 1] ≠ 32 ∧ s[j + 1] ≠ 32 := by
          have := HA.out
          rw [ha] at this
          by_cases g1 : s[j] = 32 <;> by_cases g2 : s[j - 1] = 32 <;> by_cases g3 : s[j + 1] = 32 <;> simp [g1, g2, g3] at this ⊢
        obtain ⟨g1, g2, g3⟩ := ho
        have e1 := bneq_f g1 (n := 32) rfl
        have e2 := beq_f g2 (n := 32) rfl
        have e3 := beq_f g3 (n := 32) rfl
        clear g1 g2 g3 hn
        rcases hb with ⟨rfl, hbr⟩ | ⟨b, rfl, hbr⟩
        · have HN : Hid (brkTo s.data.toList (from0 + 1) (n + 1) = some j) := by show _ = _; rw [brkTo_succ, ← hj, best_t ha (.inr hbr)]
          clear ha hj hbr
          by_cases h40 : j ≤ 40
          all_goals
            go_wp2
            go_round
            case rel => exact ⟨n + 1, j + 1, by have := HJ.out; omega, by omega, by go_num, .inr ⟨j, rfl, HN.out⟩⟩
            case measure => simp [intOf]; omega
        · by_cases h40 : j ≤ 40
          · have HN : Hid (brkTo s.data.toList (from0 + 1) (n + 1) = some j) := by show _ = _; rw [brkTo_succ, ← hj, best_t ha (.inl h40)]
            clear ha hj hbr
            go_wp2
            go_round
            case rel => exact ⟨n + 1, j + 1, by have := HJ.out; omega, by omega, by go_num, .inr ⟨j, rfl, HN.out⟩⟩
            case measure => simp [intOf]; omega
          · have HN : Hid (brkTo s.data.toList (from0 + 1) (n + 1) = some b) := by show _ = _; rw [brkTo_succ, ← hj, best_late (by omega) hbr, hbr]
            have hbn : ¬ ((b : Int) < 0) := by omega
            clear ha hj hbr
            go_wp2
            go_round
            case rel => exact ⟨n + 1, j + 1, by have := HJ.out; omega, by omega, by go_num, .inr ⟨b, rfl, HN.out⟩⟩
            case measure => simp [intOf]; omega
    · have HR := Lib.hid (brk_of s (from0 + 1) n (by omega) (by omega))
      have hjb : j ≤ 2147483648 := by omega
      clear hj hn
      rcases hb with ⟨rfl, hbr⟩ | ⟨b, rfl, hbr⟩
      · have HB := Lib.hid hbr
        clear hbr
        go_wp2
        go_ret
        exact ⟨ret_int (by rw [HR.out, HB.out]; rfl), rfl⟩
      · have HB := Lib.hid hbr
        clear hbr
        go_wp2
        go_ret
        exact ⟨ret_int (by rw [HR.out, HB.out]; rfl), rfl⟩
set_option maxRecDepth 100000 in
set_option maxHeartbeats 2000000 in
theorem foldFieldS_any (f : Fld) (w : World) (hf : SmallF 1073741000 f) :
    Calls Tryz.prog 83 #[.agg #[.string (str f.name), .string (str f.val)]] w (RowL (foldF f) w) := by
  obtain ⟨i0, hi, hz0, hz1, hz2⟩ := info_parts sInfo
  have hb0 : Below w.heap.size w (w.alloc (.cells #[.string (str f.name), .string (str f.val)] 78)) := (Below.refl _ _).alloc (Nat.le_refl _) _
  have hb00 := hb0.alloc hb0.size (.cells #[] 9)
  have hown0 : OwnL w.heap.size (.slice (some ⟨w.heap.size + 1, 0, none⟩) 0 0) [] ((w.alloc (.cells #[.string (str f.name), .string (str f.val)] 78)).alloc (.cells #[] 9)) := by
    have := (OwnL.empty (w.alloc (.cells #[.string (str f.name), .string (str f.val)] 78))).base (B' := w.heap.size) (by simp)
    simpa using this
  have HF := Lib.hid hf
  have HFV := Lib.hid (fieldValidS_fld f)
  cases hv : isFld f
  · have HV := Lib.hid hv
    have HN := Lib.hid (foldF_no hv)
    clear hv hf
    generalize str f.name = n at *
    generalize str f.val = v at *
    go_enter Tryz.func83, Tryz.ntmps83
    go_wp2_with fail
    refine (HFV.out _ HF.out).mono ?_
    rintro e w1 ⟨rfl, hb1⟩
    rw [HV.out]
    go_wp2
    go_ret
    exact ⟨_, rfl, by rw [HN.out]; exact hown0.keep hb1, nx hb00 hb1⟩
  · have HV := Lib.hid hv
    have hll := line_len hv
    have hnl := (isFName_iff.1 (isFld_iff.1 hv).1).2.1
    have hvl := (isFld_iff.1 hv).2.2.1
    have HG0 : Hid (foldF f = [] ++ foldL (lineF f) (f.name.length + 3)) := foldF_val hv
    have hzn := str_size f.name
    have hzv := str_size f.val
    have HSH : Hid (f.val = [] → foldF f = [] ++ foldL (lineF f) (f.name.length + 2)) := fun h => by
      have hl : (lineF f).length ≤ 40 := by unfold lineF; rw [if_pos h]; simp; omega
      rw [HG0.out, foldL_short hl, foldL_short hl]
    have HFI : Hid (((f.name.length + 1 : Nat) : Int) = ((str f.name).size : Int) + 1 ∧ ((f.name.length + 2 : Nat) : Int) = ((str f.name).size : Int) + 1 + 1) := by
      show _ ∧ _
      rw [hzn]; exact ⟨by omega, by omega⟩
    clear hv hf
    by_cases hv0 : f.val = []
    all_goals
      first
        | (have HLN := Lib.hid (line_none f hv0); have HGS : Hid (foldF f = [] ++ foldL (lineF f) (f.name.length + 1 + 1)) := HSH.out hv0; have HK : Hid (((f.name.length + 1 : Nat) : Int) = ((str f.name).size : Int) + 1) := HFI.out.1; have hki : f.name.length + 1 ≤ 99 ∧ 1 ≤ f.name.length + 1 := by omega
           generalize f.name.length + 1 = ki at *; have he := empty_t (s := str f.val) (by rw [hzv, hv0]; rfl))
        | (have HLN := Lib.hid (line_val2 f hv0); have HGS : Hid (foldF f = [] ++ foldL (lineF f) (f.name.length + 2 + 1)) := HG0.out; have HK : Hid (((f.name.length + 2 : Nat) : Int) = ((str f.name).size : Int) + 1 + 1) := HFI.out.2; have hki : f.name.length + 2 ≤ 99 ∧ 1 ≤ f.name.length + 2 := by omega
           generalize f.name.length + 2 = ki at *; have he := empty_f (s := str f.val) (by rw [hzv]; exact List.length_pos_iff.2 hv0))
    all_goals
      have hzn1 : (str f.name).size ≤ 30 := by omega
      have hzv1 : (str f.val).size ≤ 150 := by omega
      clear hv0 hzn hzv hvl
      generalize hln : lineF f = ln at *
      have HLN2 := Lib.hid hln
      clear hln hnl HSH HG0 HFI
      generalize str f.name = n at *
      generalize str f.val = v at *
      have hsz1 : (ByteArray.mk #[58]).size = 1 := rfl
      have hsz2 : (ByteArray.mk #[32]).size = 1 := rfl
      have hA1 : (n ++ ⟨#[58]⟩ : ByteArray).size ≤ 40 := by rw [ByteArray.size_append]; omega
      go_enter Tryz.func83, Tryz.ntmps83
      go_wp2_with fail
      refine (HFV.out _ HF.out).mono ?_
      rintro e w1 ⟨rfl, hb1⟩
      rw [HV.out]
      have hbw := nx hb00 hb1
      have hownw := hown0.keep hb1
      obtain ⟨hcB, hfB⟩ := bcell hb1
      go_wp2_with fail
      go_loopw [3, 4, 5] (fun r s q wr => ∃ (acc : List (List UInt8)) (l : List UInt8) (k : Nat), s = .string (str l) ∧ q = .int .i64 k ∧ OwnL w.heap.size r acc wr ∧ foldF f = acc ++ foldL l (k + 1) ∧ 1 ≤ k ∧ k ≤ 99 ∧ l.length ≤ 182 ∧ acc.length + l.length ≤ 182 ∧ Below w.heap.size w wr) (fun _ s _ _ => Lib.strSize s)
      case atStart => exact ⟨[], ln, ki, by rw [← HLN.out], by rw [HK.out], hownw, HGS.out, hki.2, hki.1, hll, by simp; omega, hbw⟩
      case round =>
        obtain ⟨acc, l, k, rfl, rfl, hown, hg, hk1, hk2, hl1, hl2, hb⟩ := hrel
        have HG := Lib.hid hg
        have hown1 := hown
        unfold OwnL at hown1
        have hbs := hb.size
        have hlz := str_size l
        have HLI := Lib.hid (str_list l)
        have HSS : Hid (Lib.strSize (.string (str l)) = l.length) := by show Lib.strSize _ = _; rw [Lib.strSize_string, hlz]
        clear hg
        by_cases h40 : 40 < l.length
        · have h40' : 40 < (str l).size := by omega
          cases hbk : brk l (k + 1) with
          | none =>
            have HE : Hid (foldF f = acc ++ [(str l).data.toList]) := by show _ = _; rw [HG.out, str_list, foldL_stop hbk]
            have HB : Hid (brk (str l).data.toList (k + 1) = none) := by show _ = _; rw [str_list]; exact hbk
            clear hbk
            generalize str l = px at *
            go_wp2_with fail
            refine (l3Break_any px k _ (by omega) hk1 (by omega)).mono ?_
            rintro e w2 ⟨rfl, rfl⟩
            rw [HB.out, idxI_none]
            go_wp2_with (at_builtin; refine wpList_append_own _ rfl _ _ 23 rfl w.heap.size 9 i0 (.string ⟨#[]⟩) 1 16 Tryz.underlying23 hi hz0 hz1 hz2 rfl (by decide) _ _ _ rfl (World.ownsRow.alloc hown1 _) ⟨wr.heap.size, 0, none⟩ 1 1 [.string px] rfl rfl ?q1 ?q2 ?q3 ?q4 ?q5 ?_)
            case q1 =>
              intro u v hj
              match u, hj with
              | 0, hj => simp at hj; subst hj; simp [Addr.add]
            case q2 => intro u hu; simp at hu; subst hu; rfl
            case q3 => unfold maxLen; omega
            case q4 => omega
            case q5 => simp; omega
            intro v' w3 hown' hgrow _
            have hO3 := own_snoc hown'
            have hb3 : Below w.heap.size wr w3 := ((Below.refl _ _).alloc (by omega) _).grown hgrow (by simp; omega) (fun k hk => (World.ownsRow.lt hown1 k hk).1)
            go_wp2
            go_ret
            exact ⟨v', rfl, by rw [HE.out]; exact hO3, hb.trans hb3⟩
          | some a =>
            obtain ⟨ha1, ha2, _, _⟩ := brk_some hbk
            have HE : Hid (foldF f = (acc ++ [((str l).extract 0 a).data.toList]) ++ foldL (l.drop a) 2) := by show _ = _; rw [HG.out, foldL_cut h40 (by omega) hbk, ext_tk, str_list]; simp
            have HB : Hid (brk (str l).data.toList (k + 1) = some a) := by show _ = _; rw [str_list]; exact hbk
            have HX : Hid ((str l).extract a l.length = str (l.drop a)) := by show _ = _; rw [← ext_dr l a, hlz]
            have ha3 : a ≤ (str l).size := by omega
            have ha4 : a ≤ 182 := by omega
            have hdl : (l.drop a).length + a = l.length := by rw [List.length_drop]; omega
            have HDL := Lib.hid hdl
            clear hbk hdl
            generalize hpx : str l = px at *
            have HPX := Lib.hid hpx
            clear hpx
            go_wp2_with fail
            refine (l3Break_any px k _ (by omega) hk1 (by omega)).mono ?_
            rintro e w2 ⟨rfl, rfl⟩
            rw [HB.out, idxI_some]
            go_wp2_with (at_builtin; refine wpList_append_own _ rfl _ _ 23 rfl w.heap.size 9 i0 (.string ⟨#[]⟩) 1 16 Tryz.underlying23 hi hz0 hz1 hz2 rfl (by decide) _ _ _ rfl (World.ownsRow.alloc hown1 _) ⟨wr.heap.size, 0, none⟩ 1 1 [.string (px.extract 0 a)] rfl rfl ?c1 ?c2 ?c3 ?c4 ?c5 ?_)
            case c1 =>
              intro u v hj
              match u, hj with
              | 0, hj => simp at hj; subst hj; simp [Addr.add]
            case c2 => intro u hu; simp at hu; subst hu; rfl
            case c3 => unfold maxLen; omega
            case c4 => omega
            case c5 => simp; omega
            intro v' w3 hown' hgrow _
            have hO3 := own_snoc hown'
            have hb3 : Below w.heap.size wr w3 := ((Below.refl _ _).alloc (by omega) _).grown hgrow (by simp; omega) (fun k hk => (World.ownsRow.lt hown1 k hk).1)
            go_wp2
            go_roundw
            case rel => exact ⟨_, l.drop a, 1, by rw [← HX.out], rfl, hO3, HE.out, by omega, by omega, by have := HDL.out; omega, by have := HDL.out; simp only [List.length_append, List.length_singleton]; omega, hb.trans hb3⟩
            case measure =>
              show Lib.strSize _ < Lib.strSize _
              rw [HX.out, Lib.strSize_string, Lib.strSize_string, str_size, hlz]
              have := HDL.out; omega
        · have h40' : ¬ 40 < (str l).size := by omega
          have HE : Hid (foldF f = acc ++ [(str l).data.toList]) := by show _ = _; rw [HG.out, str_list, foldL_short (by omega)]
          generalize str l = px at *
          go_wp2_with (at_builtin; refine wpList_append_own _ rfl _ _ 23 rfl w.heap.size 9 i0 (.string ⟨#[]⟩) 1 16 Tryz.underlying23 hi hz0 hz1 hz2 rfl (by decide) _ _ _ rfl (World.ownsRow.alloc hown1 _) ⟨wr.heap.size, 0, none⟩ 1 1 [.string px] rfl rfl ?r1 ?r2 ?r3 ?r4 ?r5 ?_)
          case r1 =>
            intro u v hj
            match u, hj with
            | 0, hj => simp at hj; subst hj; simp [Addr.add]
          case r2 => intro u hu; simp at hu; subst hu; rfl
          case r3 => unfold maxLen; omega
          case r4 => omega
          case r5 => simp; omega
          intro v' w3 hown' hgrow _
          have hO3 := own_snoc hown'
          have hb3 : Below w.heap.size wr w3 := ((Below.refl _ _).alloc (by omega) _).grown hgrow (by simp; omega) (fun k hk => (World.ownsRow.lt hown1 k hk).1)
          go_wp2
          go_ret
          exact ⟨v', rfl, by rw [HE.out]; exact hO3, hb.trans hb3⟩
end Go.Proofs.YtcdmjckkencgoaaGreatDoor
end

section
namespace Go.Proofs.YtcdmjckkencgoaaGreatDoor
open Go.RowKit

def FoldRet (xs : List Fld) (w : World) (e : Ending) (w' : World) : Prop := ∃ v, e = .returned (.tuple #[v, .bool (fldsOk xs)]) ∧ OwnL w.heap.size v (foldFs xs) w' ∧ Below w.heap.size w w'
theorem foldRet_none {xs : List Fld} {w w' : World} {v : Value} (h : fldsOk xs = false) (ho : OwnL w.heap.size v [] w') (hb : Below w.heap.size w w') : FoldRet xs w (.returned (.tuple #[v, .bool false])) w' :=
  ⟨v, by rw [h], by unfold foldFs; rw [if_neg (by simp [h])]; exact ho, hb⟩
theorem foldRet_some {xs : List Fld} {w w' : World} {v : Value} (h : fldsOk xs = true) (ho : OwnL w.heap.size v (foldFs xs) w') (hb : Below w.heap.size w w') : FoldRet xs w (.returned (.tuple #[v, .bool true])) w' :=
  ⟨v, by rw [h], ho, hb⟩
set_option maxRecDepth 100000 in
set_option maxHeartbeats 1000000 in
theorem foldFields_any (a : Option Addr) (n c : Nat) (xs : List Fld) (w : World) (hr : RdF w a n xs) (hn : n ≤ 1073741824) (hx : ∀ x ∈ xs, SmallF 1073741000 x) :
    Calls Tryz.prog 58 #[.slice a n c] w (FoldRet xs w) := by
  have HX := Lib.hid hx
  have HR := Lib.hid hr
  cases hok : fldsOk xs
  · have HV := Lib.hid hok
    clear hok hx
    go_enter Tryz.func58, Tryz.ntmps58
    go_wp2_with fail
    refine (fieldsValid_any a n c xs _ hr hn HX.out).mono ?_
    rintro e w1 ⟨rfl, hb1⟩
    rw [HV.out]
    go_wp2
    go_ret2
    exact foldRet_none HV.out (OwnL.nil _ _) hb1
  · have hall := (fldsOk_iff.1 hok).1
    have hl20 := (fldsOk_iff.1 hok).2
    have HV := Lib.hid hok
    have HALL := Lib.hid hall
    have hn20 : n ≤ 20 := by have := hr.1; omega
    have HLEN := Lib.hid hr.1
    clear hok hall hx
    go_enter Tryz.func58, Tryz.ntmps58
    go_wp2_with fail
    refine (fieldsValid_any a n c xs _ hr hn HX.out).mono ?_
    rintro e w1 ⟨rfl, hb1⟩
    rw [HV.out]
    have hB1 := hb1
    clear hr hl20
    go_wp2_with fail
    go_loopw [4, 12] (fun v i wr => ∃ (k : Nat) (acc : List (List UInt8)), k ≤ n ∧ i = .int .i64 k ∧ acc.length ≤ 183 * k ∧ (xs.take k).flatMap foldF = acc ∧ OwnL w.heap.size v acc wr ∧ Below w.heap.size w wr) (fun _ i _ => n - (intOf i).toNat)
    case atStart => exact ⟨0, [], Nat.zero_le _, rfl, Nat.zero_le _, rfl, OwnL.nil _ _, hB1⟩
    case round =>
      obtain ⟨k, acc, hk, rfl, hal, hacc, hown, hb⟩ := hrel
      have HACC := Lib.hid hacc
      clear hacc
      by_cases hlt : k < n
      · have hkx : k < xs.length := by rw [HLEN.out]; exact hlt
        obtain ⟨b, off, rfl, hbl, hcell⟩ := HR.out.2.resolve_left (by omega)
        obtain ⟨q0, q1⟩ := RdR.fld hcell hkx
        rw [← below_at hb hbl] at q0 q1
        have HSM := Lib.hid (HX.out _ (List.getElem_mem hkx))
        have HST : Hid ((xs.take (k + 1)).flatMap foldF = acc ++ foldF xs[k]) := by show _ = _; rw [List.take_succ_eq_append_getElem hkx, List.flatMap_append, HACC.out]; simp
        have hfl := (foldF_len xs[k]).1
        have HFC := Lib.hid (foldField_any xs[k])
        clear hcell
        generalize foldF xs[k] = fs at *
        generalize str xs[k].name = s0 at *
        generalize str xs[k].val = s1 at *
        have HOWN := Lib.hid hown
        clear hown
        have hbA : Below wr.heap.size wr (wr.alloc (.cells #[.string s0, .string s1] 78)) := (Below.refl _ _).alloc (Nat.le_refl _) _
        go_wp2_with fail
        refine (HFC.out _ HSM.out).mono ?_
        rintro e w2 ⟨v2, rfl, ho2, hb2⟩
        have hO2 := HOWN.out.keep (nx hbA hb2)
        have hB2 := nx hb (nx hbA hb2)
        have hsz := hB2.size
        go_wp2_with (at_builtin; refine wpList_append_LL rfl _ _ rfl w.heap.size _ _ _ acc fs rfl rfl hO2 ho2 hsz (by omega) ?_)
        intro v' w3 ho3 hb3
        go_wp2
        go_roundw
        case rel => exact ⟨k + 1, _, by omega, by go_num, by rw [List.length_append]; omega, HST.out, ho3, hB2.trans hb3⟩
        case measure => simp [intOf]; omega
      · have HE : Hid (foldFs xs = acc) := by
          show _ = _
          rw [← HACC.out, List.take_of_length_le (by rw [HLEN.out]; omega), foldAll_map HALL.out]
          unfold foldFs; rw [if_pos HV.out]
        go_wp2
        go_ret2
        exact foldRet_some HV.out (by rw [HE.out]; exact hown) hb
set_option maxRecDepth 100000 in
set_option maxHeartbeats 1000000 in
theorem foldFieldsS_any (a : Option Addr) (n c : Nat) (xs : List Fld) (w : World) (hr : RdF w a n xs) (hn : n ≤ 1073741824) (hx : ∀ x ∈ xs, SmallF 1073741000 x) :
    Calls Tryz.prog 54 #[.slice a n c] w (FoldRet xs w) := by
  have HX := Lib.hid hx
  have HR := Lib.hid hr
  have hb00 : Below w.heap.size w (w.alloc (.cells #[] 9)) := (Below.refl _ _).alloc (Nat.le_refl _) _
  have HOW : Hid (OwnL w.heap.size (.slice (some ⟨w.heap.size, 0, none⟩) 0 0) [] (w.alloc (.cells #[] 9))) := OwnL.empty _
  cases hok : fldsOk xs
  · have HV := Lib.hid hok
    clear hok hx
    go_enter Tryz.func54, Tryz.ntmps54
    go_wp2_with fail
    refine (l3Valid_any a n c xs _ (hr.below hb00) hn HX.out).mono ?_
    rintro e w1 ⟨rfl, hb1⟩
    rw [HV.out]
    go_wp2
    go_ret2
    exact foldRet_none HV.out (HOW.out.keep hb1) (nx hb00 hb1)
  · have hall := (fldsOk_iff.1 hok).1
    have hl20 := (fldsOk_iff.1 hok).2
    have HV := Lib.hid hok
    have HALL := Lib.hid hall
    have hn20 : n ≤ 20 := by have := hr.1; omega
    have HLEN := Lib.hid hr.1
    clear hok hall hx
    go_enter Tryz.func54, Tryz.ntmps54
    go_wp2_with fail
    refine (l3Valid_any a n c xs _ (hr.below hb00) hn HX.out).mono ?_
    rintro e w1 ⟨rfl, hb1⟩
    rw [HV.out]
    have hB1 := (nx hb00 hb1)
    clear hr hl20
    go_wp2_with fail
    go_loopw [4, 5] (fun v i wr => ∃ (k : Nat) (acc : List (List UInt8)), k ≤ n ∧ i = .int .i64 k ∧ acc.length ≤ 183 * k ∧ (xs.take k).flatMap foldF = acc ∧ OwnL w.heap.size v acc wr ∧ Below w.heap.size w wr) (fun _ i _ => n - (intOf i).toNat)
    case atStart => exact ⟨0, [], Nat.zero_le _, rfl, Nat.zero_le _, rfl, HOW.out.keep hb1, hB1⟩
    case round =>
      obtain ⟨k, acc, hk, rfl, hal, hacc, hown, hb⟩ := hrel
      have HACC := Lib.hid hacc
      clear hacc
      by_cases hlt : k < n
      · have hkx : k < xs.length := by rw [HLEN.out]; exact hlt
        obtain ⟨b, off, rfl, hbl, hcell⟩ := HR.out.2.resolve_left (by omega)
        obtain ⟨q0, q1⟩ := RdR.fld hcell hkx
        rw [← below_at hb hbl] at q0 q1
        have HSM := Lib.hid (HX.out _ (List.getElem_mem hkx))
        have HST : Hid ((xs.take (k + 1)).flatMap foldF = acc ++ foldF xs[k]) := by show _ = _; rw [List.take_succ_eq_append_getElem hkx, List.flatMap_append, HACC.out]; simp
        have hfl := (foldF_len xs[k]).1
        have HFC := Lib.hid (foldFieldS_any xs[k])
        clear hcell
        generalize foldF xs[k] = fs at *
        generalize str xs[k].name = s0 at *
        generalize str xs[k].val = s1 at *
        have HOWN := Lib.hid hown
        clear hown
        go_wp2_with fail
        refine (HFC.out _ HSM.out).mono ?_
        rintro e w2 ⟨v2, rfl, ho2, hb2⟩
        have hO2 := HOWN.out.keep hb2
        have hB2 := nx hb hb2
        have hsz := hB2.size
        go_wp2_with (at_builtin; refine wpList_append_LL rfl _ _ rfl w.heap.size _ _ _ acc fs rfl rfl hO2 ho2 hsz (by omega) ?_)
        intro v' w3 ho3 hb3
        go_wp2
        go_roundw
        case rel => exact ⟨k + 1, _, by omega, by go_num, by rw [List.length_append]; omega, HST.out, ho3, hB2.trans hb3⟩
        case measure => simp [intOf]; omega
      · have HE : Hid (foldFs xs = acc) := by
          show _ = _
          rw [← HACC.out, List.take_of_length_le (by rw [HLEN.out]; omega), foldAll_map HALL.out]
          unfold foldFs; rw [if_pos HV.out]
        go_wp2
        go_ret2
        exact foldRet_some HV.out (by rw [HE.out]; exact hown) hb
end Go.Proofs.YtcdmjckkencgoaaGreatDoor
end

section
namespace Go.Proofs.YtcdmjckkencgoaaGreatDoor
open Go.RowKit

theorem linesRet_noneE {o : Option (List (List UInt8))} {w w' : World} (h : o = none) (hb : Below w.heap.size w w') : LinesRet o w (.returned (.tuple #[.slice (some ⟨w'.heap.size, 0, none⟩) 0 0, .bool false])) (w'.alloc (.cells #[] 9)) := by
  subst h; exact ⟨_, rfl, (OwnL.empty w').base hb.size, hb.alloc hb.size _⟩
theorem linesRet_noneO {o : Option (List (List UInt8))} {w w' : World} {v : Value} (h : o = none) (ho : OwnL w.heap.size v [] w') (hb : Below w.heap.size w w') : LinesRet o w (.returned (.tuple #[v, .bool false])) w' := by
  subst h; exact ⟨v, rfl, ho, hb⟩
set_option maxRecDepth 100000 in
set_option maxHeartbeats 4000000 in
theorem joinPartsS_any (a : Option Addr) (n c : Nat) (ps : List (List (List UInt8))) (s : ByteArray) (w : World) (hr : RdSS w a n ps) (hn : n ≤ 1048576) (hps : sumP ps ≤ 4000000) (hs : s.size ≤ 1073741824) :
    Calls Tryz.prog 56 #[.slice a n c, .string s] w (LinesRet (joinP ps s.data.toList) w) := by
  obtain ⟨hl, hr2⟩ := hr
  have HLEN := Lib.hid hl
  have HR := Lib.hid hr2
  have hbA : Below w.heap.size w (w.alloc (.cells #[] 9)) := (Below.refl _ _).alloc (Nat.le_refl _) _
  have HE : Hid (OwnL w.heap.size (.slice (some ⟨w.heap.size, 0, none⟩) 0 0) [] (w.alloc (.cells #[] 9))) := OwnL.empty w
  clear hl hr2
  cases hv : isBnd s.data.toList
  · have HP := Lib.hid (joinP_no (ps := ps) hv)
    have HV := Lib.hid hv
    clear hv
    go_enter Tryz.func56, Tryz.ntmps56
    go_wp2_with fail
    refine (l7Boundary_any s _ hs).mono ?_
    rintro e w1 ⟨rfl, rfl⟩
    rw [HV.out]
    go_wp2
    go_ret2
    exact linesRet_noneO HP.out HE.out hbA
  · have hz := bnd_size hv
    have HV := Lib.hid hv
    by_cases h0 : n = 0
    · have HP : Hid (joinP ps s.data.toList = none) := by show _ = _; rw [List.length_eq_zero_iff.1 (HLEN.out.trans h0), joinP_nil]
      subst h0
      clear hv hz
      go_enter Tryz.func56, Tryz.ntmps56
      go_wp2_with fail
      refine (l7Boundary_any s _ hs).mono ?_
      rintro e w1 ⟨rfl, rfl⟩
      rw [HV.out]
      go_wp2
      go_ret2
      exact linesRet_noneO HP.out HE.out hbA
    have HPN : Hid (ps ≠ []) := by show _ ≠ _; intro e; exact h0 (by rw [← HLEN.out, e]; rfl)
    have e0 : ((n : Int) == 0) = false := by rw [beq_eq_false_iff_ne]; omega
    have HS4 := Lib.hid hps
    have HB := Lib.hid (beg_str s)
    have HB2 : Hid ((⟨#[45, 45]⟩ : ByteArray) ++ s ++ ⟨#[45, 45]⟩ = str (endL s.data.toList)) := by show _ = _; rw [HB.out]; exact end_str s
    have HBL : Hid (((⟨#[45, 45]⟩ : ByteArray) ++ s).data.toList = begL s.data.toList) := by show _ = _; rw [HB.out, str_list]
    have HBL2 : Hid (((⟨#[45, 45]⟩ : ByteArray) ++ s ++ ⟨#[45, 45]⟩).data.toList = endL s.data.toList) := by show _ = _; rw [HB2.out, str_list]
    have z2 : (⟨#[45, 45]⟩ : ByteArray).size = 2 := rfl
    obtain ⟨b, off, rfl, hbl, hcell⟩ := HR.out.resolve_left h0
    have HC := Lib.hid hcell
    have hs6 : s.size ≤ 1000000 := by omega
    clear hv hps hcell h0
    go_enter Tryz.func56, Tryz.ntmps56
    go_wp2_with fail
    refine (l7Boundary_any s _ hs).mono ?_
    rintro e w1 ⟨rfl, rfl⟩
    rw [HV.out]
    go_wp2_with fail
    go_loopw [6, 7] (fun v i wr => ∃ (k : Nat), k ≤ n ∧ i = .int .i64 k ∧ (∀ j, j < k → (hj : j < ps.length) → freeB s.data.toList ps[j] = true) ∧ OwnL w.heap.size v (partsL s.data.toList (ps.take k)) wr ∧ Below w.heap.size w wr) (fun _ i _ => n - (intOf i).toNat)
    case atStart => exact ⟨0, Nat.zero_le _, rfl, (fun j hj => by omega), HE.out, hbA⟩
    case round =>
      obtain ⟨k, hk, rfl, hall, ho, hb⟩ := hrel
      have HALL := Lib.hid hall
      have HO := Lib.hid ho
      have hbs := hb.size
      have hpl := partsL_len s.data.toList (ps.take k)
      have hpt := sumP_take ps k
      have hs4 := HS4.out
      have hlen4 : (partsL s.data.toList (ps.take k)).length ≤ 4000000 := by omega
      clear hall hpl hpt hs4 ho
      by_cases hlt : k < n
      · have hkx : k < ps.length := by rw [HLEN.out]; exact hlt
        obtain ⟨a5, c5, q0, hd5, hac5, hnc5⟩ := HC.out k hkx
        have HQ0 := Lib.hid q0
        rw [← below_at hb hbl] at q0
        have hpk : ps[k].length ≤ 4000000 := by have := sumP_mem (List.getElem_mem hkx); have := HS4.out; omega
        have HSU := Lib.hid (partsL_succ s.data.toList ps k hkx)
        have HPT : Hid ((partsL s.data.toList (ps.take k)).length + 1 + ps[k].length ≤ 4000000) := by
          have h1 := partsL_len s.data.toList (ps.take (k + 1))
          have h2 := sumP_take ps (k + 1)
          have h3 := HS4.out
          show _ ≤ _
          rw [HSU.out, List.length_append, List.length_append, List.length_singleton] at h1
          omega
        have HD5 := Lib.hid hd5
        have hps1 := HPT.out
        obtain ⟨P, hP⟩ : ∃ P, P = partsL s.data.toList (ps.take k) := ⟨_, rfl⟩
        have HPP := Lib.hid hP
        rw [← hP] at HO hlen4 hps1
        obtain ⟨p, hp⟩ : ∃ p, p = ps[k] := ⟨_, rfl⟩
        have HPK := Lib.hid hp
        rw [← hp] at hpk hps1 q0 HQ0 hnc5 HD5
        clear hd5 hac5 hP hp
        obtain ⟨a6, c6, rfl, _, _, _, hnc6⟩ := HO.out.readc
        have HA : Hid (OwnL w.heap.size (.slice a6 P.length c6) P (wr.alloc (.cells #[.string ((⟨#[45, 45]⟩ : ByteArray) ++ s)] 9))) := HO.out.keep ((Below.refl _ _).alloc (Nat.le_refl _) _)
        go_wp2_with (at_builtin; refine wpList_append_1L rfl _ _ rfl w.heap.size _ P ((⟨#[45, 45]⟩ : ByteArray) ++ s) wr.heap.size rfl rfl (by rw [World.cell?_alloc_at _ _ _ _ rfl]; rfl) HA.out ?c2 ?c3 ?_)
        case c2 => first | omega | (simp; omega)
        case c3 => omega
        intro v4 w4 hO4 hgr4 _
        have hb4 : Below w.heap.size w w4 := (hb.alloc hbs _).grown hgr4 (by simp; omega) (fun g hg => (HA.out.lt g hg).1)
        have HO4 : Hid (OwnL w.heap.size v4 (P ++ [begL s.data.toList]) w4) := by show OwnL _ _ _ _; rw [← HBL.out]; exact hO4
        clear hO4 hgr4
        go_wp2_with fail
        obtain ⟨wo, rfl⟩ : ∃ wo : World, wo = wr := ⟨_, rfl⟩
        go_loopw [6, 8] (fun v i wq => ∃ (j : Nat), j ≤ p.length ∧ i = .int .i64 j ∧ (∀ t, t < j → (ht : t < p.length) → looksB s.data.toList p[t] = false) ∧ OwnL w.heap.size v (P ++ [begL s.data.toList] ++ p.take j) wq ∧ Below w.heap.size w wq) (fun _ i _ => p.length - (intOf i).toNat)
        case atStart => exact ⟨0, Nat.zero_le _, rfl, (fun t ht => by omega), by rw [List.take_zero, List.append_nil]; exact HO4.out, hb4⟩
        case round =>
          obtain ⟨j, hj, rfl, hfr, ho, hb⟩ := hrel
          have HFR := Lib.hid hfr
          have HO5 := Lib.hid ho
          have hbs5 := hb.size
          clear hfr ho q0
          have q0 : wr.cell? ⟨b, off + k, none⟩ = some (.slice a5 p.length c5) := by rw [below_at hb hbl]; exact HQ0.out
          obtain ⟨P2, hP2⟩ : ∃ P2, P2 = P ++ [begL s.data.toList] ++ p.take j := ⟨_, rfl⟩
          have hP2l : P2.length ≤ 4000000 := by rw [hP2, List.length_append, List.length_append, List.length_singleton, List.length_take]; omega
          have HP2 := Lib.hid hP2
          rw [← hP2] at HO5
          clear hP2
          obtain ⟨a7, c7, rfl, _, _, _, hnc7⟩ := HO5.out.readc
          by_cases hjl : j < p.length
          · obtain ⟨b2, off2, ha5, hbl2, hc2⟩ := HD5.out.2.resolve_left (by omega)
            subst ha5
            have q1 : wr.cell? ⟨b2, off2 + j, none⟩ = some (.string (str p[j])) := by rw [below_at hb hbl2]; exact hc2 j hjl
            have HTK := Lib.hid (List.take_succ_eq_append_getElem hjl)
            have HFB : Hid (looksB s.data.toList p[j] = true → freeB s.data.toList p = false) := fun h => freeB_f hjl h
            obtain ⟨x, hx⟩ : ∃ x, x = p[j] := ⟨_, rfl⟩
            have HX := Lib.hid hx
            rw [← hx] at q1 HTK HFB
            clear hc2 hx
            cases hlo : looksB s.data.toList x
            · have HLO := Lib.hid hlo
              have HLC : Hid (∀ u, Calls Tryz.prog 82 #[.string (str x), .string s] u fun e w' => e = .returned (.bool false) ∧ u = w') := fun u => by have := l7Looks_any x s u hs6; rw [hlo] at this; exact this
              have HXS : Hid ((str x).data.toList = x) := str_list x
              clear hlo
              obtain ⟨X, hX⟩ : ∃ X, X = str x := ⟨_, rfl⟩
              rw [← hX] at q1 HLC HXS
              clear hX
              go_wp2_with fail
              refine (HLC.out _).mono ?_
              rintro e w5 ⟨rfl, rfl⟩
              have HA5 : Hid (OwnL w.heap.size (.slice a7 P2.length c7) P2 (wr.alloc (.cells #[.string X] 9))) := HO5.out.keep ((Below.refl _ _).alloc (Nat.le_refl _) _)
              go_wp2_with (at_builtin; refine wpList_append_1L rfl _ _ rfl w.heap.size _ P2 X wr.heap.size rfl rfl (by rw [World.cell?_alloc_at _ _ _ _ rfl]; rfl) HA5.out ?c2 ?c3 ?_)
              case c2 => first | omega | (simp; omega)
              case c3 => omega
              intro v6 w6 hO6 hgr6 _
              have hb6 : Below w.heap.size w w6 := (hb.alloc hbs5 _).grown hgr6 (by simp; omega) (fun g hg => (HA5.out.lt g hg).1)
              have HN : Hid (OwnL w.heap.size v6 (P ++ [begL s.data.toList] ++ p.take (j + 1)) w6) := by
                show OwnL _ _ _ _
                rw [HTK.out, ← List.append_assoc, ← HP2.out, ← HXS.out]; exact hO6
              clear hO6 hgr6
              go_wp2
              go_roundw
              case rel => exact ⟨j + 1, by omega, by go_num, (fun t ht htl => by
                by_cases e : t = j
                · subst e; have := HLO.out; rw [HX.out] at this; exact this
                · exact HFR.out t (by omega) htl), HN.out, hb6⟩
              case measure => simp [intOf]; omega
            · have HP : Hid (joinP ps s.data.toList = none) := by
                have h1 := HFB.out hlo
                rw [HPK.out] at h1
                exact joinP_bad (okParts_bad hkx h1)
              have HLC : Hid (∀ u, Calls Tryz.prog 82 #[.string (str x), .string s] u fun e w' => e = .returned (.bool true) ∧ u = w') := fun u => by have := l7Looks_any x s u hs6; rw [hlo] at this; exact this
              clear hlo
              obtain ⟨X, hX⟩ : ∃ X, X = str x := ⟨_, rfl⟩
              rw [← hX] at q1 HLC
              clear hX
              go_wp2_with fail
              refine (HLC.out _).mono ?_
              rintro e w5 ⟨rfl, rfl⟩
              go_wp2
              go_ret2
              exact linesRet_noneE HP.out hb
          · have hjp : j = p.length := by omega
            have HN : Hid (P2 = partsL s.data.toList (ps.take (k + 1))) := by
              show _ = _
              rw [HP2.out, HSU.out, ← HPP.out, ← HPK.out, hjp, List.take_length]
            have HFK : Hid (freeB s.data.toList p = true) := freeB_t (fun t ht => HFR.out t (by omega) ht)
            clear hjp
            go_wp2
            go_roundw
            case rel => exact ⟨k + 1, by omega, by go_num, (fun t ht htl => by
              by_cases e : t = k
              · subst e; rw [← HPK.out]; exact HFK.out
              · exact HALL.out t (by omega) htl), by rw [← HN.out]; exact HO5.out, hb⟩
            case measure => simp [intOf]; omega
      · have hkn : k = ps.length := by rw [HLEN.out]; omega
        have HT : Hid (ps.take k = ps) := by show _ = _; rw [hkn, List.take_length]
        rw [HT.out] at HO hlen4
        have HP : Hid (joinP ps s.data.toList = some (partsL s.data.toList ps ++ [endL s.data.toList])) := by
          show _ = _
          exact joinP_yes HV.out HPN.out (okParts_good fun j hj => HALL.out j (by omega) hj)
        clear hkn
        obtain ⟨P, hP⟩ : ∃ P, P = partsL s.data.toList ps := ⟨_, rfl⟩
        rw [← hP] at HO hlen4 HP
        clear hP
        obtain ⟨a6, c6, rfl, _, _, _, hnc6⟩ := HO.out.readc
        have HA : Hid (OwnL w.heap.size (.slice a6 P.length c6) P (wr.alloc (.cells #[.string ((⟨#[45, 45]⟩ : ByteArray) ++ s ++ ⟨#[45, 45]⟩)] 9))) := HO.out.keep ((Below.refl _ _).alloc (Nat.le_refl _) _)
        go_wp2_with (at_builtin; refine wpList_append_1L rfl _ _ rfl w.heap.size _ P ((⟨#[45, 45]⟩ : ByteArray) ++ s ++ ⟨#[45, 45]⟩) wr.heap.size rfl rfl (by rw [World.cell?_alloc_at _ _ _ _ rfl]; rfl) HA.out ?c2 ?c3 ?_)
        case c2 => first | omega | (simp; omega)
        case c3 => omega
        intro v4 w4 hO4 hgr4 _
        have hb4 : Below w.heap.size w w4 := (hb.alloc hbs _).grown hgr4 (by simp; omega) (fun g hg => (HA.out.lt g hg).1)
        go_wp2
        go_ret2
        exact linesRet_some HP.out (by rw [← HBL2.out]; exact hO4) hb4
end Go.Proofs.YtcdmjckkencgoaaGreatDoor
end

section
namespace Go.Proofs.YtcdmjckkencgoaaGreatDoor
open Go.RowKit

theorem PartsRet.none' {w : World} {e : Ending} {w' : World} (h : PartsRet none w e w') : ∃ a c, e = .returned (.tuple #[.slice a 0 c, .bool false]) ∧ Below w.heap.size w w' := by
  obtain ⟨v, us, rfl, ho, hb⟩ := h
  obtain ⟨a, c, rfl, _⟩ := ho.read
  exact ⟨a, c, rfl, hb⟩
theorem PartsRet.some' {ps : List (List (List UInt8))} {w : World} {e : Ending} {w' : World} (h : PartsRet (some ps) w e w') : ∃ a c us, e = .returned (.tuple #[.slice a ps.length c, .bool true]) ∧ OwnSS w.heap.size (.slice a ps.length c) us ps w' ∧ RdSS w' a ps.length ps ∧ Below w.heap.size w w' := by
  obtain ⟨v, us, rfl, ho, hb⟩ := h
  have ho : OwnSS w.heap.size v us ps w' := ho
  obtain ⟨a, c, rfl, hr, _⟩ := ho.read
  exact ⟨a, c, us, rfl, ho, hr, hb⟩
theorem LinesRet.none' {w : World} {e : Ending} {w' : World} (h : LinesRet none w e w') : ∃ a c, e = .returned (.tuple #[.slice a 0 c, .bool false]) ∧ RdL w' a 0 [] ∧ Below w.heap.size w w' := by
  obtain ⟨v, rfl, ho, hb⟩ := h
  have ho : OwnL w.heap.size v [] w' := ho
  obtain ⟨a, c, rfl, hr, _⟩ := ho.read
  exact ⟨a, c, rfl, hr, hb⟩
theorem LinesRet.some' {ls : List (List UInt8)} {w : World} {e : Ending} {w' : World} (h : LinesRet (some ls) w e w') : ∃ a c, e = .returned (.tuple #[.slice a ls.length c, .bool true]) ∧ OwnL w.heap.size (.slice a ls.length c) ls w' ∧ RdL w' a ls.length ls ∧ Below w.heap.size w w' := by
  obtain ⟨v, rfl, ho, hb⟩ := h
  have ho : OwnL w.heap.size v ls w' := ho
  obtain ⟨a, c, rfl, hr, _⟩ := ho.read
  exact ⟨a, c, rfl, ho, hr, hb⟩
theorem RdSS.cellT {W0 wr : World} {a : Option Addr} {n : Nat} {ps : List (List (List UInt8))} (h : RdSS W0 a n ps) (hb : Below W0.heap.size W0 wr) {k : Nat} (hk : k < ps.length) :
    ∃ b off a' c', a = some ⟨b, off, none⟩ ∧ (∀ y : BelowT wr, y.val.cell? ⟨b, off + k, none⟩ = some (.slice a' ps[k].length c')) ∧ (∀ y : BelowT wr, RdL y.val a' ps[k].length ps[k]) ∧ ps[k].length ≤ c' := by
  obtain ⟨b, off, ha, hbl, hc⟩ := h.2.resolve_left (by have := h.1; omega)
  obtain ⟨a', c', h1, h2, _, h4⟩ := hc k hk
  exact ⟨b, off, a', c', ha, fun y => by rw [below_at (nx hb y.below) hbl, h1], fun y => h2.below (nx hb y.below), h4⟩
theorem RdSS.cellW {W0 wr : World} {a : Option Addr} {n : Nat} {ps : List (List (List UInt8))} (h : RdSS W0 a n ps) (hb : Below W0.heap.size W0 wr) {k : Nat} (hk : k < ps.length) :
    ∃ b off a' c', a = some ⟨b, off, none⟩ ∧ wr.cell? ⟨b, off + k, none⟩ = some (.slice a' ps[k].length c') ∧ RdL wr a' ps[k].length ps[k] ∧ ps[k].length ≤ c' := by
  obtain ⟨b, off, a', c', ha, h1, h2, h3⟩ := h.cellT hb hk
  exact ⟨b, off, a', c', ha, h1 ⟨wr, Below.refl _ _⟩, h2 ⟨wr, Below.refl _ _⟩, h3⟩
end Go.Proofs.YtcdmjckkencgoaaGreatDoor
end

section
namespace Go.Proofs.YtcdmjckkencgoaaGreatDoor
open Go.RowKit

set_option maxRecDepth 100000 in
set_option maxHeartbeats 1000000 in
theorem boundaryOfFields_any (a : Option Addr) (n c : Nat) (fs : List Fld) (w : World) (tab : Tab w) (hr : RdF w a n fs) (hn : n ≤ 1048576) (hx : ∀ x ∈ fs, SmallF 1048576 x) :
    Calls Tryz.prog 65 #[.slice a n c] w (BndRet (bndF fs) w) := by
  have HG := Lib.hid (getField_any a n c fs ⟨#[67, 111, 110, 116, 101, 110, 116, 45, 84, 121, 112, 101]⟩ w hr (by omega) (fun x h => (hx x h).up (by omega)) (by decide))
  unfold GetRet at HG
  have hgl : (str (getR fs typeL)).size ≤ 1048576 := by rw [str_size]; exact getR_len hx
  have HP : Hid (∀ u, Below w.heap.size w u → Calls Tryz.prog 96 #[.string (str (getR fs typeL))] u (PKL (parseK (getR fs typeL)) u)) := fun u h => by
    have := parseKind_k (str (getR fs typeL)) u (tab.below h) (by omega)
    rw [str_list] at this; exact this
  have HB : Hid (∀ u b f, Below w.heap.size w u → RdK u (parseKR (getR fs typeL)) b f → Calls Tryz.prog 97 #[.agg #[.string (str (parseKR (getR fs typeL)).main), .string (str (parseKR (getR fs typeL)).sub), .slice b (parseKR (getR fs typeL)).params.length f]] u (BndRet (bndF fs) u)) := fun u b f h k => boundaryOf_k u (tab.below h) k
  have HE : Hid (str (getR fs ((⟨#[67, 111, 110, 116, 101, 110, 116, 45, 84, 121, 112, 101]⟩ : ByteArray).data.toList)) = str (getR fs typeL)) := rfl
  unfold PKL at HP
  have HKE : Hid ((parseK (getR fs typeL)).getD knd0 = parseKR (getR fs typeL)) := rfl
  rw [HKE.out] at HP
  rw [HE.out] at HG
  clear hr hx tab HE HKE
  generalize (getF fs ((⟨#[67, 111, 110, 116, 101, 110, 116, 45, 84, 121, 112, 101]⟩ : ByteArray).data.toList)).isSome = gs at *
  generalize (parseK (getR fs typeL)).isSome = ps at *
  generalize str (getR fs typeL) = GT at *
  generalize parseKR (getR fs typeL) = q at *
  generalize q.params.length = nq at *
  generalize str q.main = MQ at *
  generalize str q.sub = SQ at *
  unfold BndRet at *
  generalize str ((bndF fs).getD []) = BS at *
  generalize (bndF fs).isSome = bs at *
  go_enter Tryz.func65, Tryz.ntmps65
  go_wp2_with fail
  refine HG.out.mono ?_
  rintro e w1 ⟨rfl, hb1⟩
  go_wp2_with fail
  refine (HP.out _ hb1).mono ?_
  rintro e w2 ⟨b2, f2, rfl, hr2, hb2⟩
  have hb12 := nx hb1 hb2
  go_wp2_with fail
  first
    | refine (HB.out _ _ _ hb12 hr2).mono ?_
    | refine (HB.out _ _ _ (nx hb12 ((Below.refl _ _).alloc (Nat.le_refl _) _)) (hr2.below ((Below.refl _ _).alloc (Nat.le_refl _) _))).mono ?_
  rintro e w3 ⟨rfl, hb3⟩
  go_wp2
  go_ret2
  first
    | exact ⟨rfl, nx hb12 hb3⟩
    | exact ⟨rfl, nx (nx hb12 ((Below.refl _ _).alloc (Nat.le_refl _) _)) hb3⟩
end Go.Proofs.YtcdmjckkencgoaaGreatDoor
end

section
namespace Go.Proofs.YtcdmjckkencgoaaGreatDoor
open Go.RowKit

theorem pow5 {d : Nat} (h : d ≤ 3) : 5 ^ d ≤ 125 := Nat.pow_le_pow_right (n := 5) (by omega) h
set_option maxRecDepth 100000 in
set_option maxHeartbeats 1000000 in
theorem bodyValid_any (a : Option Addr) (n c : Nat) (xs : List (List UInt8)) (w : World) (hr : RdL w a n xs) (hn : n ≤ 1048576) (hx : ∀ x ∈ xs, x.length ≤ 1048576) :
    Calls Tryz.prog 90 #[.slice a n c] w fun e w' => e = .returned (.bool (okBody xs)) ∧ Below w.heap.size w w' := by
  have HLEN := Lib.hid hr.1
  have HR := Lib.hid hr.2
  have HX := Lib.hid hx
  clear hr hx
  by_cases h30 : 30 < n
  · have d1 : decide ((30 : Int) < n) = true := by simp; omega
    have HN := Lib.hid (okBody_long (b := xs) (by rw [HLEN.out]; exact h30))
    go_enter Tryz.func90, Tryz.ntmps90
    go_wp2
    go_ret
    exact ⟨ret_bool HN.out.symm, Below.refl _ _⟩
  · have d1 : decide ((30 : Int) < n) = false := by simp; omega
    go_enter Tryz.func90, Tryz.ntmps90
    go_wp2_with fail
    go_loopw [10] (fun i wr => ∃ (k : Nat), k ≤ n ∧ i = .int .i64 k ∧ wr = w ∧ ∀ j, j < k → (hj : j < xs.length) → isText xs[j] = true) (fun i _ => n - (intOf i).toNat)
    case atStart => exact ⟨0, Nat.zero_le _, rfl, rfl, fun j h => by omega⟩
    case round =>
      obtain ⟨k, hk, rfl, rfl, hall⟩ := hrel
      have HA := Lib.hid hall
      clear hall
      by_cases hlt : k < n
      · have hkx : k < xs.length := by rw [HLEN.out]; exact hlt
        obtain ⟨b, off, rfl, hbl, hcell⟩ := HR.out.resolve_left (by omega)
        have q0 := hcell k hkx
        have hz : (str xs[k]).size ≤ 1048576 := by rw [str_size]; exact HX.out _ (List.getElem_mem hkx)
        have HTX : Hid (∀ u : World, Calls Tryz.prog 124 #[.string (str xs[k])] u fun e w' => e = .returned (.bool (isText xs[k])) ∧ u = w') := fun u => by
          have := textValid_any (str xs[k]) u (by unfold maxLen; omega)
          rw [str_list] at this; exact this
        have HBAD : Hid (isText xs[k] = false → okBody xs = false) := fun h => okBody_bad hkx h
        have HAK : Hid (isText xs[k] = true → ∀ j, j < k + 1 → (hj : j < xs.length) → isText xs[j] = true) := fun h j hj hjx => by
          by_cases e : j = k
          · subst e; exact h
          · exact HA.out j (by omega) hjx
        clear hcell
        generalize isText xs[k] = q at *
        generalize str xs[k] = S at *
        cases q
        · have HB := Lib.hid (HBAD.out rfl)
          go_wp2_with fail
          refine (HTX.out _).mono ?_
          rintro e w1 ⟨rfl, rfl⟩
          go_wp2
          go_ret
          exact ⟨ret_bool HB.out.symm, Below.refl _ _⟩
        · have HN := Lib.hid (HAK.out rfl)
          go_wp2_with fail
          refine (HTX.out _).mono ?_
          rintro e w1 ⟨rfl, rfl⟩
          go_wp2
          go_roundw
          case rel =>
            first
              | exact ⟨k + 1, by omega, by go_num, rfl, HN.out⟩
              | exact ⟨k + 1, by omega, by go_num, trivial, HN.out⟩
              | exact ⟨k + 1, by omega, by go_num, HN.out⟩
          case measure => simp [intOf]; omega
      · have HG := Lib.hid (okBody_good (b := xs) (fun j hj => HA.out j (by have := HLEN.out; omega) hj) (by have := HLEN.out; omega))
        go_wp2
        go_ret
        exact ⟨ret_bool HG.out.symm, Below.refl _ _⟩
theorem mapO_take {α β : Type} {f : α → Option β} {xs : List α} {ys : List β} {k : Nat} (hk : k < xs.length) {y : β} (h : mapO f (xs.take k) = some ys) (hy : f xs[k] = some y) : mapO f (xs.take (k + 1)) = some (ys ++ [y]) := by
  rw [List.take_succ_eq_append_getElem hk, mapO_snoc, h, Option.bind_some, hy]; rfl
def LinesAt (d : Nat) : Prop := ∀ (f : Nat) (v : Value) (p : Prt) (u : World), Tab u → RdT u f v p → Calls Tryz.prog 34 #[v, .int .i64 (d : Int)] u (LinesRet (linesT d p) u)
set_option maxRecDepth 100000 in
set_option maxHeartbeats 2000000 in
theorem linesOfKids_of (d : Nat) (hd : d ≤ 3) (IH : LinesAt d) (f : Nat) (a : Option Addr) (n c : Nat) (ks : List Prt) (s : ByteArray) (w : World) (tab : Tab w) (hr : RdKs w f a ks) (hn : ks.length = n) (hn2 : n ≤ 1048576) (hs : s.size ≤ 1048576) :
    Calls Tryz.prog 89 #[.slice a n c, .string s, .int .i64 (d : Int)] w (LinesRet (kidsO d ks s.data.toList) w) := by
  have HLEN := Lib.hid hn
  have HR := Lib.hid hr
  clear hr hn
  by_cases h4 : 4 < n
  · have d1 : decide ((4 : Int) < n) = true := by simp; omega
    have HN := Lib.hid (kidsO_long (d := d) (ks := ks) (b := s.data.toList) (by rw [HLEN.out]; exact h4))
    go_enter Tryz.func89, Tryz.ntmps89
    go_wp2
    go_ret2
    exact linesRet_none HN.out (Below.refl _ _)
  · have d1 : decide ((4 : Int) < n) = false := by simp; omega
    go_enter Tryz.func89, Tryz.ntmps89
    go_wp2_with fail
    go_loopw [8, 18] (fun v i wr => ∃ (k : Nat) (us : List Value) (ps : List (List (List UInt8))), k ≤ n ∧ i = .int .i64 k ∧ mapO (linesT d) (ks.take k) = some ps ∧ OwnSS w.heap.size v us ps wr ∧ ps.length = k ∧ Below w.heap.size w wr) (fun _ i _ => n - (intOf i).toNat)
    case atStart => exact ⟨0, [], [], Nat.zero_le _, rfl, rfl, OwnSS.nil _ _, rfl, Below.refl _ _⟩
    case round =>
      obtain ⟨k, us, ps, hk, rfl, hm, hown, hpl, hb⟩ := hrel
      have HM := Lib.hid hm
      have HO := Lib.hid hown
      have HPL := Lib.hid hpl
      have hbs := hb.size
      clear hm hown hpl
      by_cases hlt : k < n
      · have hkx : k < ks.length := by rw [HLEN.out]; exact hlt
        obtain ⟨b, off, rfl, hbl, a1, c1, a2, c2, a3, c3, g0, g1, g2, g3⟩ := (HR.out.below hb).at hkx
        have HT := Lib.hid g3
        have tabr := tab.below hb
        have HC := Lib.hid (fun u (h : Below wr.heap.size wr u) => IH f _ ks[k] u (tabr.below h) (g3.below h f))
        have hAr : Below wr.heap.size wr (wr.alloc (.cells #[.slice a1 ks[k].fields.length c1, .slice a2 ks[k].body.length c2, .slice a3 ks[k].kids.length c3] 33)) := (Below.refl _ _).alloc (Nat.le_refl _) _
        have HTK : Hid (∀ y, linesT d ks[k] = some y → mapO (linesT d) (ks.take (k + 1)) = some (ps ++ [y])) := fun y h => mapO_take hkx HM.out h
        have HBAD := Lib.hid (kidsO_bad (d := d) (b := s.data.toList) hkx)
        clear g3
        generalize linesT d ks[k] = o at *
        generalize ks[k].fields.length = n1 at *
        generalize ks[k].body.length = n2 at *
        generalize ks[k].kids.length = n3 at *
        cases o with
        | none =>
          have HN := Lib.hid (HBAD.out rfl)
          clear HTK HBAD
          go_wp2_with fail
          refine (HC.out _ hAr).mono ?_
          intro e w1 hret
          obtain ⟨ax, cx, rfl, _, hb1⟩ := hret.none'
          go_wp2
          go_ret2
          exact linesRet_none HN.out (nx hb (nx hAr hb1))
        | some ls =>
          have HN := Lib.hid (HTK.out _ rfl)
          clear HTK HBAD
          obtain ⟨a9, c9, rfl, _, _, _, _⟩ := HO.out.read
          go_wp2_with fail
          refine (HC.out _ hAr).mono ?_
          intro e w1 hret
          obtain ⟨ax, cx, rfl, ho1', _, hb1'⟩ := hret.some'
          have hb1 := nx hAr hb1'
          have ho1 := ho1'.base hAr.size
          have hbs1 := hb1.size
          clear hret ho1' hb1'
          have hA1 : Below w1.heap.size w1 (w1.alloc (.cells #[.slice ax ls.length cx] 23)) := (Below.refl _ _).alloc (Nat.le_refl _) _
          have HOU : Hid (OwnL w.heap.size (.slice ax ls.length cx) ls (w1.alloc (.cells #[.slice ax ls.length cx] 23))) := (ho1.keep hA1).base hbs
          have HOV : Hid (OwnSS w.heap.size (.slice a9 ps.length c9) us ps (w1.alloc (.cells #[.slice ax ls.length cx] 23))) := (HO.out.keep hb1).keep hA1
          have HO1 := Lib.hid ho1
          have hpk : ps.length ≤ 4 := by have := HPL.out; omega
          clear ho1
          go_wp2_with (at_builtin; refine wpList_append_SS rfl _ _ rfl w.heap.size _ (.slice ax ls.length cx) us ps ls w1.heap.size rfl rfl ?c1 rfl HOV.out HOU.out ?c4 ?c5 ?c2 ?c3 ?_)
          case c1 => rw [World.cell?_alloc_at _ _ _ _ rfl]; rfl
          case c4 => exact fun g hg e => by have := (HO1.out.lt g hg).1; have := (HO.out.lt.1 g e).2; omega
          case c5 => exact fun i z g hz hg e => by have := (HO1.out.lt g hg).1; have := (HO.out.lt.2 i z g hz e).2; omega
          case c2 => simp; omega
          case c3 => omega
          intro v' w6 hO6 hgr6 _
          have hb6 : Below w.heap.size w w6 := ((nx hb hb1).alloc (nx hb hb1).size _).grown hgr6 (by simp; omega) (fun g hg => (HOV.out.lt.1 g hg).1)
          have HN6 := Lib.hid hO6
          have hpl6 : (ps ++ [ls]).length = k + 1 := by rw [List.length_append, HPL.out]; rfl
          have HPL6 := Lib.hid hpl6
          obtain ⟨ys, hys⟩ : ∃ ys, ys = ps ++ [ls] := ⟨_, rfl⟩
          rw [← hys] at HN HN6 HPL6
          clear hO6 hgr6 hys hpl6
          go_wp2
          go_roundw
          case rel => exact ⟨k + 1, _, ys, by omega, by go_num, HN.out, HN6.out, HPL6.out, hb6⟩
          case measure => simp [intOf]; omega
      · have hkn : k = n := by omega
        have HMA : Hid (mapO (linesT d) ks = some ps) := by
          have := HM.out
          rw [List.take_of_length_le (by rw [HLEN.out]; omega)] at this; exact this
        have HKO : Hid (kidsO d ks s.data.toList = joinP ps s.data.toList) := kidsO_all (by rw [HLEN.out]; omega) HMA.out
        have hsum := mapO_sum hd (by rw [HLEN.out]; omega) HMA.out
        obtain ⟨a9, c9, rfl, hrd, _, _, _⟩ := HO.out.read
        have hpk : ps.length ≤ 4 := by have := HPL.out; omega
        have HJ := Lib.hid (joinParts_any a9 ps.length c9 ps s wr hrd (by omega) (by omega) (by omega))
        rw [← HKO.out] at HJ
        clear hrd hsum hkn
        generalize ps.length = np at *
        go_wp2_with fail
        refine HJ.out.mono ?_
        rintro e w1 ⟨v1, rfl, ho1, hb1⟩
        go_wp2
        go_ret2
        exact ⟨v1, rfl, ho1.base hbs, nx hb hb1⟩
/-- What stands behind the fields, where it is right. -/
def RestRet (o : Option (List (List UInt8))) (W0 w : World) (e : Ending) (w' : World) : Prop := ∃ (a : Option Addr) (n c : Nat), e = .returned (.tuple #[.slice a n c, .bool o.isSome]) ∧ (∀ r, o = some r → n = r.length ∧ (a = none → c = 0) ∧ (RdL W0 a r.length r ∨ OwnL w.heap.size (.slice a r.length c) r w')) ∧ Below w.heap.size w w'
set_option maxRecDepth 100000 in
set_option maxHeartbeats 2000000 in
theorem linesBehind_of (d : Nat) (hd : d ≤ 2) (IH : LinesAt d) (f : Nat) (v : Value) (p : Prt) (W0 w : World) (hw0 : Below W0.heap.size W0 w) (tab : Tab w) (hr : RdT W0 f v p) :
    Calls Tryz.prog 59 #[v, .int .i64 ((d : Int) + 1)] w (RestRet (restO d p) W0 w) := by
  obtain ⟨f', a1, c1, a2, c2, a3, c3, rfl, rfl, ⟨hf, hfc⟩, ⟨hbd, hbc, hbn⟩, hkc, hpf, hks⟩ := hr.open
  have HBD := Lib.hid hbd
  replace hf := hf.below hw0
  replace hbd := hbd.below hw0
  replace hks := hks.below hw0
  clear hw0
  have hA : Below w.heap.size w (w.alloc (.cells #[.slice a1 p.fields.length c1, .slice a2 p.body.length c2, .slice a3 p.kids.length c3] 33)) := (Below.refl _ _).alloc (Nat.le_refl _) _
  have HX := Lib.hid (KK3.new w (.slice a1 p.fields.length c1) (.slice a2 p.body.length c2) (.slice a3 p.kids.length c3) 33)
  have HB := Lib.hid (boundaryOfFields_any a1 p.fields.length c1 p.fields _ (tab.below hA) (hf.below hA) hpf.1 hpf.2.1)
  have HK : Hid (∀ (b : List UInt8) u, b.length ≤ 20 → Below w.heap.size w u → Calls Tryz.prog 89 #[.slice a3 p.kids.length c3, .string (str b), .int .i64 (d : Int)] u (LinesRet (kidsO d p.kids b) u)) := fun b u hbl h => by
    have := linesOfKids_of d (by omega) IH f' a3 p.kids.length c3 p.kids (str b) u (tab.below h) (hks.below h) rfl hpf.2.2.2.2 (by rw [str_size]; omega)
    rw [str_list] at this; exact this
  have HV : Hid (∀ u, Below w.heap.size w u → Calls Tryz.prog 90 #[.slice a2 p.body.length c2] u fun e w' => e = .returned (.bool (okBody p.body)) ∧ Below u.heap.size u w') := fun u h => bodyValid_any a2 p.body.length c2 p.body u (hbd.below h) hpf.2.2.1 hpf.2.2.2.1
  have HBN := Lib.hid hbn
  have HPF := Lib.hid hpf
  have hnb : p.body.length ≤ 1048576 := hpf.2.2.1
  have hnk : p.kids.length ≤ 1048576 := hpf.2.2.2.2
  clear hf hfc hbd hbc hbn hkc hpf hks tab hr
  unfold BndRet at HB
  cases hq : bndF p.fields with
  | none =>
    have HL := Lib.hid (restO_leaf (d := d) hq)
    rw [hq] at HB
    clear HK hq
    by_cases hk0 : p.kids.length = 0
    · have HKN : Hid (p.kids = []) := List.length_eq_zero_iff.1 hk0
      have e0 : ((p.kids.length : Int) == 0) = true := by rw [beq_iff_eq]; omega
      cases hv : okBody p.body
      · have HN : Hid (restO d p = none) := by show _ = _; rw [HL.out, if_neg (fun c => by rw [hv] at c; cases c.1)]
        rw [hv] at HV
        clear hv hk0
        generalize p.kids.length = nk at *
        generalize p.body.length = nb at *
        generalize p.fields.length = nf at *
        go_enter Tryz.func59, Tryz.ntmps59
        go_wp2_with fail
        refine HB.out.mono ?_
        rintro e w1 ⟨rfl, hb1⟩
        obtain ⟨y0, y1, y2⟩ := HX.out.below hb1
        have hb01 := nx hA hb1
        have z0 : ∀ y : BelowT w1, y.val.cell? ⟨w.heap.size, 0, none⟩ = some (.slice a1 nf c1) := fun y => ((HX.out.below hb1).below y.below).1
        have z1 : ∀ y : BelowT w1, y.val.cell? ⟨w.heap.size, 1, none⟩ = some (.slice a2 nb c2) := fun y => ((HX.out.below hb1).below y.below).2.1
        have z2 : ∀ y : BelowT w1, y.val.cell? ⟨w.heap.size, 2, none⟩ = some (.slice a3 nk c3) := fun y => ((HX.out.below hb1).below y.below).2.2
        go_wp2_with fail
        refine wp_region_quietB (W := w1) (by kernel_rfl) (by kernel_rfl) (Below.refl _ _) ?_
        repeat (go_big_quiet_step (first
          | (go_at_call 90; exact calls_belowT (HV.out _ (nx hb01 (BelowT.below _))))))
        refine wpQuiet_nil ?_
        intro wz hwz
        obtain ⟨x9, rfl⟩ := hwz
        have hbx := nx hb01 x9.below
        clear z0 z1 z2 y0 y1 y2
        generalize x9.val = w9 at *
        go_wp2
        go_ret2
        exact ⟨_, _, _, by rw [HN.out]; rfl, (fun r hr => by rw [HN.out] at hr; cases hr), hbx⟩
      · have HN : Hid (restO d p = some p.body) := by show _ = _; rw [HL.out, if_pos ⟨hv, HKN.out⟩]
        rw [hv] at HV
        clear hv hk0
        have HNB : Hid (p.body.length = p.body.length) := rfl
        generalize p.kids.length = nk at *
        generalize hnbq : p.body.length = nb at *
        have HNQ := Lib.hid hnbq
        clear hnbq
        generalize p.fields.length = nf at *
        go_enter Tryz.func59, Tryz.ntmps59
        go_wp2_with fail
        refine HB.out.mono ?_
        rintro e w1 ⟨rfl, hb1⟩
        obtain ⟨y0, y1, y2⟩ := HX.out.below hb1
        have hb01 := nx hA hb1
        have z0 : ∀ y : BelowT w1, y.val.cell? ⟨w.heap.size, 0, none⟩ = some (.slice a1 nf c1) := fun y => ((HX.out.below hb1).below y.below).1
        have z1 : ∀ y : BelowT w1, y.val.cell? ⟨w.heap.size, 1, none⟩ = some (.slice a2 nb c2) := fun y => ((HX.out.below hb1).below y.below).2.1
        have z2 : ∀ y : BelowT w1, y.val.cell? ⟨w.heap.size, 2, none⟩ = some (.slice a3 nk c3) := fun y => ((HX.out.below hb1).below y.below).2.2
        go_wp2_with fail
        refine wp_region_quietB (W := w1) (by kernel_rfl) (by kernel_rfl) (Below.refl _ _) ?_
        repeat (go_big_quiet_step (first
          | (go_at_call 90; exact calls_belowT (HV.out _ (nx hb01 (BelowT.below _))))))
        refine wpQuiet_nil ?_
        intro wz hwz
        obtain ⟨x9, rfl⟩ := hwz
        have hbx := nx hb01 x9.below
        clear z0 z1 z2 y0 y1 y2
        generalize x9.val = w9 at *
        go_wp2
        go_ret2
        exact ⟨_, _, _, by rw [HN.out]; rfl, (fun r hr => by
          rw [HN.out] at hr; injection hr with hr; subst hr
          exact ⟨HNQ.out.symm, HBN.out, .inl (by rw [HNQ.out]; exact HBD.out)⟩), hbx⟩
    · have HN : Hid (restO d p = none) := by show _ = _; rw [HL.out, if_neg (fun c => hk0 (by rw [c.2]; rfl))]
      have e0 : ((p.kids.length : Int) == 0) = false := by rw [beq_eq_false_iff_ne]; omega
      clear hk0
      generalize okBody p.body = ob at *
      generalize p.kids.length = nk at *
      generalize p.body.length = nb at *
      generalize p.fields.length = nf at *
      cases ob
      all_goals
        go_enter Tryz.func59, Tryz.ntmps59
        go_wp2_with fail
        refine HB.out.mono ?_
        rintro e w1 ⟨rfl, hb1⟩
        obtain ⟨y0, y1, y2⟩ := HX.out.below hb1
        have hb01 := nx hA hb1
        have z0 : ∀ y : BelowT w1, y.val.cell? ⟨w.heap.size, 0, none⟩ = some (.slice a1 nf c1) := fun y => ((HX.out.below hb1).below y.below).1
        have z1 : ∀ y : BelowT w1, y.val.cell? ⟨w.heap.size, 1, none⟩ = some (.slice a2 nb c2) := fun y => ((HX.out.below hb1).below y.below).2.1
        have z2 : ∀ y : BelowT w1, y.val.cell? ⟨w.heap.size, 2, none⟩ = some (.slice a3 nk c3) := fun y => ((HX.out.below hb1).below y.below).2.2
        go_wp2_with fail
        refine wp_region_quietB (W := w1) (by kernel_rfl) (by kernel_rfl) (Below.refl _ _) ?_
        repeat (go_big_quiet_step (first
          | (go_at_call 90; exact calls_belowT (HV.out _ (nx hb01 (BelowT.below _))))))
        refine wpQuiet_nil ?_
        intro wz hwz
        obtain ⟨x9, rfl⟩ := hwz
        have hbx := nx hb01 x9.below
        clear z0 z1 z2 y0 y1 y2
        generalize x9.val = w9 at *
        go_wp2
        go_ret2
        exact ⟨_, _, _, by rw [HN.out]; rfl, (fun r hr => by rw [HN.out] at hr; cases hr), hbx⟩
  | some b =>
    have HL := Lib.hid (restO_many (d := d) hq)
    have hbl : b.length ≤ 20 := by have := bndF_bnd hq; unfold isBnd at this; simp at this; omega
    rw [hq] at HB
    have HK2 := Lib.hid (fun u h => HK.out b u hbl h)
    have HB : Hid (Calls Tryz.prog 65 #[.slice a1 p.fields.length c1] (w.alloc (.cells #[.slice a1 p.fields.length c1, .slice a2 p.body.length c2, .slice a3 p.kids.length c3] 33)) fun e w' => e = .returned (.tuple #[.string (str b), .bool true]) ∧ Below (w.alloc (.cells #[.slice a1 p.fields.length c1, .slice a2 p.body.length c2, .slice a3 p.kids.length c3] 33)).heap.size (w.alloc (.cells #[.slice a1 p.fields.length c1, .slice a2 p.body.length c2, .slice a3 p.kids.length c3] 33)) w') := HB.out
    have hbz : (str b).size ≤ 20 := by rw [str_size]; exact hbl
    clear HK hq HV hbl
    generalize hX : str b = X at *
    clear hX
    generalize kidsO d p.kids b = O at *
    by_cases hb0 : p.body.length = 0
    · have HBE : Hid (p.body = []) := List.length_eq_zero_iff.1 hb0
      have HRO : Hid (restO d p = O) := by show _ = _; rw [HL.out, if_pos HBE.out]
      have e0 : ((p.body.length : Int) == 0) = true := by rw [beq_iff_eq]; omega
      clear hb0 HL HBD
      generalize p.kids.length = nk at *
      generalize p.body.length = nb at *
      generalize p.fields.length = nf at *
      go_enter Tryz.func59, Tryz.ntmps59
      go_wp2_with fail
      refine HB.out.mono ?_
      rintro e w1 ⟨rfl, hb1⟩
      obtain ⟨y0, y1, y2⟩ := HX.out.below hb1
      go_wp2_with fail
      refine (HK2.out _ (nx hA hb1)).mono ?_
      intro e w2 hret
      cases O with
      | none =>
        obtain ⟨ax, cx, rfl, _, hb2⟩ := hret.none'
        have HX2 := Lib.hid ((HX.out.below hb1).below hb2)
        clear y0 y1 y2 hret
        have hb02 := nx (nx hA hb1) hb2
        have z1 : ∀ y : BelowT w2, y.val.cell? ⟨w.heap.size, 1, none⟩ = some (.slice a2 nb c2) := fun y => (HX2.out.below y.below).2.1
        go_wp2_with fail
        refine wp_region_quietB (W := w2) (by kernel_rfl) (by kernel_rfl) (Below.refl _ _) ?_
        repeat (go_big_quiet_step (fail))
        refine wpQuiet_nil ?_
        intro wz hwz
        obtain ⟨x9, rfl⟩ := hwz
        have hbx := nx hb02 x9.below
        have hbx2 := x9.below
        clear z1
        generalize x9.val = w9 at *
        go_wp2
        go_ret2
        exact ⟨_, _, _, by rw [HRO.out]; rfl, (fun r hr => by rw [HRO.out] at hr; cases hr), hbx⟩
      | some ls =>
        obtain ⟨ax, cx, rfl, ho2, hr2, hb2⟩ := hret.some'
        have HX2 := Lib.hid ((HX.out.below hb1).below hb2)
        have HO2 := Lib.hid (ho2.base (nx hA hb1).size)
        have HAC : Hid (ax = none → cx = 0) := by
          obtain ⟨_, _, e, _, _, h, _⟩ := ho2.readc
          injection e with e1 _ e3
          subst e1 e3; exact h
        clear y0 y1 y2 hret ho2 hr2
        have hb02 := nx (nx hA hb1) hb2
        have z1 : ∀ y : BelowT w2, y.val.cell? ⟨w.heap.size, 1, none⟩ = some (.slice a2 nb c2) := fun y => (HX2.out.below y.below).2.1
        go_wp2_with fail
        refine wp_region_quietB (W := w2) (by kernel_rfl) (by kernel_rfl) (Below.refl _ _) ?_
        repeat (go_big_quiet_step (fail))
        refine wpQuiet_nil ?_
        intro wz hwz
        obtain ⟨x9, rfl⟩ := hwz
        have hbx := nx hb02 x9.below
        have hbx2 := x9.below
        clear z1
        generalize x9.val = w9 at *
        go_wp2
        go_ret2
        exact ⟨_, _, _, by rw [HRO.out]; rfl, (fun r hr => by rw [HRO.out] at hr; injection hr with hr; subst hr; exact ⟨rfl, HAC.out, .inr (HO2.out.keep hbx2)⟩), hbx⟩
    · have HRO : Hid (restO d p = none) := by show _ = _; rw [HL.out, if_neg (fun c => hb0 (by rw [c]; rfl))]
      have e0 : ((p.body.length : Int) == 0) = false := by rw [beq_eq_false_iff_ne]; omega
      clear hb0 HL HBD
      generalize p.kids.length = nk at *
      generalize p.body.length = nb at *
      generalize p.fields.length = nf at *
      go_enter Tryz.func59, Tryz.ntmps59
      go_wp2_with fail
      refine HB.out.mono ?_
      rintro e w1 ⟨rfl, hb1⟩
      obtain ⟨y0, y1, y2⟩ := HX.out.below hb1
      go_wp2_with fail
      refine (HK2.out _ (nx hA hb1)).mono ?_
      intro e w2 hret
      have hret2 : ∃ ax nx' cx, e = .returned (.tuple #[.slice ax nx' cx, .bool O.isSome]) ∧ Below w1.heap.size w1 w2 := by
        cases O with
        | none => obtain ⟨ax, cx, rfl, _, hb2⟩ := hret.none'; exact ⟨_, _, _, rfl, hb2⟩
        | some ls => obtain ⟨ax, cx, rfl, _, _, hb2⟩ := hret.some'; exact ⟨_, _, _, rfl, hb2⟩
      obtain ⟨ax, nx', cx, rfl, hb2⟩ := hret2
      have HX2 := Lib.hid ((HX.out.below hb1).below hb2)
      clear y0 y1 y2 hret
      generalize O.isSome = oq at *
      cases oq
      all_goals
        have hb02 := nx (nx hA hb1) hb2
        have z1 : ∀ y : BelowT w2, y.val.cell? ⟨w.heap.size, 1, none⟩ = some (.slice a2 nb c2) := fun y => (HX2.out.below y.below).2.1
        go_wp2_with fail
        refine wp_region_quietB (W := w2) (by kernel_rfl) (by kernel_rfl) (Below.refl _ _) ?_
        repeat (go_big_quiet_step (fail))
        refine wpQuiet_nil ?_
        intro wz hwz
        obtain ⟨x9, rfl⟩ := hwz
        have hbx := nx hb02 x9.below
        have hbx2 := x9.below
        clear z1
        generalize x9.val = w9 at *
        go_wp2
        go_ret2
        exact ⟨_, _, _, by rw [HRO.out]; rfl, (fun r hr => by rw [HRO.out] at hr; cases hr), hbx⟩
theorem lines_zero : LinesAt 0 := by
  intro f v p u tab hr
  obtain ⟨f', a1, c1, a2, c2, a3, c3, rfl, rfl, _⟩ := hr.open
  generalize p.fields.length = n1 at *
  generalize p.body.length = n2 at *
  generalize p.kids.length = n3 at *
  go_enter Tryz.func34, Tryz.ntmps34
  go_wp2
  go_ret2
  first
    | exact linesRet_none rfl (Below.refl _ _)
    | exact linesRet_none rfl ((Below.refl _ _).alloc (Nat.le_refl _) _)
theorem ownL_rd' {B : Nat} {a : Option Addr} {n c : Nat} {xs : List (List UInt8)} {w : World} (h : OwnL B (.slice a n c) xs w) : RdL w a n xs := by
  obtain ⟨a', c', e, hr, _⟩ := h.read
  injection e with e1 e2 e3
  subst e1 e2
  exact hr
set_option maxRecDepth 100000 in
set_option maxHeartbeats 2000000 in
theorem lines_step (d : Nat) (hd : d ≤ 2) (IH : LinesAt d) : LinesAt (d + 1) := by
  intro f v p w tab hr
  have HBEH : Hid (∀ u, Below w.heap.size w u → Calls Tryz.prog 59 #[v, .int .i64 ((d : Int) + 1)] u (RestRet (restO d p) w u)) := fun u h => linesBehind_of d hd IH f v p w u h (tab.below h) hr
  have HT := Lib.hid hr
  obtain ⟨f', a1, c1, a2, c2, a3, c3, rfl, rfl, ⟨hf, hfc⟩, _, _, hpf, _⟩ := hr.open
  have HF : Hid (∀ u, Below w.heap.size w u → Calls Tryz.prog 58 #[.slice a1 p.fields.length c1] u (FoldRet p.fields u)) := fun u h => foldFields_any a1 p.fields.length c1 p.fields u (hf.below h) (by have := hpf.1; omega) (fun x hx => (hpf.2.1 x hx).up (by omega))
  have HPF := Lib.hid hpf
  have HL := Lib.hid (linesT_rest d p)
  have hA : Below w.heap.size w (w.alloc (.cells #[.slice a1 p.fields.length c1, .slice a2 p.body.length c2, .slice a3 p.kids.length c3] 33)) := (Below.refl _ _).alloc (Nat.le_refl _) _
  have HX := Lib.hid (KK3.new w (.slice a1 p.fields.length c1) (.slice a2 p.body.length c2) (.slice a3 p.kids.length c3) 33)
  have e0 : ((d : Int) + 1 == 0) = false := by rw [beq_eq_false_iff_ne]; omega
  have hdd : (((d + 1 : Nat) : Int)) = (d : Int) + 1 := by omega
  rw [hdd]
  clear hf hfc hpf hdd hr
  unfold FoldRet at HF
  cases hok : fldsOk p.fields with
  | false =>
    have HN : Hid (linesT (d + 1) p = none) := by show _ = _; rw [HL.out, hok]; rfl
    rw [hok] at HF
    clear hok HL
    generalize p.kids.length = nk at *
    generalize p.body.length = nb at *
    generalize p.fields.length = nf at *
    go_enter Tryz.func34, Tryz.ntmps34
    go_wp2_with fail
    refine (HF.out _ hA).mono ?_
    rintro e w1 ⟨v1, rfl, ho1, hb1⟩
    obtain ⟨a9, c9, rfl, _⟩ := ho1.read
    clear ho1
    generalize (foldFs p.fields).length = nz at *
    go_wp2
    go_ret2
    exact linesRet_none HN.out (nx hA hb1)
  | true =>
    rw [hok] at HF HL
    have hFL := foldFs_len hok
    clear hok
    generalize hFS : foldFs p.fields = FS at *
    clear hFS
    unfold RestRet at HBEH
    cases hro : restO d p with
    | none =>
      have HN : Hid (linesT (d + 1) p = none) := by show _ = _; rw [HL.out, hro]; rfl
      rw [hro] at HBEH
      clear hro HL
      generalize p.kids.length = nk at *
      generalize p.body.length = nb at *
      generalize p.fields.length = nf at *
      go_enter Tryz.func34, Tryz.ntmps34
      go_wp2_with fail
      refine (HF.out _ hA).mono ?_
      rintro e w1 ⟨v1, rfl, ho1, hb1⟩
      obtain ⟨a9, c9, rfl, _⟩ := ho1.read
      clear ho1
      obtain ⟨y0, y1, y2⟩ := HX.out.below hb1
      go_wp2_with fail
      refine (HBEH.out _ (nx hA hb1)).mono ?_
      rintro e w2 ⟨a8, n8, c8, rfl, _, hb2⟩
      go_wp2
      go_ret2
      exact linesRet_none HN.out (nx (nx hA hb1) hb2)
    | some r =>
      have HN : Hid (linesT (d + 1) p = some (FS ++ [] :: r)) := by show _ = _; rw [HL.out, hro]; rfl
      have hrl : r.length ≤ 500000 := by
        have h1 := linesT_len (d + 1) p _ HN.out
        have h5 : 5 ^ (d + 1) ≤ 125 := pow5 (by omega)
        rw [List.length_append, List.length_cons] at h1; omega
      have HR : Hid (∀ u, Below w.heap.size w u → Calls Tryz.prog 59 #[.agg #[.slice a1 p.fields.length c1, .slice a2 p.body.length c2, .slice a3 p.kids.length c3], .int .i64 ((d : Int) + 1)] u fun e w' => ∃ (a : Option Addr) (c : Nat), e = .returned (.tuple #[.slice a r.length c, .bool true]) ∧ (a = none → c = 0) ∧ (RdL w a r.length r ∨ OwnL u.heap.size (.slice a r.length c) r w') ∧ Below u.heap.size u w') := fun u h => (HBEH.out u h).mono fun e w' q => by
        rw [hro] at q
        obtain ⟨a, n, c, he, hq, hb⟩ := q
        obtain ⟨rfl, h1, h2⟩ := hq r rfl
        exact ⟨a, c, he, h1, h2, hb⟩
      clear hro HL HBEH
      generalize p.kids.length = nk at *
      generalize p.body.length = nb at *
      generalize p.fields.length = nf at *
      go_enter Tryz.func34, Tryz.ntmps34
      go_wp2_with fail
      refine (HF.out _ hA).mono ?_
      rintro e w1 ⟨v1, rfl, ho1, hb1⟩
      have HO1 := Lib.hid (ho1.base hA.size)
      obtain ⟨a9, c9, rfl, _⟩ := ho1.read
      have HO1 : Hid (OwnL w.heap.size (.slice a9 FS.length c9) FS w1) := HO1
      clear ho1
      obtain ⟨y0, y1, y2⟩ := HX.out.below hb1
      have hb01 := nx hA hb1
      go_wp2_with fail
      refine (HR.out _ hb01).mono ?_
      rintro e w2 ⟨a8, c8, rfl, hac2, hr2, hb2⟩
      have hb02 := nx hb01 hb2
      have hbs2 := hb02.size
      have HR2 := Lib.hid hr2
      have HAC := Lib.hid hac2
      have HA : Hid (OwnL w.heap.size (.slice a9 FS.length c9) FS (w2.alloc (.cells #[.string ⟨#[]⟩] 9))) := (HO1.out.keep hb2).keep ((Below.refl _ _).alloc (Nat.le_refl _) _)
      clear hr2 hac2 y0 y1 y2
      go_wp2_with (at_builtin; refine wpList_append_1L rfl _ _ rfl w.heap.size _ FS ⟨#[]⟩ w2.heap.size rfl rfl ?c1 HA.out ?c2 ?c3 ?_)
      case c1 => rw [World.cell?_alloc_at _ _ _ _ rfl]; rfl
      case c2 => simp; omega
      case c3 => omega
      intro v4 w4 hO4 hgr4 _
      have hb4 : Below w.heap.size w w4 := (hb02.alloc hbs2 _).grown hgr4 (by simp; omega) (fun g hg => (HA.out.lt g hg).1)
      have HR4 : Hid (RdL w4 a8 r.length r) := by
        show RdL _ _ _ _
        rcases HR2.out with h | h
        · exact h.below hb4
        · refine ownL_rd' (OwnL.grown (h.keep ((Below.refl _ _).alloc (Nat.le_refl _) _)) hgr4 fun g hg e => ?_)
          have h1 := (h.lt g hg).1
          have h2 := (HO1.out.lt g e).2
          omega
      have HO4 := Lib.hid hO4
      have hbs4 := hb4.size
      clear hO4 hgr4
      go_wp2_with (at_builtin; refine wpList_append_RL rfl _ _ rfl w.heap.size _ (FS ++ [[]]) r a8 r.length c8 rfl rfl HO4.out HR4.out HAC.out hbs4 ?d1 ?_)
      case d1 => rw [List.length_append, List.length_singleton]; omega
      intro v5 w5 hO5 hgr5 _
      have hb5 : Below w.heap.size w w5 := hb4.grown hgr5 hbs4 (fun g hg => (HO4.out.lt g hg).1)
      have HO5 : Hid (OwnL w.heap.size v5 (FS ++ [] :: r) w5) := by
        show OwnL _ _ _ _
        first
          | exact hO5
          | (have := hO5; rw [List.append_assoc] at this; exact this)
      clear hO5 hgr5
      go_wp2
      go_ret2
      exact linesRet_some HN.out HO5.out hb5
theorem lines_all : ∀ d, d ≤ 3 → LinesAt d
  | 0, _ => lines_zero
  | d + 1, h => lines_step d (by omega) (lines_all d (by omega))
end Go.Proofs.YtcdmjckkencgoaaGreatDoor
end

section
namespace Go.Proofs.YtcdmjckkencgoaaGreatDoor
open Go.RowKit

theorem parseK_nil : parseK [] = none := by decide +kernel
theorem bndOf_zero : bndOf knd0 = none := bndOf_no1 (by decide +kernel)
/-- Fields that have a boundary have the field, and a kind in it. -/
theorem bndF_has {fs : List Fld} (h : (bndF fs).isSome = true) : (getF fs typeL).isSome = true ∧ (parseK (getR fs typeL)).isSome = true := by
  have h2 : (parseK (getR fs typeL)).isSome = true := by
    cases hq : parseK (getR fs typeL) with
    | some k => rfl
    | none =>
      unfold bndF parseKR at h
      rw [hq] at h
      have h : (bndOf knd0).isSome = true := h
      rw [bndOf_zero] at h; cases h
  refine ⟨?_, h2⟩
  cases hq : getF fs typeL with
  | some k => rfl
  | none =>
    unfold getR at h2
    rw [hq] at h2
    have h2 : (parseK []).isSome = true := h2
    rw [parseK_nil] at h2; cases h2
set_option maxRecDepth 100000 in
set_option maxHeartbeats 2000000 in
theorem l8Boundary_any (a : Option Addr) (n c : Nat) (fs : List Fld) (w : World) (hr : RdF w a n fs) (hn : n ≤ 1048576) (hx : ∀ x ∈ fs, SmallF 1048576 x) :
    Calls Tryz.prog 55 #[.slice a n c] w (BndRet (bndF fs) w) := by
  have HG := Lib.hid (getFieldS_any a n c fs ⟨#[67, 111, 110, 116, 101, 110, 116, 45, 84, 121, 112, 101]⟩ w hr (by omega) (fun x h => (hx x h).up (by omega)) (by decide))
  unfold GetRet at HG
  have hgl : (str (getR fs typeL)).size ≤ 1048576 := by rw [str_size]; exact getR_len hx
  have HP : Hid (∀ u, Calls Tryz.prog 84 #[.string (str (getR fs typeL))] u (PKL (parseK (getR fs typeL)) u)) := fun u => by
    have := parseKindS_k (str (getR fs typeL)) u (by omega)
    rw [str_list] at this; exact this
  have HB : Hid (∀ u b f, RdK u (parseKR (getR fs typeL)) b f → Calls Tryz.prog 85 #[.agg #[.string (str (parseKR (getR fs typeL)).main), .string (str (parseKR (getR fs typeL)).sub), .slice b (parseKR (getR fs typeL)).params.length f]] u (BndRet (bndF fs) u)) := fun u b f k => boundaryOfS_k u k
  have HE : Hid (str (getR fs ((⟨#[67, 111, 110, 116, 101, 110, 116, 45, 84, 121, 112, 101]⟩ : ByteArray).data.toList)) = str (getR fs typeL)) := rfl
  have HE2 : Hid (getF fs ((⟨#[67, 111, 110, 116, 101, 110, 116, 45, 84, 121, 112, 101]⟩ : ByteArray).data.toList) = getF fs typeL) := rfl
  unfold PKL at HP
  have HKE : Hid ((parseK (getR fs typeL)).getD knd0 = parseKR (getR fs typeL)) := rfl
  rw [HKE.out] at HP
  rw [HE.out, HE2.out] at HG
  have HH := Lib.hid (bndF_has (fs := fs))
  clear hr hx HE HE2 HKE
  generalize (getF fs typeL).isSome = gs at *
  generalize (parseK (getR fs typeL)).isSome = ps at *
  generalize str (getR fs typeL) = GT at *
  generalize parseKR (getR fs typeL) = q at *
  generalize q.params.length = nq at *
  generalize str q.main = MQ at *
  generalize str q.sub = SQ at *
  unfold BndRet at *
  generalize str ((bndF fs).getD []) = BS at *
  generalize (bndF fs).isSome = bs at *
  cases gs <;> cases ps <;> cases bs
  all_goals first
    | (have hx := HH.out rfl; first | (cases hx.1; done) | (cases hx.2; done))
    | (clear HH
       go_enter Tryz.func55, Tryz.ntmps55
       go_wp2_with fail
       refine HG.out.mono ?_
       rintro e w1 ⟨rfl, hb1⟩
       go_wp2_with fail
       refine (HP.out _).mono ?_
       rintro e w2 ⟨b2, f2, rfl, hr2, hb2⟩
       have hb12 := nx hb1 hb2
       go_wp2_with fail
       have hA2 : Below w2.heap.size w2 (w2.alloc (.cells #[.string MQ, .string SQ, .slice b2 nq f2] 97)) := (Below.refl _ _).alloc (Nat.le_refl _) _
       refine (HB.out _ _ _ (hr2.below hA2)).mono ?_
       rintro e w3 ⟨rfl, hb3⟩
       go_wp2
       go_ret2
       exact ⟨rfl, nx hb12 (nx hA2 hb3)⟩)
set_option maxRecDepth 100000 in
set_option maxHeartbeats 1000000 in
theorem l8Body_any (a : Option Addr) (n c : Nat) (xs : List (List UInt8)) (w : World) (hr : RdL w a n xs) (hn : n ≤ 1048576) (hx : ∀ x ∈ xs, x.length ≤ 1048576) :
    Calls Tryz.prog 81 #[.slice a n c] w fun e w' => e = .returned (.bool (okBody xs)) ∧ Below w.heap.size w w' := by
  have HLEN := Lib.hid hr.1
  have HR := Lib.hid hr.2
  have HX := Lib.hid hx
  clear hr hx
  go_enter Tryz.func81, Tryz.ntmps81
  go_wp2_with fail
  go_loopw [3] (fun i wr => ∃ (k : Nat), k ≤ n ∧ k ≤ 31 ∧ i = .int .i64 k ∧ wr = w ∧ ∀ j, j < k → (hj : j < xs.length) → isText xs[j] = true) (fun i _ => n - (intOf i).toNat)
  case atStart => exact ⟨0, Nat.zero_le _, by omega, rfl, rfl, fun j h => by omega⟩
  case round =>
    obtain ⟨k, hk, hk31, rfl, rfl, hall⟩ := hrel
    have HA := Lib.hid hall
    clear hall
    by_cases hlt : k < n ∧ k ≤ 30
    · obtain ⟨hlt, h30⟩ := hlt
      have d1 : decide ((k : Int) < n) = true := by simp; omega
      have d2 : decide ((k : Int) ≤ 30) = true := by simp; omega
      have hkx : k < xs.length := by rw [HLEN.out]; exact hlt
      obtain ⟨b, off, rfl, hbl, hcell⟩ := HR.out.resolve_left (by omega)
      have q0 := hcell k hkx
      have hz : (str xs[k]).size ≤ 1048576 := by rw [str_size]; exact HX.out _ (List.getElem_mem hkx)
      have HTX : Hid (∀ u : World, Calls Tryz.prog 72 #[.string (str xs[k])] u fun e w' => e = .returned (.bool (isText xs[k])) ∧ u = w') := fun u => by
        have := textValidS_any (str xs[k]) u (by unfold maxLen; omega)
        rw [str_list] at this; exact this
      have HBAD : Hid (isText xs[k] = false → okBody xs = false) := fun h => okBody_bad hkx h
      have HAK : Hid (isText xs[k] = true → ∀ j, j < k + 1 → (hj : j < xs.length) → isText xs[j] = true) := fun h j hj hjx => by
        by_cases e : j = k
        · subst e; exact h
        · exact HA.out j (by omega) hjx
      clear hcell
      generalize isText xs[k] = q at *
      generalize str xs[k] = S at *
      cases q
      · have HB := Lib.hid (HBAD.out rfl)
        go_wp2_with fail
        refine (HTX.out _).mono ?_
        rintro e w1 ⟨rfl, rfl⟩
        go_wp2
        go_ret
        exact ⟨ret_bool HB.out.symm, Below.refl _ _⟩
      · have HN := Lib.hid (HAK.out rfl)
        go_wp2_with fail
        refine (HTX.out _).mono ?_
        rintro e w1 ⟨rfl, rfl⟩
        go_wp2
        go_roundw
        case rel =>
          first
            | exact ⟨k + 1, by omega, by omega, by go_num, rfl, HN.out⟩
            | exact ⟨k + 1, by omega, by omega, by go_num, trivial, HN.out⟩
            | exact ⟨k + 1, by omega, by omega, by go_num, HN.out⟩
        case measure => simp [intOf]; omega
    · have HD : Hid (decide ((n : Int) ≤ 30) = okBody xs) := by
        show _ = _
        by_cases h : n ≤ 30
        · rw [okBody_good (b := xs) (fun j hj => HA.out j (by have := HLEN.out; omega) hj) (by have := HLEN.out; omega)]
          simp; omega
        · rw [okBody_long (b := xs) (by have := HLEN.out; omega)]
          simp; omega
      by_cases hln : k < n
      · have d1 : decide ((k : Int) < n) = true := by simp; omega
        have d2 : decide ((k : Int) ≤ 30) = false := by simp; omega
        go_wp2
        go_ret
        exact ⟨ret_bool HD.out, Below.refl _ _⟩
      · have d1 : decide ((k : Int) < n) = false := by simp; omega
        go_wp2
        go_ret
        exact ⟨ret_bool HD.out, Below.refl _ _⟩
def FmtAt (d : Nat) : Prop := ∀ (f : Nat) (v : Value) (p : Prt) (u : World) (ls : List (List UInt8)), RdT u f v p → linesT d p = some ls →
  Calls Tryz.prog 31 #[v] u fun e w' => ∃ v', e = .returned v' ∧ OwnL u.heap.size v' ls w' ∧ Below u.heap.size u w'
set_option maxRecDepth 100000 in
set_option maxHeartbeats 4000000 in
theorem fmt_step (d : Nat) (hd : d ≤ 2) (IH : FmtAt d) : FmtAt (d + 1) := by
  intro f v p w ls hr hls
  have hll := linesT_len (d + 1) p _ hls
  have hll5 : ls.length ≤ 500000 := by
    have h5 : 5 ^ (d + 1) ≤ 125 := pow5 (by omega)
    omega
  obtain ⟨hok, r, hlr, hrest⟩ := linesT_some hls
  obtain ⟨f', a1, c1, a2, c2, a3, c3, rfl, rfl, ⟨hf, hfc⟩, ⟨hbd, hbc, hbn⟩, hkc, hpf, hks⟩ := hr.open
  have hFL := foldFs_len hok
  have HF : Hid (∀ u, Below w.heap.size w u → Calls Tryz.prog 54 #[.slice a1 p.fields.length c1] u (FoldRet p.fields u)) := fun u h => foldFieldsS_any a1 p.fields.length c1 p.fields u (hf.below h) (by have := hpf.1; omega) (fun x hx => (hpf.2.1 x hx).up (by omega))
  have HBO : Hid (∀ u, Below w.heap.size w u → Calls Tryz.prog 55 #[.slice a1 p.fields.length c1] u (BndRet (bndF p.fields) u)) := fun u h => l8Boundary_any a1 p.fields.length c1 p.fields u (hf.below h) hpf.1 hpf.2.1
  have HPF := Lib.hid hpf
  have HBD := Lib.hid hbd
  have HBN := Lib.hid hbn
  have HKS := Lib.hid hks
  have hA : Below w.heap.size w (w.alloc (.cells #[.slice a1 p.fields.length c1, .slice a2 p.body.length c2, .slice a3 p.kids.length c3] 33)) := (Below.refl _ _).alloc (Nat.le_refl _) _
  have HX := Lib.hid (KK3.new w (.slice a1 p.fields.length c1) (.slice a2 p.body.length c2) (.slice a3 p.kids.length c3) 33)
  have hrl : (foldFs p.fields).length + r.length + 1 ≤ 500000 := by
    rw [hlr, List.length_append, List.length_cons] at hll5; omega
  clear hf hfc hbd hbc hbn hkc hpf hks hr hls hll hll5 hFL
  unfold FoldRet at HF
  unfold BndRet at HBO
  rw [hok] at HF
  have HLR := Lib.hid hlr
  clear hok hlr
  rcases hrest with ⟨h1, h2, h3, h4⟩ | ⟨b, ps, h1, h2, h3, h4, h5⟩
  · rw [h1] at HBO
    have HRB := Lib.hid h4
    rw [h4] at hrl
    clear h1 h2 h3 h4
    generalize foldFs p.fields = FS at *
    generalize hnbq : p.body.length = nb at *
    have HNQ := Lib.hid hnbq
    clear hnbq
    generalize p.kids.length = nk at *
    generalize p.fields.length = nf at *
    go_enter Tryz.func31, Tryz.ntmps31
    go_wp2_with fail
    refine (HF.out _ hA).mono ?_
    rintro e w1 ⟨v1, rfl, ho1, hb1⟩
    have HO0 := Lib.hid ho1
    obtain ⟨a9, c9, rfl, _⟩ := ho1.read
    clear ho1
    generalize w.alloc (.cells #[.slice a1 nf c1, .slice a2 nb c2, .slice a3 nk c3] 33) = W at *
    have HO1 : Hid (OwnL W.heap.size (.slice a9 FS.length c9) FS w1) := HO0
    clear HO0
    have hWs := hA.size
    have hs1 := hb1.size
    have hWl : w.heap.size < W.heap.size := lt_of_cell HX.out.1
    have HA : Hid (OwnL W.heap.size (.slice a9 FS.length c9) FS (w1.alloc (.cells #[.string ⟨#[]⟩] 9))) := HO1.out.keep ((Below.refl _ _).alloc (Nat.le_refl _) _)
    obtain ⟨y0, y1, y2⟩ := HX.out.below hb1
    go_wp2_with (at_builtin; refine wpList_append_1L rfl _ _ rfl W.heap.size _ FS ⟨#[]⟩ w1.heap.size rfl rfl ?c1 HA.out ?c2 ?c3 ?_)
    case c1 => rw [World.cell?_alloc_at _ _ _ _ rfl]; rfl
    case c2 => simp; omega
    case c3 => omega
    intro v4 w4 hO4 hgr4 _
    have hb4 : Below W.heap.size W w4 := (hb1.alloc hs1 _).grown hgr4 (by simp; omega) (fun g hg => (HA.out.lt g hg).1)
    have HO4 : Hid (OwnL W.heap.size v4 (FS ++ [[]]) w4) := hO4
    have hb04 := nx hA hb4
    clear y0 y1 y2 hgr4 hO4 HA HO1
    obtain ⟨y0, y1, y2⟩ := HX.out.below hb4
    go_wp2_with fail
    refine (HBO.out _ hb04).mono ?_
    rintro e w5 ⟨rfl, hb5⟩
    have hb15 := nx hb4 hb5
    have hs5 := hb15.size
    clear y0 y1 y2
    obtain ⟨y0, y1, y2⟩ := HX.out.below hb15
    have HO5 := Lib.hid (HO4.out.keep hb5)
    go_wp2_with (at_builtin; refine wpList_append_RL rfl _ _ rfl W.heap.size _ (FS ++ [[]]) p.body a2 nb c2 rfl rfl HO5.out (HBD.out.below (nx hA hb15)) HBN.out hs5 ?d1 ?_)
    case d1 => rw [List.length_append, List.length_singleton, HNQ.out]; omega
    intro v6 w6 hO6 hgr6 _
    have hb6 : Below W.heap.size W w6 := hb15.grown hgr6 hs5 (fun g hg => (HO5.out.lt g hg).1)
    have HO6 : Hid (OwnL w.heap.size v6 ls w6) := by
      show OwnL _ _ _ _
      rw [HLR.out, HRB.out]
      have := hO6.base hWs
      first
        | exact this
        | (rw [List.append_assoc] at this; exact this)
    clear hO6 hgr6
    go_wp2
    go_ret
    exact ⟨_, rfl, HO6.out, nx hA hb6⟩
  · rw [h1] at HBO
    have HB : Hid (∀ u, Below w.heap.size w u → Calls Tryz.prog 55 #[.slice a1 p.fields.length c1] u fun e w' => e = .returned (.tuple #[.string (str b), .bool true]) ∧ Below u.heap.size u w') := HBO
    have hbl : b.length ≤ 20 := by have := bndF_bnd h1; unfold isBnd at this; simp at this; omega
    have hbz : (str b).size ≤ 20 := by rw [str_size]; exact hbl
    have hms := mapO_some h4
    have HMS := Lib.hid hms.2
    have hpl := hms.1
    have HPL := Lib.hid hpl
    have hpk4 : ps.length ≤ 4 := by omega
    have hsum := mapO_sum (by omega) h3 h4
    have HPM : Hid (∀ i, (h : i < ps.length) → ps[i].length ≤ 500000) := fun i h => by
      have h5 : 5 ^ d ≤ 125 := pow5 (by omega)
      have := linesT_len d _ _ (hms.2 i (by omega) h); omega
    have HJ : Hid (∀ a c u, RdSS u a ps.length ps → Calls Tryz.prog 56 #[.slice a ps.length c, .string (str b)] u (LinesRet (some r) u)) := fun a c u h => by
      have := joinPartsS_any a ps.length c ps (str b) u h (by omega) (by omega) (by omega)
      rw [str_list, h5] at this; exact this
    obtain ⟨nk, hnk⟩ : ∃ nk, nk = ps.length := ⟨_, rfl⟩
    have HKK : Hid (p.kids.length = nk) := hpl.symm.trans hnk.symm
    have HNK : Hid (ps.length = nk) := hnk.symm
    rw [← hnk] at hpk4 HJ
    clear HBO h1 h2 h3 h4 h5 hms hpl hbl hsum hnk
    rw [HKK.out] at HX hA ⊢
    generalize str b = BB at *
    generalize foldFs p.fields = FS at *
    generalize p.body.length = nb at *
    generalize p.fields.length = nf at *
    have HBO := HB
    clear HB
    go_enter Tryz.func31, Tryz.ntmps31
    go_wp2_with fail
    refine (HF.out _ hA).mono ?_
    rintro e w1 ⟨v1, rfl, ho1, hb1⟩
    have HO0 := Lib.hid ho1
    obtain ⟨a9, c9, rfl, _⟩ := ho1.read
    clear ho1
    generalize w.alloc (.cells #[.slice a1 nf c1, .slice a2 nb c2, .slice a3 nk c3] 33) = W at *
    have HO1 : Hid (OwnL W.heap.size (.slice a9 FS.length c9) FS w1) := HO0
    clear HO0
    have hWs := hA.size
    have hs1 := hb1.size
    have hWl : w.heap.size < W.heap.size := lt_of_cell HX.out.1
    have HA : Hid (OwnL W.heap.size (.slice a9 FS.length c9) FS (w1.alloc (.cells #[.string ⟨#[]⟩] 9))) := HO1.out.keep ((Below.refl _ _).alloc (Nat.le_refl _) _)
    obtain ⟨y0, y1, y2⟩ := HX.out.below hb1
    go_wp2_with (at_builtin; refine wpList_append_1L rfl _ _ rfl W.heap.size _ FS ⟨#[]⟩ w1.heap.size rfl rfl ?c1 HA.out ?c2 ?c3 ?_)
    case c1 => rw [World.cell?_alloc_at _ _ _ _ rfl]; rfl
    case c2 => simp; omega
    case c3 => omega
    intro v4 w4 hO4 hgr4 _
    have hb4 : Below W.heap.size W w4 := (hb1.alloc hs1 _).grown hgr4 (by simp; omega) (fun g hg => (HA.out.lt g hg).1)
    have HO4 : Hid (OwnL W.heap.size v4 (FS ++ [[]]) w4) := hO4
    have hb04 := nx hA hb4
    clear y0 y1 y2 hgr4 hO4 HA HO1
    obtain ⟨y0, y1, y2⟩ := HX.out.below hb4
    go_wp2_with fail
    refine (HBO.out _ hb04).mono ?_
    rintro e w5 ⟨rfl, hb5⟩
    have hb15 := nx hb4 hb5
    have hs5 := hb15.size
    clear y0 y1 y2
    obtain ⟨y0, y1, y2⟩ := HX.out.below hb15
    have HO5 := Lib.hid (HO4.out.keep hb5)
    have HB15 := Lib.hid hb15
    go_wp2_with fail
    go_loopw [7, 8] (fun v i wr => ∃ (k : Nat) (us : List Value), k ≤ nk ∧ i = .int .i64 k ∧ OwnSS w5.heap.size v us (ps.take k) wr ∧ Below w5.heap.size w5 wr) (fun _ i _ => nk - (intOf i).toNat)
    case atStart =>
      exact ⟨0, [], Nat.zero_le _, rfl, (OwnSS.empty w5), (Below.refl _ _).alloc (Nat.le_refl _) _⟩
    case round =>
      obtain ⟨k, us, hk, rfl, hown, hb⟩ := hrel
      have HO := Lib.hid hown
      have hbs := hb.size
      have hb1r := nx hb15 hb
      have hpt : (ps.take k).length = k := by rw [List.length_take]; have := HNK.out; omega
      have HPT := Lib.hid hpt
      clear hown hpt y0 y1 y2
      obtain ⟨y0, y1, y2⟩ := HX.out.below hb1r
      by_cases hlt : k < nk
      · have d1 : decide ((k : Int) < nk) = true := by simp; omega
        have hkp : k < ps.length := by rw [HNK.out]; exact hlt
        have hkx : k < p.kids.length := by rw [HKK.out]; exact hlt
        obtain ⟨bk, off, rfl, hbl, b1, e1, b2, e2, b3, e3, g0, g1, g2, g3⟩ := (HKS.out.below (nx hA hb1r)).at hkx
        have HC := Lib.hid (IH f' _ p.kids[k] wr ps[k] g3 (HMS.out k hkx hkp))
        have HTK : Hid (ps.take (k + 1) = ps.take k ++ [ps[k]]) := List.take_succ_eq_append_getElem hkp
        clear g3
        generalize p.kids[k].fields.length = n1 at *
        generalize p.kids[k].body.length = n2 at *
        generalize p.kids[k].kids.length = n3 at *
        obtain ⟨X, hX⟩ : ∃ X, X = ps[k] := ⟨_, rfl⟩
        have hXl : X.length ≤ 500000 := by rw [hX]; exact HPM.out k hkp
        rw [← hX] at HC HTK
        clear hX
        obtain ⟨a10, c10, rfl, _, _, _, _⟩ := HO.out.read
        rw [HPT.out] at HO ⊢
        go_wp2_with fail
        refine HC.out.mono ?_
        rintro e w6 ⟨v7, rfl, ho7, hb7⟩
        have hbs7 := hb7.size
        obtain ⟨ax, cx, rfl, _⟩ := ho7.read
        have hA1 : Below w6.heap.size w6 (w6.alloc (.cells #[.slice ax X.length cx] 23)) := (Below.refl _ _).alloc (Nat.le_refl _) _
        have HOU : Hid (OwnL w5.heap.size (.slice ax X.length cx) X (w6.alloc (.cells #[.slice ax X.length cx] 23))) := (ho7.keep hA1).base hbs
        have HOV : Hid (OwnSS w5.heap.size (.slice a10 k c10) us (ps.take k) (w6.alloc (.cells #[.slice ax X.length cx] 23))) := (HO.out.keep hb7).keep hA1
        have HO7 := Lib.hid ho7
        clear ho7 y0 y1 y2
        go_wp2_with (at_builtin; refine wpList_append_SS rfl _ _ rfl w5.heap.size _ (.slice ax X.length cx) us (ps.take k) X w6.heap.size rfl rfl ?q1 rfl HOV.out HOU.out ?q4 ?q5 ?q2 ?q3 ?_)
        case q1 => rw [World.cell?_alloc_at _ _ _ _ rfl]; rfl
        case q4 => exact fun g hg e => by have := (HO7.out.lt g hg).1; have := (HO.out.lt.1 g e).2; omega
        case q5 => exact fun i z g hz hg e => by have := (HO7.out.lt g hg).1; have := (HO.out.lt.2 i z g hz e).2; omega
        case q2 => simp; omega
        case q3 => rw [HPT.out]; omega
        intro v' w8 hO8 hgr8 _
        have hb8 : Below w5.heap.size w5 w8 := ((nx hb hb7).alloc (nx hb hb7).size _).grown hgr8 (by simp; omega) (fun g hg => (HOV.out.lt.1 g hg).1)
        rw [← HTK.out] at hO8
        have HN8 := Lib.hid hO8
        clear hO8 hgr8
        go_wp2
        go_roundw
        case rel => exact ⟨k + 1, _, by omega, by go_num, HN8.out, hb8⟩
        case measure => simp [intOf]; omega
      · have hkn : k = nk := by omega
        have d1 : decide ((k : Int) < nk) = false := by simp; omega
        have HT : Hid (ps.take k = ps) := by show _ = _; rw [hkn, ← HNK.out, List.take_length]
        rw [HT.out] at HO
        obtain ⟨a10, c10, rfl, hrd, _, _, _⟩ := HO.out.read
        have HRD := Lib.hid hrd
        clear hrd
        have HJ2 : Hid (Calls Tryz.prog 56 #[.slice a10 nk c10, .string BB] wr (LinesRet (some r) wr)) := HJ.out a10 c10 wr (by have := HRD.out; rw [HNK.out] at this; exact this)
        rw [HNK.out] at HO ⊢
        clear hkn HRD
        go_wp2_with fail
        refine HJ2.out.mono ?_
        intro e w6 hret
        obtain ⟨ax, cx, rfl, ho6, _, hb6⟩ := hret.some'
        have hb56 := nx hb hb6
        have hb16 := nx hb15 hb56
        have hs6 := hb16.size
        have HO6 := Lib.hid (HO5.out.keep hb56)
        have HR6 := Lib.hid (ownL_rd' ho6)
        have HAC : Hid (ax = none → cx = 0) := by
          obtain ⟨_, _, e, _, _, h, _⟩ := ho6.readc
          injection e with e1 _ e3
          subst e1 e3; exact h
        clear ho6 hret y0 y1 y2
        go_wp2_with (at_builtin; refine wpList_append_RL rfl _ _ rfl W.heap.size _ (FS ++ [[]]) r ax r.length cx rfl rfl HO6.out HR6.out HAC.out hs6 ?d1 ?_)
        case d1 => rw [List.length_append, List.length_singleton]; omega
        intro v9 w9 hO9 hgr9 _
        have hb9 : Below W.heap.size W w9 := hb16.grown hgr9 hs6 (fun g hg => (HO6.out.lt g hg).1)
        have HO9 : Hid (OwnL w.heap.size v9 ls w9) := by
          show OwnL _ _ _ _
          rw [HLR.out]
          have := hO9.base hWs
          first
            | exact this
            | (rw [List.append_assoc] at this; exact this)
        clear hO9 hgr9
        go_wp2
        go_ret
        exact ⟨_, rfl, HO9.out, nx hA hb9⟩
theorem fmt_all : ∀ d, d ≤ 3 → FmtAt d
  | 0, _ => fun _ _ _ _ _ _ h => by cases h
  | d + 1, h => fmt_step d (by omega) (fmt_all d (by omega))
theorem linesT_restSome {d : Nat} {p : Prt} (h : fldsOk p.fields = true) : (linesT (d + 1) p).isSome = (restO d p).isSome := by
  rw [linesT_rest, if_pos h]; cases restO d p <;> rfl
def ValidAt (d : Nat) : Prop := ∀ (f : Nat) (v : Value) (p : Prt) (u : World), RdT u f v p → Calls Tryz.prog 53 #[v, .int .i64 (d : Int)] u fun e w' => e = .returned (.bool (linesT d p).isSome) ∧ Below u.heap.size u w'
set_option maxRecDepth 100000 in
set_option maxHeartbeats 1000000 in
theorem valid_zero : ValidAt 0 := by
  intro f v p w hr
  obtain ⟨f', a1, c1, a2, c2, a3, c3, rfl, rfl, ⟨hf, hfc⟩, _, _, hpf, _⟩ := hr.open
  have HV : Hid (∀ u, Below w.heap.size w u → Calls Tryz.prog 80 #[.slice a1 p.fields.length c1] u fun e w' => e = .returned (.bool (fldsOk p.fields)) ∧ Below u.heap.size u w') := fun u h => l3Valid_any a1 p.fields.length c1 p.fields u (hf.below h) (by have := hpf.1; omega) (fun x hx => (hpf.2.1 x hx).up (by omega))
  have hA : Below w.heap.size w (w.alloc (.cells #[.slice a1 p.fields.length c1, .slice a2 p.body.length c2, .slice a3 p.kids.length c3] 33)) := (Below.refl _ _).alloc (Nat.le_refl _) _
  have HN : Hid ((linesT 0 p).isSome = false) := rfl
  clear hf hfc hpf hr
  rw [HN.out]
  generalize fldsOk p.fields = ok at *
  generalize p.fields.length = n1 at *
  generalize p.body.length = n2 at *
  generalize p.kids.length = n3 at *
  cases ok
  all_goals
    go_enter Tryz.func53, Tryz.ntmps53
    go_wp2_with fail
    refine (HV.out _ hA).mono ?_
    rintro e w1 ⟨rfl, hb1⟩
    go_wp2
    go_ret
    exact ⟨rfl, nx hA hb1⟩
set_option maxRecDepth 100000 in
set_option maxHeartbeats 4000000 in
theorem valid_step (d : Nat) (hd : d ≤ 2) (IH : ValidAt d) : ValidAt (d + 1) := by
  intro f v p w hr
  obtain ⟨f', a1, c1, a2, c2, a3, c3, rfl, rfl, ⟨hf, hfc⟩, ⟨hbd, hbc, hbn⟩, hkc, hpf, hks⟩ := hr.open
  have HV : Hid (∀ u, Below w.heap.size w u → Calls Tryz.prog 80 #[.slice a1 p.fields.length c1] u fun e w' => e = .returned (.bool (fldsOk p.fields)) ∧ Below u.heap.size u w') := fun u h => l3Valid_any a1 p.fields.length c1 p.fields u (hf.below h) (by have := hpf.1; omega) (fun x hx => (hpf.2.1 x hx).up (by omega))
  have HBO : Hid (∀ u, Below w.heap.size w u → Calls Tryz.prog 55 #[.slice a1 p.fields.length c1] u (BndRet (bndF p.fields) u)) := fun u h => l8Boundary_any a1 p.fields.length c1 p.fields u (hf.below h) hpf.1 hpf.2.1
  have HBY : Hid (∀ u, Below w.heap.size w u → Calls Tryz.prog 81 #[.slice a2 p.body.length c2] u fun e w' => e = .returned (.bool (okBody p.body)) ∧ Below u.heap.size u w') := fun u h => l8Body_any a2 p.body.length c2 p.body u (hbd.below h) hpf.2.2.1 hpf.2.2.2.1
  have HKS := Lib.hid hks
  have hnb : p.body.length ≤ 1048576 := hpf.2.2.1
  have hnk : p.kids.length ≤ 1048576 := hpf.2.2.2.2
  have hA : Below w.heap.size w (w.alloc (.cells #[.slice a1 p.fields.length c1, .slice a2 p.body.length c2, .slice a3 p.kids.length c3] 33)) := (Below.refl _ _).alloc (Nat.le_refl _) _
  have HX := Lib.hid (KK3.new w (.slice a1 p.fields.length c1) (.slice a2 p.body.length c2) (.slice a3 p.kids.length c3) 33)
  have hdd : (((d + 1 : Nat) : Int)) = (d : Int) + 1 := by omega
  have e1 : decide ((d : Int) + 1 < 1) = false := by simp; omega
  rw [hdd]
  clear hf hfc hbd hbc hbn hkc hpf hks hr hdd
  cases hok : fldsOk p.fields with
  | false =>
    have HN : Hid ((linesT (d + 1) p).isSome = false) := by show _ = _; rw [linesT_no hok]; rfl
    rw [hok] at HV
    rw [HN.out]
    clear hok HKS HBO HBY
    generalize p.fields.length = n1 at *
    generalize p.body.length = n2 at *
    generalize p.kids.length = n3 at *
    go_enter Tryz.func53, Tryz.ntmps53
    go_wp2_with fail
    refine (HV.out _ hA).mono ?_
    rintro e w1 ⟨rfl, hb1⟩
    go_wp2
    go_ret
    exact ⟨rfl, nx hA hb1⟩
  | true =>
    rw [linesT_restSome hok]
    rw [hok] at HV
    clear hok
    unfold BndRet at HBO
    cases hq : bndF p.fields with
    | none =>
      have HL := Lib.hid (restO_leaf (d := d) hq)
      rw [hq] at HBO
      clear hq HKS
      by_cases hk0 : p.kids.length = 0
      · have HKN : Hid (p.kids = []) := List.length_eq_zero_iff.1 hk0
        have e0 : ((p.kids.length : Int) == 0) = true := by rw [beq_iff_eq]; omega
        have HN : Hid ((restO d p).isSome = okBody p.body) := by
          show _ = _
          rw [HL.out]
          cases hv : okBody p.body
          · rw [if_neg (fun c => by cases c.1)]; rfl
          · rw [if_pos ⟨rfl, HKN.out⟩]; rfl
        rw [HN.out]
        clear hk0 HL
        generalize okBody p.body = ob at *
        generalize p.fields.length = n1 at *
        generalize p.body.length = n2 at *
        generalize p.kids.length = n3 at *
        go_enter Tryz.func53, Tryz.ntmps53
        go_wp2_with fail
        refine (HV.out _ hA).mono ?_
        rintro e w1 ⟨rfl, hb1⟩
        have hb01 := nx hA hb1
        obtain ⟨y0, y1, y2⟩ := HX.out.below hb1
        go_wp2_with fail
        refine (HBO.out _ hb01).mono ?_
        rintro e w2 ⟨rfl, hb2⟩
        have hb02 := nx hb01 hb2
        clear y0 y1 y2
        obtain ⟨y0, y1, y2⟩ := HX.out.below (nx hb1 hb2)
        go_wp2_with fail
        refine (HBY.out _ hb02).mono ?_
        rintro e w3 ⟨rfl, hb3⟩
        go_wp2
        go_ret
        exact ⟨rfl, nx hb02 hb3⟩
      · have HN : Hid ((restO d p).isSome = false) := by show _ = _; rw [HL.out, if_neg (fun c => hk0 (by rw [c.2]; rfl))]; rfl
        have e0 : ((p.kids.length : Int) == 0) = false := by rw [beq_eq_false_iff_ne]; omega
        rw [HN.out]
        clear hk0 HL HBY
        generalize p.fields.length = n1 at *
        generalize p.body.length = n2 at *
        generalize p.kids.length = n3 at *
        go_enter Tryz.func53, Tryz.ntmps53
        go_wp2_with fail
        refine (HV.out _ hA).mono ?_
        rintro e w1 ⟨rfl, hb1⟩
        have hb01 := nx hA hb1
        obtain ⟨y0, y1, y2⟩ := HX.out.below hb1
        go_wp2_with fail
        refine (HBO.out _ hb01).mono ?_
        rintro e w2 ⟨rfl, hb2⟩
        have hb02 := nx hb01 hb2
        clear y0 y1 y2
        obtain ⟨y0, y1, y2⟩ := HX.out.below (nx hb1 hb2)
        go_wp2
        go_ret
        exact ⟨rfl, hb02⟩
    | some b =>
      have HL := Lib.hid (restO_many (d := d) hq)
      have HBD := Lib.hid (bndF_bnd hq)
      have hbl : b.length ≤ 20 := by have := bndF_bnd hq; unfold isBnd at this; simp at this; omega
      have hbz : (str b).size ≤ 20 := by rw [str_size]; exact hbl
      rw [hq] at HBO
      have HB : Hid (∀ u, Below w.heap.size w u → Calls Tryz.prog 55 #[.slice a1 p.fields.length c1] u fun e w' => e = .returned (.tuple #[.string (str b), .bool true]) ∧ Below u.heap.size u w') := HBO.out
      have HLK : Hid (∀ (x : List UInt8) u, Calls Tryz.prog 82 #[.string (str x), .string (str b)] u fun e w' => e = .returned (.bool (looksB b x)) ∧ u = w') := fun x u => by
        have := l7Looks_any x (str b) u (by omega)
        rw [str_list] at this; exact this
      clear hq hbl HBO HBY
      generalize str b = BB at *
      by_cases hgo : p.body.length = 0 ∧ 1 ≤ p.kids.length ∧ p.kids.length ≤ 4
      · obtain ⟨hb0, hk1, hk4⟩ := hgo
        have HBE : Hid (p.body = []) := List.length_eq_zero_iff.1 hb0
        have HRO : Hid ((restO d p).isSome = (kidsO d p.kids b).isSome) := by show _ = _; rw [HL.out, if_pos HBE.out]
        have d1 : decide (0 < p.body.length) = false := decide_eq_false (by omega)
        have d2 : decide ((p.kids.length : Int) < 1) = false := decide_eq_false (by omega)
        have d3 : decide ((4 : Int) < p.kids.length) = false := decide_eq_false (by omega)
        rw [HRO.out]
        clear HL HRO HBE hb0
        generalize hnkq : p.kids.length = nk at *
        have HNK := Lib.hid hnkq
        clear hnkq
        generalize p.body.length = nb at *
        generalize p.fields.length = nf at *
        go_enter Tryz.func53, Tryz.ntmps53
        go_wp2_with fail
        refine (HV.out _ hA).mono ?_
        rintro e w1 ⟨rfl, hb1⟩
        have hb01 := nx hA hb1
        obtain ⟨y0, y1, y2⟩ := HX.out.below hb1
        go_wp2_with fail
        refine (HB.out _ hb01).mono ?_
        rintro e w2 ⟨rfl, hb2⟩
        have hb02 := nx hb01 hb2
        have hb12 := nx hb1 hb2
        clear y0 y1 y2
        obtain ⟨y0, y1, y2⟩ := HX.out.below hb12
        go_wp2_with fail
        go_loopw [7] (fun i wr => ∃ (k : Nat), k ≤ nk ∧ i = .int .i64 k ∧ (∀ j, j < k → (hj : j < p.kids.length) → kidGood d b p.kids[j]) ∧ Below w2.heap.size w2 wr) (fun i _ => nk - (intOf i).toNat)
        case atStart => exact ⟨0, Nat.zero_le _, rfl, (fun j h => by omega), Below.refl _ _⟩
        case round =>
          obtain ⟨k, hk, rfl, hall, hb⟩ := hrel
          have HALL := Lib.hid hall
          have hb0r := nx hb02 hb
          have hb1r := nx hb12 hb
          clear hall y0 y1 y2
          obtain ⟨y0, y1, y2⟩ := HX.out.below hb1r
          by_cases hlt : k < nk
          · have d4 : decide ((k : Int) < nk) = true := decide_eq_true (by omega)
            have hkx : k < p.kids.length := by rw [HNK.out]; exact hlt
            obtain ⟨bk, off, rfl, hbl, b1, e1, b2, e2, b3, e3, g0, g1, g2, g3⟩ := (HKS.out.below hb0r).at hkx
            have HC := Lib.hid (IH f' _ p.kids[k] wr g3)
            have HFM : Hid (∀ u ls, Below wr.heap.size wr u → linesT d p.kids[k] = some ls → Calls Tryz.prog 31 #[.agg #[.slice b1 p.kids[k].fields.length e1, .slice b2 p.kids[k].body.length e2, .slice b3 p.kids[k].kids.length e3]] u fun e w' => ∃ v', e = .returned v' ∧ OwnL u.heap.size v' ls w' ∧ Below u.heap.size u w') := fun u ls h hl => fmt_all d (by omega) f' _ p.kids[k] u ls (g3.below h f') hl
            have hblr := lt_of_cell g0
            have HG : Hid (∀ u, Below wr.heap.size wr u → u.cell? ⟨bk, off + k * 3, none⟩ = some (.slice b1 p.kids[k].fields.length e1) ∧ u.cell? ⟨bk, off + k * 3 + 1, none⟩ = some (.slice b2 p.kids[k].body.length e2) ∧ u.cell? ⟨bk, off + k * 3 + 2, none⟩ = some (.slice b3 p.kids[k].kids.length e3)) := fun u h => ⟨by rw [below_at h hblr, g0], by rw [below_at h hblr, g1], by rw [below_at h hblr, g2]⟩
            have HBAD := Lib.hid (kidsO_bad (d := d) (b := b) hkx)
            have HSZ : Hid (∀ ls, linesT d p.kids[k] = some ls → ls.length ≤ 500000) := fun ls h => by
              have h5 : 5 ^ d ≤ 125 := pow5 (by omega)
              have := linesT_len d _ _ h; omega
            have HLO : Hid (∀ ls, linesT d p.kids[k] = some ls → freeB b ls = false → kidsO d p.kids b = none) := fun ls h1 h2 => kidsO_looks hkx h1 h2
            have HGO : Hid (∀ ls, linesT d p.kids[k] = some ls → freeB b ls = true → ∀ j, j < k + 1 → (hj : j < p.kids.length) → kidGood d b p.kids[j]) := fun ls h1 h2 j hj hjx => by
              by_cases e : j = k
              · subst e; exact ⟨ls, h1, h2⟩
              · exact HALL.out j (by omega) hjx
            clear g3
            generalize p.kids[k].fields.length = n1 at *
            generalize p.kids[k].body.length = n2 at *
            generalize p.kids[k].kids.length = n3 at *
            generalize linesT d p.kids[k] = o at *
            cases o with
            | none =>
              have HN : Hid ((kidsO d p.kids b).isSome = false) := by show _ = _; rw [HBAD.out rfl]; rfl
              clear HFM HLO HGO HBAD
              go_wp2_with fail
              refine HC.out.mono ?_
              rintro e w6 ⟨rfl, hb6⟩
              go_wp2
              go_ret
              exact ⟨ret_bool HN.out.symm, nx hb0r hb6⟩
            | some ls =>
              have HF6 := Lib.hid (fun u h => HFM.out u ls h rfl)
              have HL6 := Lib.hid (HLO.out ls rfl)
              have HG6 := Lib.hid (HGO.out ls rfl)
              clear HFM HLO HGO HBAD
              go_wp2_with fail
              refine HC.out.mono ?_
              rintro e w6 ⟨rfl, hb6⟩
              have hb16 := nx hb1r hb6
              clear y0 y1 y2 g0 g1 g2
              obtain ⟨y0, y1, y2⟩ := HX.out.below hb16
              obtain ⟨g0, g1, g2⟩ := HG.out _ hb6
              go_wp2_with fail
              refine (HF6.out _ hb6).mono ?_
              rintro e w7 ⟨v7, rfl, ho7, hb7⟩
              have hb17 := nx hb16 hb7
              have hb67 := nx hb6 hb7
              clear y0 y1 y2 g0 g1 g2
              obtain ⟨y0, y1, y2⟩ := HX.out.below hb17
              obtain ⟨a7, c7, rfl, hr7, _⟩ := ho7.read
              have HR7 := Lib.hid hr7
              clear ho7 hr7
              have hm : ls.length ≤ 500000 := HSZ.out ls rfl
              obtain ⟨m, hmq⟩ : ∃ m, m = ls.length := ⟨_, rfl⟩
              rw [← hmq] at HR7 hm ⊢
              have HM := Lib.hid hmq
              clear hmq
              go_wp2_with fail
              go_loopw [9] (fun i wq => ∃ (t : Nat), t ≤ m ∧ i = .int .i64 t ∧ wq = w7 ∧ (∀ s, s < t → (hs : s < ls.length) → looksB b ls[s] = false)) (fun i _ => m - (intOf i).toNat)
              case atStart => exact ⟨0, Nat.zero_le _, rfl, rfl, (fun s h => by omega)⟩
              case round =>
                obtain ⟨t, ht, rfl, rfl, hal⟩ := hrel
                have HAL := Lib.hid hal
                clear hal
                by_cases htl : t < m
                · have d5 : decide ((t : Int) < m) = true := decide_eq_true (by omega)
                  have htx : t < ls.length := by rw [← HM.out]; exact htl
                  obtain ⟨b7, o7, rfl, hb7l, hc7⟩ := HR7.out.2.resolve_left (by omega)
                  have q7 := hc7 t htx
                  have HLL := Lib.hid (HLK.out ls[t])
                  have HBD7 : Hid (looksB b ls[t] = true → (kidsO d p.kids b).isSome = false) := fun h => by rw [HL6.out (freeB_f htx h)]; rfl
                  have HNX : Hid (looksB b ls[t] = false → ∀ s, s < t + 1 → (hs : s < ls.length) → looksB b ls[s] = false) := fun h s hs hsx => by
                    by_cases e : s = t
                    · subst e; exact h
                    · exact HAL.out s (by omega) hsx
                  clear hc7
                  generalize looksB b ls[t] = q at *
                  generalize str ls[t] = S at *
                  cases q
                  · have HN := Lib.hid (HNX.out rfl)
                    go_wp2_with fail
                    refine (HLL.out _).mono ?_
                    rintro e w9 ⟨rfl, rfl⟩
                    go_wp2
                    go_roundw
                    case rel =>
                      first
                        | exact ⟨t + 1, by omega, by go_num, rfl, HN.out⟩
                        | exact ⟨t + 1, by omega, by go_num, trivial, HN.out⟩
                        | exact ⟨t + 1, by omega, by go_num, HN.out⟩
                    case measure => simp [intOf]; omega
                  · have HN := Lib.hid (HBD7.out rfl)
                    go_wp2_with fail
                    refine (HLL.out _).mono ?_
                    rintro e w9 ⟨rfl, rfl⟩
                    go_wp2
                    go_ret
                    exact ⟨ret_bool HN.out.symm, nx hb0r hb67⟩
                · have d5 : decide ((t : Int) < m) = false := decide_eq_false (by omega)
                  have HN := Lib.hid (HG6.out (freeB_t fun s hs => HAL.out s (by have := HM.out; omega) hs))
                  go_wp2
                  go_roundw
                  case rel => exact ⟨k + 1, by omega, by go_num, HN.out, nx hb hb67⟩
                  case measure => simp [intOf]; omega
          · have d4 : decide ((k : Int) < nk) = false := decide_eq_false (by omega)
            have HN : Hid ((kidsO d p.kids b).isSome = true) := kidsO_good HBD.out (fun e => by have := HNK.out; rw [e] at this; simp at this; omega) (by rw [HNK.out]; exact hk4) (fun i hi => HALL.out i (by have := HNK.out; omega) hi)
            go_wp2
            go_ret
            exact ⟨ret_bool HN.out.symm, hb0r⟩
      · have HN : Hid ((restO d p).isSome = false) := by
          show _ = _
          rw [HL.out]
          by_cases hb0 : p.body = []
          · rw [if_pos hb0]
            by_cases h4 : p.kids.length ≤ 4
            · have : p.kids = [] := by
                refine List.length_eq_zero_iff.1 ?_
                have : p.body.length = 0 := by rw [hb0]; rfl
                omega
              rw [this, kidsO_nil]; rfl
            · rw [kidsO_long (by omega)]; rfl
          · rw [if_neg hb0]; rfl
        rw [HN.out]
        clear HL HN HKS HBD
        by_cases hb0 : p.body.length = 0
        · have d1 : decide (0 < p.body.length) = false := decide_eq_false (by omega)
          by_cases hk1 : p.kids.length < 1
          · have d2 : decide ((p.kids.length : Int) < 1) = true := decide_eq_true (by omega)
            clear hgo hb0 hk1
            generalize p.fields.length = n1 at *
            generalize p.body.length = n2 at *
            generalize p.kids.length = n3 at *
            go_enter Tryz.func53, Tryz.ntmps53
            go_wp2_with fail
            refine (HV.out _ hA).mono ?_
            rintro e w1 ⟨rfl, hb1⟩
            have hb01 := nx hA hb1
            obtain ⟨y0, y1, y2⟩ := HX.out.below hb1
            go_wp2_with fail
            refine (HB.out _ hb01).mono ?_
            rintro e w2 ⟨rfl, hb2⟩
            have hb02 := nx hb01 hb2
            clear y0 y1 y2
            obtain ⟨y0, y1, y2⟩ := HX.out.below (nx hb1 hb2)
            go_wp2
            go_ret
            exact ⟨rfl, hb02⟩
          · have d2 : decide ((p.kids.length : Int) < 1) = false := decide_eq_false (by omega)
            have d3 : decide ((4 : Int) < p.kids.length) = true := decide_eq_true (by omega)
            clear hgo hb0 hk1
            generalize p.fields.length = n1 at *
            generalize p.body.length = n2 at *
            generalize p.kids.length = n3 at *
            go_enter Tryz.func53, Tryz.ntmps53
            go_wp2_with fail
            refine (HV.out _ hA).mono ?_
            rintro e w1 ⟨rfl, hb1⟩
            have hb01 := nx hA hb1
            obtain ⟨y0, y1, y2⟩ := HX.out.below hb1
            go_wp2_with fail
            refine (HB.out _ hb01).mono ?_
            rintro e w2 ⟨rfl, hb2⟩
            have hb02 := nx hb01 hb2
            clear y0 y1 y2
            obtain ⟨y0, y1, y2⟩ := HX.out.below (nx hb1 hb2)
            go_wp2
            go_ret
            exact ⟨rfl, hb02⟩
        · have d1 : decide (0 < p.body.length) = true := decide_eq_true (by omega)
          clear hgo hb0
          generalize p.fields.length = n1 at *
          generalize p.body.length = n2 at *
          generalize p.kids.length = n3 at *
          go_enter Tryz.func53, Tryz.ntmps53
          go_wp2_with fail
          refine (HV.out _ hA).mono ?_
          rintro e w1 ⟨rfl, hb1⟩
          have hb01 := nx hA hb1
          obtain ⟨y0, y1, y2⟩ := HX.out.below hb1
          go_wp2_with fail
          refine (HB.out _ hb01).mono ?_
          rintro e w2 ⟨rfl, hb2⟩
          have hb02 := nx hb01 hb2
          clear y0 y1 y2
          obtain ⟨y0, y1, y2⟩ := HX.out.below (nx hb1 hb2)
          go_wp2
          go_ret
          exact ⟨rfl, hb02⟩
theorem valid_all : ∀ d, d ≤ 3 → ValidAt d
  | 0, _ => valid_zero
  | d + 1, h => valid_step d (by omega) (valid_all d (by omega))
end Go.Proofs.YtcdmjckkencgoaaGreatDoor
end

section
namespace Go.Proofs.YtcdmjckkencgoaaGreatDoor
open Go.RowKit

set_option maxRecDepth 100000 in
set_option maxHeartbeats 1000000 in
theorem partValid_any (f : Nat) (v : Value) (p : Prt) (w : World) (tab : Tab w) (hr : RdT w f v p) :
    Calls Tryz.prog 43 #[v] w fun e w' => e = .returned (.bool (isPrt p)) ∧ Below w.heap.size w w' := by
  have HL : Hid (∀ u, Below w.heap.size w u → Calls Tryz.prog 34 #[v, .int .i64 3] u (LinesRet (linesT 3 p) u)) := fun u h => lines_all 3 (by omega) f v p u (tab.below h) (hr.below h f)
  have HQ : Hid ((linesT 3 p).isSome = isPrt p) := rfl
  obtain ⟨f', a1, c1, a2, c2, a3, c3, hff, rfl, _⟩ := hr.open
  have hA : Below w.heap.size w (w.alloc (.cells #[.slice a1 p.fields.length c1, .slice a2 p.body.length c2, .slice a3 p.kids.length c3] 33)) := (Below.refl _ _).alloc (Nat.le_refl _) _
  clear hr tab hff
  unfold LinesRet at HL
  rw [HQ.out] at HL
  generalize isPrt p = q at *
  generalize p.fields.length = n1 at *
  generalize p.body.length = n2 at *
  generalize p.kids.length = n3 at *
  go_enter Tryz.func43, Tryz.ntmps43
  go_wp2_with fail
  refine (HL.out _ hA).mono ?_
  rintro e w1 ⟨v', rfl, _, hb1⟩
  go_wp2
  go_ret
  exact ⟨rfl, nx hA hb1⟩
set_option maxRecDepth 100000 in
set_option maxHeartbeats 1000000 in
theorem partValidS_any (f : Nat) (v : Value) (p : Prt) (w : World) (hr : RdT w f v p) :
    Calls Tryz.prog 30 #[v] w fun e w' => e = .returned (.bool (isPrt p)) ∧ Below w.heap.size w w' := by
  have HL : Hid (∀ u, Below w.heap.size w u → Calls Tryz.prog 53 #[v, .int .i64 3] u fun e w' => e = .returned (.bool (isPrt p)) ∧ Below u.heap.size u w') := fun u h => valid_all 3 (by omega) f v p u (hr.below h f)
  obtain ⟨f', a1, c1, a2, c2, a3, c3, hff, rfl, _⟩ := hr.open
  have hA : Below w.heap.size w (w.alloc (.cells #[.slice a1 p.fields.length c1, .slice a2 p.body.length c2, .slice a3 p.kids.length c3] 33)) := (Below.refl _ _).alloc (Nat.le_refl _) _
  clear hr hff
  generalize isPrt p = q at *
  generalize p.fields.length = n1 at *
  generalize p.body.length = n2 at *
  generalize p.kids.length = n3 at *
  go_enter Tryz.func30, Tryz.ntmps30
  go_wp2_with fail
  refine (HL.out _ hA).mono ?_
  rintro e w1 ⟨rfl, hb1⟩
  go_wp2
  go_ret
  exact ⟨rfl, nx hA hb1⟩
end Go.Proofs.YtcdmjckkencgoaaGreatDoor
end

section
namespace Go.Proofs.YtcdmjckkencgoaaGreatDoor
open Go.RowKit

set_option maxRecDepth 100000 in
set_option maxHeartbeats 1000000 in
theorem formatPart_any (f : Nat) (v : Value) (p : Prt) (w : World) (tab : Tab w) (hr : RdT w f v p) :
    Calls Tryz.prog 10 #[v] w (LinesRet (linesT 3 p) w) := by
  have HL : Hid (∀ u, Below w.heap.size w u → Calls Tryz.prog 34 #[v, .int .i64 3] u (LinesRet (linesT 3 p) u)) := fun u h => lines_all 3 (by omega) f v p u (tab.below h) (hr.below h f)
  obtain ⟨f', a1, c1, a2, c2, a3, c3, hff, rfl, _⟩ := hr.open
  have hA : Below w.heap.size w (w.alloc (.cells #[.slice a1 p.fields.length c1, .slice a2 p.body.length c2, .slice a3 p.kids.length c3] 33)) := (Below.refl _ _).alloc (Nat.le_refl _) _
  clear hr tab hff
  generalize linesT 3 p = o at *
  generalize p.fields.length = n1 at *
  generalize p.body.length = n2 at *
  generalize p.kids.length = n3 at *
  go_enter Tryz.func10, Tryz.ntmps10
  go_wp2_with fail
  refine (HL.out _ hA).mono ?_
  rintro e w1 ⟨v', rfl, ho, hb1⟩
  have HO := Lib.hid (ho.base hA.size)
  obtain ⟨a, c, rfl, _⟩ := ho.read
  clear ho
  go_wp2
  go_ret2
  exact ⟨_, rfl, HO.out, nx hA hb1⟩
set_option maxRecDepth 100000 in
set_option maxHeartbeats 1000000 in
theorem formatPartS_any (f : Nat) (v : Value) (p : Prt) (w : World) (hr : RdT w f v p) :
    Calls Tryz.prog 8 #[v] w (LinesRet (linesT 3 p) w) := by
  have HV : Hid (∀ u, Below w.heap.size w u → Calls Tryz.prog 30 #[v] u fun e w' => e = .returned (.bool (isPrt p)) ∧ Below u.heap.size u w') := fun u h => partValidS_any f v p u (hr.below h f)
  have HF : Hid (∀ u ls, Below w.heap.size w u → linesT 3 p = some ls → Calls Tryz.prog 31 #[v] u fun e w' => ∃ v', e = .returned v' ∧ OwnL u.heap.size v' ls w' ∧ Below u.heap.size u w') := fun u ls h hl => fmt_all 3 (by omega) f v p u ls (hr.below h f) hl
  have HQ : Hid ((linesT 3 p).isSome = isPrt p) := rfl
  obtain ⟨f', a1, c1, a2, c2, a3, c3, hff, rfl, _⟩ := hr.open
  have hA : Below w.heap.size w (w.alloc (.cells #[.slice a1 p.fields.length c1, .slice a2 p.body.length c2, .slice a3 p.kids.length c3] 33)) := (Below.refl _ _).alloc (Nat.le_refl _) _
  have HX := Lib.hid (KK3.new w (.slice a1 p.fields.length c1) (.slice a2 p.body.length c2) (.slice a3 p.kids.length c3) 33)
  clear hr hff
  generalize linesT 3 p = o at *
  generalize isPrt p = q at *
  generalize p.fields.length = n1 at *
  generalize p.body.length = n2 at *
  generalize p.kids.length = n3 at *
  obtain ⟨y0, y1, y2⟩ := HX.out
  go_enter Tryz.func8, Tryz.ntmps8
  go_wp2_with fail
  refine (HV.out _ hA).mono ?_
  rintro e w1 ⟨rfl, hb1⟩
  have hb01 := nx hA hb1
  clear y0 y1 y2
  obtain ⟨y0, y1, y2⟩ := HX.out.below hb1
  cases o with
  | none =>
    have hq : q = false := HQ.out.symm
    subst hq
    have HE : Hid (OwnL w.heap.size (.slice (some ⟨w1.heap.size, 0, none⟩) 0 0) [] (w1.alloc (.cells #[] 9))) := (OwnL.empty w1).base hb01.size
    have hb2 := hb01.alloc hb01.size (.cells #[] 9)
    clear y0 y1 y2
    go_wp2
    go_ret2
    exact ⟨_, rfl, HE.out, hb2⟩
  | some ls =>
    have hq : q = true := HQ.out.symm
    subst hq
    go_wp2_with fail
    refine (HF.out _ ls hb01 rfl).mono ?_
    rintro e w2 ⟨v', rfl, ho, hb2⟩
    have HO := Lib.hid (ho.base hb01.size)
    obtain ⟨a, c, rfl, _⟩ := ho.read
    clear ho y0 y1 y2
    go_wp2
    go_ret2
    exact ⟨_, rfl, HO.out, nx hb01 hb2⟩
end Go.Proofs.YtcdmjckkencgoaaGreatDoor
end

section
namespace Go.Proofs.YtcdmjckkencgoaaGreatDoor
open Go.ChangeShapes Go.WideShapes Go.ChangeAt Go.RowKit
open Go.ChangeMaps (open_string shut_string)

def SizedG2 (m : Int) (xs : List Fld) (w : World) (e : Ending) (w' : World) : Prop := ∃ r : Int, e = .returned (.int .i64 r) ∧ -1 ≤ r ∧ r ≤ m ∧ (0 ≤ r → r + (xs.length : Int) ≤ m ∧ ∀ x ∈ xs, SmallF m.toNat x) ∧ Below w.heap.size w w'
set_option maxRecDepth 100000 in
set_option maxHeartbeats 1000000 in
theorem szFieldS_two (a : Option Addr) (n c : Nat) (xs : List Fld) (m : Int) (w : World) (hr : RdF w a n xs) (hn : n ≤ maxLen) (hm0 : 0 ≤ m) (hm : m ≤ 1073741824) (hx : ∀ x ∈ xs, SmallF maxLen x) :
    Calls Tryz.prog 28 #[.slice a n c, .int .i64 m] w (SizedG2 m xs w) := by
  unfold maxLen at hn
  obtain ⟨hl, hr2⟩ := hr
  have HLEN := Lib.hid hl
  have HR2 := Lib.hid hr2
  have HXX := Lib.hid hx
  clear hl hr2 hx
  by_cases hbig : m < n
  · have d1 : (m - n : Int) < 0 := by omega
    go_enter Tryz.func28, Tryz.ntmps28
    go_wp2
    go_ret
    exact ⟨-1, rfl, by omega, by omega, fun h => by omega, Below.refl _ _⟩
  · go_enter Tryz.func28, Tryz.ntmps28
    go_wp2_with fail
    go_loopw [1, 5] (fun l i wr => ∃ (k : Nat) (r : Int), k ≤ n ∧ i = .int .i64 k ∧ l = .int .i64 r ∧ 0 ≤ r ∧ r + n ≤ m ∧ Below w.heap.size w wr ∧ ∀ j, j < k → (hj : j < xs.length) → SmallF m.toNat xs[j]) (fun _ i _ => n - (intOf i).toNat)
    case atStart => exact ⟨0, m - n, Nat.zero_le _, rfl, rfl, by omega, by omega, Below.refl _ _, fun j h => by omega⟩
    case round =>
      obtain ⟨k, r, hk, rfl, rfl, hr0, hrm, hb, hall⟩ := hrel
      have HA := Lib.hid hall
      clear hall
      by_cases hlt : k < n
      · have hkx : k < xs.length := by rw [HLEN.out]; exact hlt
        obtain ⟨b, off, rfl, hbl, hcell⟩ := HR2.out.resolve_left (by omega)
        obtain ⟨q0, q1⟩ := RdR.fld hcell hkx
        rw [← below_at hb hbl] at q0 q1
        obtain ⟨z0, z1⟩ := HXX.out _ (List.getElem_mem hkx)
        have HZ : Hid ((str xs[k].name).size = xs[k].name.length ∧ (str xs[k].val).size = xs[k].val.length) := ⟨str_size _, str_size _⟩
        rw [← str_size] at z0 z1
        clear hcell
        generalize str xs[k].name = s0 at *
        generalize str xs[k].val = s1 at *
        go_wp2_with fail
        refine (szField_any s0 s1 r _ z0 z1 hr0 (by omega)).mono ?_
        rintro e w2 ⟨r2, rfl, hg1, hg2, hsm, hb2⟩
        have HSM := Lib.hid hsm
        clear hsm
        by_cases hneg : r2 < 0
        · go_wp2
          go_ret
          exact ⟨-1, rfl, by omega, by omega, fun h => by omega, nx hb hb2⟩
        · go_wp2
          go_roundw
          case rel => exact ⟨k + 1, r2, by omega, by go_num, rfl, by omega, by omega, nx hb hb2, fun j hj hjx => by
            by_cases e : j = k
            · subst e
              obtain ⟨u0, u1⟩ := HSM.out (by omega)
              obtain ⟨y0, y1⟩ := HZ.out
              exact ⟨by omega, by omega⟩
            · exact HA.out j (by omega) hjx⟩
          case measure => simp [intOf]; omega
      · go_wp2
        go_ret
        exact ⟨r, rfl, by omega, by omega, fun _ => ⟨by rw [HLEN.out]; omega, fun x hx => by
          obtain ⟨j, hj, rfl⟩ := List.getElem_of_mem hx
          exact HA.out j (by have := HLEN.out; omega) hj⟩, hb⟩
set_option maxRecDepth 100000 in
set_option maxHeartbeats 2000000 in
/-- A size is what is left, or below 0 where it does not fit. -/
def Sized2 (m : Int) (xs : List (List UInt8)) (w : World) (e : Ending) (w' : World) : Prop := ∃ r : Int, e = .returned (.int .i64 r) ∧ -1 ≤ r ∧ r ≤ m ∧ (0 ≤ r → r + (xs.length : Int) ≤ m ∧ ∀ x ∈ xs, (x.length : Int) ≤ m) ∧ w = w'
theorem szStringS_two (a : Option Addr) (n c : Nat) (xs : List (List UInt8)) (m : Int) (w : World) (hr : RdL w a n xs) (hn : n ≤ maxLen) (hm0 : 0 ≤ m) (hm : m ≤ 1073741824) (hx : ∀ j, (h : j < xs.length) → xs[j].length ≤ maxLen) :
    Calls Tryz.prog 16 #[.slice a n c, .int .i64 m] w (Sized2 m xs w) := by
  unfold maxLen at hn hx
  obtain ⟨hl, hr2⟩ := hr
  have HLEN := Lib.hid hl
  have HR2 := Lib.hid hr2
  have HXX := Lib.hid hx
  clear hl hr2 hx
  by_cases hbig : m < n
  · have d1 : (m - n : Int) < 0 := by omega
    go_enter Tryz.func16, Tryz.ntmps16
    go_wp2
    go_ret
    exact ⟨-1, rfl, by omega, by omega, fun h => by omega, rfl⟩
  · go_enter Tryz.func16, Tryz.ntmps16
    go_wp2_with fail
    go_loop [1, 5] (fun l i => ∃ (k : Nat) (r : Int), k ≤ n ∧ i = .int .i64 k ∧ l = .int .i64 r ∧ 0 ≤ r ∧ r + n ≤ m ∧ ∀ j, j < k → (hj : j < xs.length) → (xs[j].length : Int) ≤ m) (fun _ i => n - (intOf i).toNat)
    case atStart => exact ⟨0, m - n, Nat.zero_le _, rfl, rfl, by omega, by omega, fun j h => by omega⟩
    case round =>
      obtain ⟨k, r, hk, rfl, rfl, hr0, hrm, hall⟩ := hrel
      have HA := Lib.hid hall
      clear hall
      by_cases hlt : k < n
      · have hkx : k < xs.length := by rw [HLEN.out]; exact hlt
        obtain ⟨b, off, rfl, hbl, hcell⟩ := HR2.out.resolve_left (by omega)
        have hc1 : w.cell? ⟨b, off + k, none⟩ = some (.string (str xs[k])) := hcell k hkx
        have hxl := HXX.out k hkx
        have HSZ := Lib.hid (str_size xs[k])
        have hsz : (str xs[k]).size ≤ 9223372036854775807 := by rw [HSZ.out]; omega
        clear hcell
        by_cases hs : r < (str xs[k]).size
        · go_wp2
          go_ret
          exact ⟨-1, rfl, by omega, by omega, fun h => by omega, rfl⟩
        · have HN : Hid ((xs[k].length : Int) ≤ m) := by show _ ≤ _; rw [← HSZ.out]; omega
          go_wp2
          go_round
          case rel => exact ⟨k + 1, r - (str xs[k]).size, by omega, by go_num, rfl, by omega, by omega, fun j hj hjx => by
            by_cases e : j = k
            · subst e; exact HN.out
            · exact HA.out j (by omega) hjx⟩
          case measure => simp [intOf]; omega
      · go_wp2
        go_ret
        exact ⟨r, rfl, by omega, by omega, fun _ => ⟨by rw [HLEN.out]; omega, fun x hx => by
          obtain ⟨j, hj, rfl⟩ := List.getElem_of_mem hx
          exact HA.out j (by have := HLEN.out; omega) hj⟩, rfl⟩
/-- A size is what is left, or below 0 where it does not fit. -/
def SizedT2 (t : Int) (ok : Prop) (cn : Nat) (w : World) (e : Ending) (w' : World) : Prop := ∃ r : Int, e = .returned (.int .i64 r) ∧ -1 ≤ r ∧ r ≤ t ∧ (0 ≤ r → ok ∧ (cn : Int) ≤ 2 * (t - r)) ∧ Below w.heap.size w w'
def SzAt2 (f : Nat) : Prop := ∀ (v : Value) (p : Prt) (t : Int) (w : World), RdG maxLen 0 w f v p → 0 ≤ t → t ≤ 1048576 → Calls Tryz.prog 7 #[v, .int .i64 t] w (SizedT2 t (okT f p) (cntT f p) w)
theorem sz_zero2 : SzAt2 0 := fun _ _ _ _ h => h.elim
set_option maxRecDepth 100000 in
set_option maxHeartbeats 2000000 in
theorem szPartS_of2 (f : Nat) (IH : SzAt2 f) (a : Option Addr) (n c : Nat) (ks : List Prt) (t : Int) (w : World) (hr : RdGs maxLen 0 w f a ks) (hl : ks.length = n) (hn : n ≤ maxLen) (ht0 : 0 ≤ t) (ht : t ≤ 1048576) :
    Calls Tryz.prog 29 #[.slice a n c, .int .i64 t] w (SizedT2 t ((ks.length : Int) ≤ t ∧ ∀ i, (h : i < ks.length) → okT f ks[i]) (sumT f ks) w) := by
  unfold maxLen at hn
  have HR := Lib.hid hr
  have HLEN := Lib.hid hl
  clear hr hl
  by_cases h1 : t - n < 0
  · go_enter Tryz.func29, Tryz.ntmps29
    go_wp2
    go_ret
    exact ⟨-1, rfl, by omega, by omega, fun h => by omega, Below.refl _ _⟩
  · go_enter Tryz.func29, Tryz.ntmps29
    go_wp2_with fail
    go_loopw [1, 5] (fun r i wr => ∃ (k : Nat) (q : Int), k ≤ n ∧ i = .int .i64 k ∧ r = .int .i64 q ∧ 0 ≤ q ∧ q ≤ t ∧ ((sumT f (ks.take k) : Nat) : Int) ≤ 2 * (t - q) ∧ (∀ j, j < k → (h : j < ks.length) → okT f ks[j]) ∧ Below w.heap.size w wr) (fun _ i _ => n - (intOf i).toNat)
    case atStart => exact ⟨0, t - n, Nat.zero_le _, rfl, rfl, by omega, by omega, by simp [sumT]; omega, (fun j h => by omega), Below.refl _ _⟩
    case round =>
      obtain ⟨k, q, hk, rfl, rfl, hq0, hq, hsum, hall, hb⟩ := hrel
      have HA := Lib.hid hall
      clear hall
      by_cases hlt : k < n
      · have d1 : decide ((k : Int) < n) = true := decide_eq_true (by omega)
        have hkx : k < ks.length := by rw [HLEN.out]; exact hlt
        obtain ⟨b, off, rfl, hbl, a1, c1, a2, c2, a3, c3, g0, g1, g2, g3⟩ := (HR.out.below hb).at hkx
        have HC := Lib.hid (IH _ ks[k] q wr g3 hq0 (by omega))
        have HST := Lib.hid (sumT_step (f := f) hkx)
        have HSM := Lib.hid hsum
        clear hsum
        have HNX : Hid (okT f ks[k] → ∀ j, j < k + 1 → (h : j < ks.length) → okT f ks[j]) := fun h j hj hjx => by
          by_cases e : j = k
          · subst e; exact h
          · exact HA.out j (by omega) hjx
        clear g3
        generalize okT f ks[k] = OK at *
        generalize cntT f ks[k] = CN at *
        generalize ks[k].fields.length = n1 at *
        generalize ks[k].body.length = n2 at *
        generalize ks[k].kids.length = n3 at *
        go_wp2_with fail
        refine HC.out.mono ?_
        rintro e w1 ⟨r, rfl, hr1, hr2, hok, hb1⟩
        have HK := Lib.hid hok
        clear hok
        by_cases hneg : r < 0
        · go_wp2
          go_ret
          exact ⟨-1, rfl, by omega, by omega, fun h => by omega, nx hb hb1⟩
        · have HN := Lib.hid (HNX.out (HK.out (by omega)).1)
          have HCN := Lib.hid (HK.out (by omega)).2
          go_wp2
          go_roundw
          case rel => exact ⟨k + 1, r, by omega, by go_num, rfl, by omega, by omega, by have h1 := HST.out; have h2 := HSM.out; have h3 := HCN.out; rw [h1]; omega, HN.out, nx hb hb1⟩
          case measure => simp [intOf]; omega
      · have d1 : decide ((k : Int) < n) = false := decide_eq_false (by omega)
        go_wp2
        go_ret
        exact ⟨q, rfl, by omega, by omega, fun h => ⟨⟨by have := HLEN.out; omega, fun i hi => HA.out i (by have := HLEN.out; omega) hi⟩, by rw [List.take_of_length_le (by have := HLEN.out; omega)] at hsum; exact hsum⟩, hb⟩
set_option maxRecDepth 100000 in
set_option maxHeartbeats 2000000 in
theorem sz_step2 (f : Nat) (IH : SzAt2 f) : SzAt2 (f + 1) := by
  intro v p t w hr ht0 ht
  obtain ⟨f', a1, c1, a2, c2, a3, c3, hff, rfl, ⟨hf, hfc, _⟩, ⟨hbd, hbc, hbn, _⟩, hkc, hpf, hks⟩ := hr.open
  obtain rfl : f = f' := by omega
  have hA : Below w.heap.size w (w.alloc (.cells #[.slice a1 p.fields.length c1, .slice a2 p.body.length c2, .slice a3 p.kids.length c3] 26)) := (Below.refl _ _).alloc (Nat.le_refl _) _
  have HX := Lib.hid (KK3.new w (.slice a1 p.fields.length c1) (.slice a2 p.body.length c2) (.slice a3 p.kids.length c3) 26)
  have HF : Hid (∀ u, Below w.heap.size w u → Calls Tryz.prog 28 #[.slice a1 p.fields.length c1, .int .i64 t] u (SizedG2 t p.fields u)) := fun u h => szFieldS_two a1 p.fields.length c1 p.fields t u (hf.below h) hpf.1 ht0 (by omega) hpf.2.1
  have HB : Hid (∀ (q : Int) u, 0 ≤ q → q ≤ 1048576 → Below w.heap.size w u → Calls Tryz.prog 16 #[.slice a2 p.body.length c2, .int .i64 q] u (Sized2 q p.body u)) := fun q u h0 h1 h => szStringS_two a2 p.body.length c2 p.body q u (hbd.below h) hpf.2.2.1 h0 (by omega) (fun j hj => hpf.2.2.2.1 _ (List.getElem_mem hj))
  have HK : Hid (∀ (q : Int) u, 0 ≤ q → q ≤ 1048576 → Below w.heap.size w u → Calls Tryz.prog 29 #[.slice a3 p.kids.length c3, .int .i64 q] u (SizedT2 q ((p.kids.length : Int) ≤ q ∧ ∀ i, (h : i < p.kids.length) → okT f p.kids[i]) (sumT f p.kids) u)) := fun q u h0 h1 h => szPartS_of2 f IH a3 p.kids.length c3 p.kids q u (hks.below h) rfl hpf.2.2.2.2 h0 h1
  have HOK : Hid ((p.fields.length : Int) ≤ 1048576 → (∀ x ∈ p.fields, SmallF 1048576 x) → (p.body.length : Int) ≤ 1048576 → (∀ x ∈ p.body, (x.length : Int) ≤ 1048576) → ((p.kids.length : Int) ≤ 1048576 ∧ ∀ i, (h : i < p.kids.length) → okT f p.kids[i]) → okT (f + 1) p) := fun h1 h2 h3 h4 h5 =>
    ⟨⟨by omega, h2, by omega, fun x hx => by have := h4 x hx; omega, by have := h5.1; omega⟩, h5.2⟩
  clear hf hfc hbd hbc hbn hkc hpf hks hff
  have HCT : Hid (cntT (f + 1) p = 2 * p.fields.length + p.body.length + sumT f p.kids) := cntT_succ f p
  unfold SizedG2 at HF
  unfold Sized2 at HB
  unfold SizedT2 at HK
  generalize cntT (f + 1) p = CT at *
  generalize sumT f p.kids = SK at *
  generalize okT (f + 1) p = OK at *
  generalize (∀ i, (h : i < p.kids.length) → okT f p.kids[i]) = OKS at *
  generalize p.kids.length = n3 at *
  generalize p.body.length = n2 at *
  generalize p.fields.length = n1 at *
  go_enter Tryz.func7, Tryz.ntmps7
  go_wp2_with fail
  refine (HF.out _ hA).mono ?_
  rintro e w1 ⟨r, rfl, hr1, hr2, hok, hb1⟩
  have HO1 := Lib.hid hok
  have hb01 := nx hA hb1
  clear hok
  obtain ⟨y0, y1, y2⟩ := HX.out.below hb1
  by_cases hneg : r < 0
  · go_wp2
    go_ret
    exact ⟨-1, rfl, by omega, by omega, fun h => by omega, hb01⟩
  · go_wp2_with fail
    refine (HB.out r _ (by omega) (by omega) hb01).mono ?_
    rintro e w2 ⟨r2, rfl, hr3, hr4, hok, rfl⟩
    have HO2 := Lib.hid hok
    clear hok
    by_cases hneg2 : r2 < 0
    · go_wp2
      go_ret
      exact ⟨-1, rfl, by omega, by omega, fun h => by omega, hb01⟩
    · go_wp2_with fail
      refine (HK.out r2 _ (by omega) (by omega) hb01).mono ?_
      rintro e w3 ⟨r3, rfl, hr5, hr6, hok, hb3⟩
      have HO3 := Lib.hid hok
      clear hok
      by_cases hneg3 : r3 < 0
      · go_wp2
        go_ret
        exact ⟨-1, rfl, by omega, by omega, fun h => by omega, nx hb01 hb3⟩
      · go_wp2
        go_ret
        exact ⟨r3, rfl, by omega, by omega, fun h => ⟨HOK.out (by have := (HO1.out (by omega)).1; omega) (fun x hx => ((HO1.out (by omega)).2 x hx).up (by omega)) (by have := (HO2.out (by omega)).1; omega) (fun x hx => by have := (HO2.out (by omega)).2 x hx; omega) ⟨by have := (HO3.out h).1.1; omega, (HO3.out h).1.2⟩, by have h1 := (HO1.out (by omega)).1; have h2 := (HO2.out (by omega)).1; have h3 := (HO3.out h).2; have h4 := HCT.out; omega⟩, nx hb01 hb3⟩
theorem sz_all2 : ∀ f, SzAt2 f
  | 0 => sz_zero2
  | f + 1 => sz_step2 f (sz_all2 f)
end Go.Proofs.YtcdmjckkencgoaaGreatDoor
end
