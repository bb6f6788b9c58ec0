/-
  Regions that draw their order and end in operations that turn memory (a store, an append): what asks nothing of the world is taken first, then what only reads or lays new memory, in ONE walk; the rest, which waits for all of that, is met by hand. No statement is proved here.
-/
import Derived.Test.YtccendchnndaiaaDoorGrow
namespace Go.Proofs.YtccendchnndaiaaDoor
open Go.RowKit

structure OneT (W : World) where
  val : World
  same : val = W
instance (W : World) : Nonempty (OneT W) := ⟨⟨W, rfl⟩⟩
section
variable {P : Program} {ops : Array Oper} {Q : Exit → Act → World → Prop} {md : Region.Mode}

/-- In state a, in every world, operation o leaves v and the world as it is. -/
def PYields (P : Program) (ops : Array Oper) (o : Oper) (v : Value) (a : Act) : Prop :=
  (Region.wanted o (yielded ops a.tmps) = true ∧ ∀ w', o.quietAt P a (fun u => ∃ y : OneT w', u = y.val) w' v) ∨ (Region.wanted o (yielded ops a.tmps) = false ∧ v = undef)
theorem PYields.of_same {o : Oper} {v : Value} {a a' : Act} (hy : PYields P ops o v a) (he : execOp a'.eval o = execOp a.eval o)
    (hw : Region.wanted o (yielded ops a'.tmps) = Region.wanted o (yielded ops a.tmps)) : PYields P ops o v a' := by
  unfold PYields Oper.quietAt at *
  rw [he, hw]
  exact hy
theorem PYields.wpOp {i : Nat} {o : Oper} {v : Value} {a : Act} {w : World} (hi : ops[i]? = some o) (hy : PYields P ops o v a)
    {K : Act → World → Prop} (h : K (a.put o.dst v) w) : wpOp P ops Q i K a w := by
  unfold Go.wpOp
  simp only [hi]
  rcases hy with ⟨hw, hv⟩ | ⟨hw, rfl⟩
  · rw [if_pos hw]
    refine .inl ?_
    have h1 := hv w
    unfold Oper.quietAt at h1
    unfold Oper.wp
    generalize (execOp a.eval o).run P w = r at *
    cases r with
    | ok n w' =>
      cases n <;> simp only [Oper.quietUpon] at h1 <;> simp only [Oper.upon]
      case value u =>
        obtain ⟨e1, e2⟩ := h1
        rw [e1, e2]
        exact h
      case skip =>
        obtain ⟨e1, e2⟩ := h1
        rw [e1, ← e2]
        exact h
      case enter f args =>
        obtain ⟨e1, hc⟩ := h1
        rw [e1]
        exact hc.mono fun e w'' ⟨he, y, hy⟩ => by subst he; rw [hy, y.same]; exact h
    | halt x w' => simp only [Oper.quietUpon] at h1
  · rw [if_neg (by rw [hw]; exact Bool.false_ne_true)]; exact h
theorem wpOp_putP {j : Nat} {oi oj : Oper} {v : Value} (hj : ops[j]? = some oj) (hap : oi.apart ops oj = true)
    (hsi : ∀ cs b, oi.op ≠ .select cs b) (hsj : ∀ cs b, oj.op ≠ .select cs b)
    (hQ : ∀ c a w, Q (.panic c) (a.put oi.dst v) w → Q (.panic c) a w) {K : Act → World → Prop} {a : Act} {w : World}
    (hy : PYields P ops oi v a) (h : wpOp P ops Q j K (a.put oi.dst v) w) :
    wpOp P ops Q j (fun a' w' => PYields P ops oi v a' ∧ K (a'.put oi.dst v) w') a w := by
  obtain ⟨h1, h2, h3⟩ := Oper.apart_spec hap
  have keep : ∀ (a : Act), PYields P ops oi v a → ∀ x, PYields P ops oi v (a.put oj.dst x) := fun a hy x =>
    hy.of_same (execOp_put oi hsi a oj.dst x h3) (wanted_put oi a oj.dst x h3)
  have keepD : ∀ d, PYields P ops oi v { a with defers := d :: a.defers } := fun d => hy.of_same rfl rfl
  unfold Go.wpOp at *
  simp only [hj] at *
  rw [wanted_put oj a oi.dst v h1] at h
  split
  · rename_i hw
    simp only [hw, if_true] at h
    rcases h with h | ⟨hasks, hlets⟩
    case inr => exact .inr ⟨by unfold Oper.asks at *; rw [execOp_put oj hsj a oi.dst v h1] at hasks; exact hasks, hlets⟩
    refine .inl ?_
    unfold Oper.wp at *
    rw [execOp_put oj hsj a oi.dst v h1] at h
    generalize (execOp a.eval oj).run P w = r at *
    cases r with
    | ok n w' =>
      cases n <;> simp only [Oper.upon] at h ⊢
      case value x => exact ⟨keep a hy x, by rw [← Act.put_comm a v x h2]; exact h⟩
      case skip => exact ⟨keep a hy _, by rw [← Act.put_comm a v undef h2]; exact h⟩
      case defer d =>
        refine ⟨keep _ (keepD d) _, ?_⟩
        rw [← Act.put_comm _ v undef h2, ← Act.put_defers]
        exact h
      case enter f args =>
        refine Calls.mono h fun e w'' he => ?_
        cases e with
        | returned x => exact ⟨keep a hy x, by rw [← Act.put_comm a v x h2]; exact he⟩
        | panicked c => exact hQ _ _ _ he
        | outgrown => exact he
      case row row args => exact Rows.mono h fun x w'' he => ⟨keep a hy x, by rw [← Act.put_comm a v x h2]; exact he⟩
    | halt x w' =>
      cases x <;> simp only [Oper.upon] at h ⊢
      case panic x => exact hQ _ _ _ h
  · rename_i hw
    simp only [hw] at h
    exact ⟨keep a hy _, by rw [← Act.put_comm a v undef h2]; exact h⟩
theorem wpAny_firstP {i : Nat} {oi : Oper} {v : Value} (hi : ops[i]? = some oi) (hsel : ∀ (j : Nat) (o : Oper) cs b, ops[j]? = some o → o.op ≠ .select cs b)
    (hQ : ∀ c a w, Q (.panic c) (a.put oi.dst v) w → Q (.panic c) a w) :
    ∀ (fuel : Nat) (listed : Array Bool) (a : Act) (w : World),
      (∀ j oj, ops[j]? = some oj → j ≠ i → listed.getD j true = false → (∀ e ∈ oj.after, Region.binds md e = true → e.on ≠ i) → oi.apart ops oj = true) →
      i ∈ Region.ready md ops listed → PYields P ops oi v a →
      wpAny P md ops Q fuel (listed.setIfInBounds i true) (a.put oi.dst v) w → wpAny P md ops Q (fuel + 1) listed a w := by
  intro fuel
  induction fuel with
  | zero =>
    intro listed a w _ hr hy H
    refine ⟨fun h => (by rw [h] at hr; cases hr), fun j hj => ?_⟩
    by_cases hji : j = i
    · subst hji; exact hy.wpOp hi H
    · have := ready_mono hj hji
      rw [H.1] at this
      cases this
  | succ fuel ih =>
    intro listed a w hfree hr hy H
    refine ⟨fun h => (by rw [h] at hr; cases hr), fun j hj => ?_⟩
    by_cases hji : j = i
    · subst hji; exact hy.wpOp hi H
    · have h1 := H.2 j (ready_mono hj hji)
      obtain ⟨hjun, oj, hoj, hall⟩ := mem_ready.1 hj
      have hnot : ∀ e ∈ oj.after, Region.binds md e = true → e.on ≠ i := fun e he hb heq => by
        have h1 := hall e he hb
        have h0 := (mem_ready.1 hr).1
        rw [heq] at h1
        rcases Nat.lt_or_ge i listed.size with h' | h'
        · simp [h'] at h0 h1; rw [h0] at h1; cases h1
        · simp [Array.getElem?_eq_none h'] at h1
      have h2 := wpOp_putP hoj (hfree j oj hoj hji hjun hnot) (fun cs b => hsel i oi cs b hi) (fun cs b => hsel j oj cs b hoj) hQ hy h1
      have hfree' : ∀ k ok, ops[k]? = some ok → k ≠ i → (listed.setIfInBounds j true).getD k true = false →
          (∀ e ∈ ok.after, Region.binds md e = true → e.on ≠ i) → oi.apart ops ok = true := fun k ok hk hki hun hno => by
        refine hfree k ok hk hki ?_ hno
        by_cases hjk : j = k
        · subst hjk; exact hjun
        · rw [getD_set_ne true hjk] at hun; exact hun
      refine wpOp_mono (fun a' w'' h3 => ih (listed.setIfInBounds j true) a' w'' hfree' (ready_mono hr (Ne.symm hji)) h3.1 ?_) h2
      rw [Array.setIfInBounds_comm _ _ hji]
      exact h3.2
theorem wpAny_maskP {A : Act} {n : Nat} (hsel : Region.noSelect ops = true) (hQ : ∀ c a o v w, Q (.panic c) (a.put o v) w → Q (.panic c) a w) {w : World} {fuel : Nat} : ∀ (m : List Bool) (l : List Oper) (k : Nat) (listed : Array Bool) (a : Act),
    (∀ j, l[j]? = ops[k + j]?) → a.tmps.size = n → maskOk md ops n m l k listed = true →
    (∀ W : World, wpQuiet P ops (fun w' => ∃ y : OneT W, w' = y.val) (fun a' => a' = A) (pickL m l) a) →
    wpAny P md ops Q fuel (maskListed m k listed) A w → wpAny P md ops Q (maskCount m + fuel) listed a w
  | [], l, k, listed, a, _, _, _, h, H => by
    have h1 : a = A := by have := h w; rw [pickL] at this; exact this; all_goals simp
    rw [h1]
    simpa [maskCount, maskListed] using H
  | false :: m, [], k, listed, a, _, _, hB, _, _ => by simp [maskOk] at hB
  | true :: m, [], k, listed, a, _, _, hB, _, _ => by simp [maskOk] at hB
  | false :: m, o :: l, k, listed, a, hl, hn, hB, h, H => by
    simp only [maskCount, maskListed, maskOk, pickL] at *
    exact wpAny_maskP hsel hQ m l (k + 1) listed a (fun j => by have := hl (j + 1); simpa [Nat.add_assoc, Nat.add_comm 1 j] using this) hn hB h H
  | true :: m, o :: l, k, listed, a, hl, hn, hB, h, H => by
    have h0 : ops[k]? = some o := by simpa using (hl 0).symm
    simp only [maskCount, maskListed, maskOk, pickL, Bool.and_eq_true] at *
    obtain ⟨⟨⟨hr, hf⟩, hd⟩, hB'⟩ := hB
    cases ho : o.dst with
    | none => rw [ho] at hd; cases hd
    | some d =>
      rw [ho] at hd
      simp only [Bool.and_eq_true, decide_eq_true_eq, List.all_eq_true, bne_iff_ne] at hd
      have hslot : ∀ v, (a.put (some d) v).tmps[d]? = some v := fun v => by simp [Act.put, hn, hd.1]
      by_cases hw : Region.wanted o (yielded ops a.tmps) = true
      · have h' : ∀ W : World, (∀ w', (∃ y : OneT W, w' = y.val) → o.quietAt P a (fun w' => ∃ y : OneT W, w' = y.val) w' ((A.tmps[d]?).getD undef)) ∧
            wpQuiet P ops (fun w' => ∃ y : OneT W, w' = y.val) (fun a' => a' = A) (pickL m l) (a.put (some d) ((A.tmps[d]?).getD undef)) := fun W => by
          have h1 := h W
          unfold wpQuiet at h1
          rw [if_pos hw] at h1
          obtain ⟨v, h2, h3⟩ := h1
          rw [ho] at h3
          have h4 := quiet_slot (d := d) (pickL m l) _ hd.2 h3
          rw [hslot] at h4
          rw [h4]
          exact ⟨h2, h3⟩
        have hy : PYields P ops o ((A.tmps[d]?).getD undef) a := .inl ⟨hw, fun w' => (h' w').1 w' ⟨⟨w', rfl⟩, rfl⟩⟩
        rw [show maskCount m + 1 + fuel = (maskCount m + fuel) + 1 by omega]
        refine wpAny_firstP h0 (Region.noSelect_spec hsel) (fun c a w => hQ c a _ _ w) _ listed a w (Region.free_spec h0 hf) (by simpa using hr) hy ?_
        rw [ho]
        exact wpAny_maskP hsel hQ m l (k + 1) _ _ (fun j => by have := hl (j + 1); simpa [Nat.add_assoc, Nat.add_comm 1 j] using this) (by rw [put_size]; exact hn) hB' (fun x => (h' x).2) H
      · have hwf : Region.wanted o (yielded ops a.tmps) = false := by simpa using hw
        rw [show maskCount m + 1 + fuel = (maskCount m + fuel) + 1 by omega]
        refine wpAny_firstP h0 (Region.noSelect_spec hsel) (fun c a w => hQ c a _ _ w) _ listed a w (Region.free_spec h0 hf) (by simpa using hr) (.inr ⟨hwf, rfl⟩) ?_
        refine wpAny_maskP hsel hQ m l (k + 1) _ _ (fun j => by have := hl (j + 1); simpa [Nat.add_assoc, Nat.add_comm 1 j] using this) (by rw [put_size]; exact hn) hB' (fun x => ?_) H
        have h1 := h x
        unfold wpQuiet at h1
        rw [if_neg hw] at h1
        exact h1
/-- What asks nothing of the world is taken first. -/
theorem wpAny_take {F fuel n : Nat} {l : List Oper} {listed : Array Bool} {a : Act} {w : World} (m : List Bool) (hF : maskCount m + fuel = F) (hsel : Region.noSelect l.toArray = true)
    (hn : a.tmps.size = n) (hB : maskOk md l.toArray n m l 0 listed = true)
    (h : ∃ A, (∀ W : World, wpQuiet P l.toArray (fun w' => ∃ y : OneT W, w' = y.val) (fun a' => a' = A) (pickL m l) a) ∧ wpAny P md l.toArray (NoPanic Q) fuel (maskListed m 0 listed) A w) : wpAny P md l.toArray (NoPanic Q) F listed a w := by
  obtain ⟨A, h1, h2⟩ := h
  rw [← hF]
  exact wpAny_maskP hsel (fun _ _ _ _ _ h => h) m l 0 listed a (fun j => by simp) hn hB h1 h2

/-! The tail. -/
/-- What is listed has all it waits for listed. -/
def Fit (md : Region.Mode) (ops : Array Oper) (L : Array Bool) : Prop := ∀ k o, ops[k]? = some o → L.getD k false = true → ∀ e ∈ o.after, Region.binds md e = true → L.getD e.on false = true
def fitB (md : Region.Mode) (ops : Array Oper) (L : Array Bool) : Bool := (List.range ops.size).all fun k => !L.getD k false || (match ops[k]? with | some o => o.after.all fun e => !Region.binds md e || L.getD e.on false | none => true)
theorem fit_of {L : Array Bool} (h : fitB md ops L = true) : Fit md ops L := by
  intro k o hk hl e he hb
  unfold fitB at h
  have := List.all_eq_true.1 h k (List.mem_range.2 (Array.getElem?_eq_some_iff.1 hk).1)
  rw [hk, hl] at this
  simp only [Bool.not_true, Bool.false_or] at this
  have := Array.all_eq_true_iff_forall_mem.1 this e he
  rw [hb] at this
  simpa using this
theorem getD_set_self' {L : Array Bool} {i : Nat} {d : Bool} (h : i < L.size) : (L.setIfInBounds i true).getD i d = true := by
  simp [Array.getD_eq_getD_getElem?, h]
theorem getD_set_up {L : Array Bool} {i k : Nat} (h : L.getD k false = true) : (L.setIfInBounds i true).getD k false = true := by
  by_cases e : i = k
  · subst e
    have : i < L.size := by
      rcases Nat.lt_or_ge i L.size with h' | h'
      · exact h'
      · rw [Array.getD_eq_getD_getElem?, Array.getElem?_eq_none h'] at h; cases h
    exact getD_set_self' this
  · rw [getD_set_ne false e]; exact h
theorem Fit.set {L : Array Bool} {j : Nat} (h : Fit md ops L) (hj : j ∈ Region.ready md ops L) : Fit md ops (L.setIfInBounds j true) := by
  obtain ⟨_, oj, hoj, hall⟩ := mem_ready.1 hj
  intro k o hk hl e he hb
  by_cases e1 : j = k
  · subst e1
    rw [hk] at hoj; injection hoj with hoj; subst hoj
    exact getD_set_up (hall e he hb)
  · rw [getD_set_ne false e1] at hl
    exact getD_set_up (h k o hk hl e he hb)
/-- Operation t waits for operation i, near or far. -/
def reachB (md : Region.Mode) (ops : Array Oper) : Nat → Nat → Nat → Bool
  | 0, _, _ => false
  | f + 1, t, i => match ops[t]? with
    | some o => o.after.any fun e => Region.binds md e && (e.on == i || reachB md ops f e.on i)
    | none => false
theorem reach_listed {L : Array Bool} (hf : Fit md ops L) : ∀ (f t i : Nat) (o : Oper), ops[t]? = some o → (∀ e ∈ o.after, Region.binds md e = true → L.getD e.on false = true) → reachB md ops f t i = true → L.getD i false = true
  | 0, _, _, _, _, _, h => by simp [reachB] at h
  | f + 1, t, i, o, ho, hall, h => by
    simp only [reachB, ho] at h
    rw [← Array.any_toList, List.any_eq_true] at h
    obtain ⟨e, he, h⟩ := h
    have he : e ∈ o.after := by simpa using he
    rw [Bool.and_eq_true, Bool.or_eq_true] at h
    obtain ⟨hb, h⟩ := h
    have hl := hall e he hb
    rcases h with h | h
    · rw [beq_iff_eq] at h; rw [← h]; exact hl
    · cases ho2 : ops[e.on]? with
      | none => cases f <;> simp [reachB, ho2] at h
      | some o2 => exact reach_listed hf f e.on i o2 ho2 (fun e2 he2 hb2 => hf e.on o2 ho2 hl e2 he2 hb2) h
/-- Whatever order is picked, till all but the tail T is listed. -/
def wpAnyZ (P : Program) (md : Region.Mode) (ops : Array Oper) (Q : Exit → Act → World → Prop) (T : List Nat) (tf : Nat) : Nat → Array Bool → Act → World → Prop
  | 0, listed, a, w => (∀ k, k < ops.size → k ∉ T → listed.getD k false = true) ∧ ∀ w', Grow w w' → wpAny P md ops Q tf listed a w'
  | fuel + 1, listed, a, w => ∀ w', Grow w w' → (Region.ready md ops listed = [] → Q .normal a w') ∧
    ∀ i ∈ Region.ready md ops listed, wpOp P ops Q i (fun a' w'' => Grow w' w'' ∧ wpAnyZ P md ops Q T tf fuel (listed.setIfInBounds i true) a' w'') a w'
theorem wpAny_of_Z {T : List Nat} {tf : Nat} : ∀ (fuel : Nat) (listed : Array Bool) (a : Act) (w : World), wpAnyZ P md ops Q T tf fuel listed a w → wpAny P md ops Q (fuel + tf) listed a w
  | 0, _, _, w, h => by rw [Nat.zero_add]; exact h.2 w (Grow.refl w)
  | fuel + 1, _, _, w, h => by
    rw [show fuel + 1 + tf = (fuel + tf) + 1 by omega]
    exact ⟨(h w (Grow.refl w)).1, fun i hi => wpOp_mono (fun a' w' h' => wpAny_of_Z fuel _ a' w' h'.2) ((h w (Grow.refl w)).2 i hi)⟩
theorem wpAnyZ_grow {T : List Nat} {tf fuel : Nat} {listed : Array Bool} {a : Act} {w u : World} (g : Grow w u) (h : wpAnyZ P md ops Q T tf fuel listed a w) : wpAnyZ P md ops Q T tf fuel listed a u := by
  cases fuel with
  | zero => exact ⟨h.1, fun w' k => h.2 w' (g.trans k)⟩
  | succ fuel => exact fun w' k => h w' (g.trans k)
theorem wpAnyZ_first {T : List Nat} {tf i : Nat} {oi : Oper} {v : Value} (hi : ops[i]? = some oi) (hsel : ∀ (j : Nat) (o : Oper) cs b, ops[j]? = some o → o.op ≠ .select cs b)
    (hQ : ∀ c a w, Q (.panic c) (a.put oi.dst v) w → Q (.panic c) a w) (hT : ∀ t ∈ T, reachB md ops ops.size t i = true) :
    ∀ (fuel : Nat) (listed : Array Bool) (a : Act) (w : World), Fit md ops listed →
      (∀ j oj, ops[j]? = some oj → j ≠ i → listed.getD j true = false → (∀ e ∈ oj.after, Region.binds md e = true → e.on ≠ i) → oi.apart ops oj = true) →
      i ∈ Region.ready md ops listed → GYields P ops oi v a w →
      wpAnyZ P md ops Q T tf fuel (listed.setIfInBounds i true) (a.put oi.dst v) w → wpAnyZ P md ops Q T tf (fuel + 1) listed a w := by
  have hun : ∀ {L : Array Bool} {k : Nat}, L.getD k true = false → L.getD k false = true → False := fun {L k} h0 h1 => by
    rcases Nat.lt_or_ge k L.size with h' | h'
    · simp [h'] at h0 h1; rw [h0] at h1; cases h1
    · simp [Array.getElem?_eq_none h'] at h1
  intro fuel
  induction fuel with
  | zero =>
    intro listed a w hfit _ hr hy H w' g
    refine ⟨fun h => (by rw [h] at hr; cases hr), fun j hj => ?_⟩
    by_cases hji : j = i
    · subst hji; exact (hy.grow g).wpOp hi fun w'' k => ⟨k, wpAnyZ_grow (g.trans k) H⟩
    · exfalso
      obtain ⟨hjun, oj, hoj, hall⟩ := mem_ready.1 hj
      have hjT : j ∈ T := by
        refine Classical.byContradiction fun hn => ?_
        have := H.1 j (Array.getElem?_eq_some_iff.1 hoj).1 hn
        rw [getD_set_ne false (Ne.symm hji)] at this
        exact hun hjun this
      exact hun (mem_ready.1 hr).1 (reach_listed hfit _ j i oj hoj hall (hT j hjT))
  | succ fuel ih =>
    intro listed a w hfit hfree hr hy H w' g
    refine ⟨fun h => (by rw [h] at hr; cases hr), fun j hj => ?_⟩
    by_cases hji : j = i
    · subst hji; exact (hy.grow g).wpOp hi fun w'' k => ⟨k, wpAnyZ_grow (g.trans k) H⟩
    · have h1 := (H w' g).2 j (ready_mono hj hji)
      obtain ⟨hjun, oj, hoj, hall⟩ := mem_ready.1 hj
      have hnot : ∀ e ∈ oj.after, Region.binds md e = true → e.on ≠ i := fun e he hb heq => by
        have h1 := hall e he hb
        rw [heq] at h1
        exact hun (mem_ready.1 hr).1 h1
      have h2 := wpOp_putG hoj (hfree j oj hoj hji hjun hnot) (fun cs b => hsel i oi cs b hi) (fun cs b => hsel j oj cs b hoj) hQ (hy.grow g) h1
      have hfree' : ∀ k ok, ops[k]? = some ok → k ≠ i → (listed.setIfInBounds j true).getD k true = false →
          (∀ e ∈ ok.after, Region.binds md e = true → e.on ≠ i) → oi.apart ops ok = true := fun k ok hk hki hun hno => by
        refine hfree k ok hk hki ?_ hno
        by_cases hjk : j = k
        · subst hjk; exact hjun
        · rw [getD_set_ne true hjk] at hun; exact hun
      refine wpOp_mono (fun a' w'' h3 => ⟨h3.2.1, ih (listed.setIfInBounds j true) a' w'' (hfit.set hj) hfree' (ready_mono hr (Ne.symm hji)) (h3.1.grow h3.2.1) ?_⟩) h2
      rw [Array.setIfInBounds_comm _ _ hji]
      exact h3.2.2
/-- Each that the mask names is waited for by all of the tail. -/
def maskReach (md : Region.Mode) (ops : Array Oper) (T : List Nat) : List Bool → Nat → Bool
  | true :: m, k => T.all (fun t => reachB md ops ops.size t k) && maskReach md ops T m (k + 1)
  | false :: m, k => maskReach md ops T m (k + 1)
  | [], _ => true
theorem wpAnyZ_mask {T : List Nat} {tf : Nat} {A : Act} {n : Nat} (hsel : Region.noSelect ops = true) (hQ : ∀ c a o v w, Q (.panic c) (a.put o v) w → Q (.panic c) a w) {w : World} {fuel : Nat} : ∀ (m : List Bool) (l : List Oper) (k : Nat) (listed : Array Bool) (a : Act),
    (∀ j, l[j]? = ops[k + j]?) → a.tmps.size = n → Fit md ops listed → maskOk md ops n m l k listed = true → maskReach md ops T m k = true →
    (∀ x : BelowT w, wpQuiet P ops (fun w' => ∃ y : BelowT x.val, w' = y.val) (fun a' => a' = A) (pickL m l) a) →
    wpAnyZ P md ops Q T tf fuel (maskListed m k listed) A w → wpAnyZ P md ops Q T tf (maskCount m + fuel) listed a w
  | [], l, k, listed, a, _, _, _, _, _, h, H => by
    have h1 : a = A := by have := h ⟨w, Below.refl _ _⟩; rw [pickL] at this; exact this; all_goals simp
    rw [h1]
    simpa [maskCount, maskListed] using H
  | false :: m, [], k, listed, a, _, _, _, hB, _, _, _ => by simp [maskOk] at hB
  | true :: m, [], k, listed, a, _, _, _, hB, _, _, _ => by simp [maskOk] at hB
  | false :: m, o :: l, k, listed, a, hl, hn, hfit, hB, hR, h, H => by
    simp only [maskCount, maskListed, maskOk, maskReach, pickL] at *
    exact wpAnyZ_mask hsel hQ m l (k + 1) listed a (fun j => by have := hl (j + 1); simpa [Nat.add_assoc, Nat.add_comm 1 j] using this) hn hfit hB hR h H
  | true :: m, o :: l, k, listed, a, hl, hn, hfit, hB, hR, h, H => by
    have h0 : ops[k]? = some o := by simpa using (hl 0).symm
    simp only [maskCount, maskListed, maskOk, maskReach, pickL, Bool.and_eq_true] at *
    obtain ⟨⟨⟨hr, hf⟩, hd⟩, hB'⟩ := hB
    obtain ⟨hR0, hR'⟩ := hR
    have hT : ∀ t ∈ T, reachB md ops ops.size t k = true := fun t ht => List.all_eq_true.1 hR0 t ht
    have hrk : k ∈ Region.ready md ops listed := by simpa using hr
    cases ho : o.dst with
    | none => rw [ho] at hd; cases hd
    | some d =>
      rw [ho] at hd
      simp only [Bool.and_eq_true, decide_eq_true_eq, List.all_eq_true, bne_iff_ne] at hd
      have hslot : ∀ v, (a.put (some d) v).tmps[d]? = some v := fun v => by simp [Act.put, hn, hd.1]
      by_cases hw : Region.wanted o (yielded ops a.tmps) = true
      · have h' : ∀ x : BelowT w, (∀ w', (∃ y : BelowT x.val, w' = y.val) → o.quietAt P a (fun w' => ∃ y : BelowT x.val, w' = y.val) w' ((A.tmps[d]?).getD undef)) ∧
            wpQuiet P ops (fun w' => ∃ y : BelowT x.val, w' = y.val) (fun a' => a' = A) (pickL m l) (a.put (some d) ((A.tmps[d]?).getD undef)) := fun x => by
          have h1 := h x
          unfold wpQuiet at h1
          rw [if_pos hw] at h1
          obtain ⟨v, h2, h3⟩ := h1
          rw [ho] at h3
          have h4 := quiet_slot (d := d) (pickL m l) _ hd.2 h3
          rw [hslot] at h4
          rw [h4]
          exact ⟨h2, h3⟩
        have hy : GYields P ops o ((A.tmps[d]?).getD undef) a w := .inl ⟨hw, fun w' g => by
          have h1 := (h' ⟨w', g⟩).1 w' ⟨⟨w', Below.refl _ _⟩, rfl⟩
          unfold Oper.quietAt at h1
          unfold growAt
          generalize (execOp a.eval o).run P w' = r at *
          cases r with
          | ok nx w2 =>
            cases nx <;> simp only [Oper.quietUpon] at h1 <;> simp only [growUpon]
            case value u => exact h1
            case skip => exact h1
            case enter f args => exact ⟨h1.1, h1.2.mono fun e w3 ⟨he, y, hy⟩ => ⟨he, by rw [hy]; exact y.below⟩⟩
          | halt x w2 => simp only [Oper.quietUpon] at h1⟩
        rw [show maskCount m + 1 + fuel = (maskCount m + fuel) + 1 by omega]
        refine wpAnyZ_first h0 (Region.noSelect_spec hsel) (fun c a w => hQ c a _ _ w) hT _ listed a w hfit (Region.free_spec h0 hf) hrk hy ?_
        rw [ho]
        exact wpAnyZ_mask hsel hQ m l (k + 1) _ _ (fun j => by have := hl (j + 1); simpa [Nat.add_assoc, Nat.add_comm 1 j] using this) (by rw [put_size]; exact hn) (hfit.set hrk) hB' hR' (fun x => (h' x).2) H
      · have hwf : Region.wanted o (yielded ops a.tmps) = false := by simpa using hw
        rw [show maskCount m + 1 + fuel = (maskCount m + fuel) + 1 by omega]
        refine wpAnyZ_first h0 (Region.noSelect_spec hsel) (fun c a w => hQ c a _ _ w) hT _ listed a w hfit (Region.free_spec h0 hf) hrk (.inr ⟨hwf, rfl⟩) ?_
        refine wpAnyZ_mask hsel hQ m l (k + 1) _ _ (fun j => by have := hl (j + 1); simpa [Nat.add_assoc, Nat.add_comm 1 j] using this) (by rw [put_size]; exact hn) (hfit.set hrk) hB' hR' (fun x => ?_) H
        have h1 := h x
        unfold wpQuiet at h1
        rw [if_neg hw] at h1
        exact h1
/-- The tail stands by itself: all else that is not listed is taken by masks and one by one. -/
theorem wpAny_tail {F fuel tf : Nat} (T : List Nat) {listed : Array Bool} {a : Act} {w : World} (hF : fuel + tf = F) (h : wpAnyZ P md ops Q T tf fuel listed a w) : wpAny P md ops Q F listed a w := by
  rw [← hF]; exact wpAny_of_Z _ _ _ _ h
theorem wpAnyZ_take {T : List Nat} {tf F fuel n : Nat} {l : List Oper} {listed : Array Bool} {a : Act} {w : World} (m : List Bool) (hF : maskCount m + fuel = F) (hsel : Region.noSelect l.toArray = true)
    (hn : a.tmps.size = n) (hfit : fitB md l.toArray listed = true) (hB : maskOk md l.toArray n m l 0 listed = true) (hR : maskReach md l.toArray T m 0 = true)
    (h : ∃ A, (∀ x : BelowT w, wpQuiet P l.toArray (fun w' => ∃ y : BelowT x.val, w' = y.val) (fun a' => a' = A) (pickL m l) a) ∧ wpAnyZ P md l.toArray (NoPanic Q) T tf fuel (maskListed m 0 listed) A w) : wpAnyZ P md l.toArray (NoPanic Q) T tf F listed a w := by
  obtain ⟨A, h1, h2⟩ := h
  rw [← hF]
  exact wpAnyZ_mask hsel (fun _ _ _ _ _ h => h) m l 0 listed a (fun j => by simp) hn (fit_of hfit) hB hR h1 h2
theorem wpAnyZ_one {T : List Nat} {tf m fuel : Nat} {listed : Array Bool} {a : Act} {w : World} (hr : Region.ready md ops listed = [m])
    (h : ∀ w', Grow w w' → wpOp P ops Q m (fun a' w'' => Grow w' w'' ∧ wpAnyZ P md ops Q T tf fuel (listed.setIfInBounds m true) a' w'') a w') : wpAnyZ P md ops Q T tf (fuel + 1) listed a w :=
  fun w' g => ⟨fun h0 => (by rw [hr] at h0; cases h0), fun i hi => by
    rw [hr] at hi
    have : i = m := by simpa using hi
    subst this
    exact h w' g⟩
def allBut (T : List Nat) (n : Nat) (listed : Array Bool) : Bool := (List.range n).all fun k => decide (k ∈ T) || listed.getD k false
theorem wpAnyZ_rest {T : List Nat} {tf : Nat} {listed : Array Bool} {a : Act} {w : World} (hl : allBut T ops.size listed = true) (h : ∀ w', Grow w w' → wpAny P md ops Q tf listed a w') : wpAnyZ P md ops Q T tf 0 listed a w := by
  refine ⟨fun k hk hT => ?_, h⟩
  have := List.all_eq_true.1 hl k (List.mem_range.2 hk)
  simpa [hT] using this
theorem wpAny_one {m fuel : Nat} {listed : Array Bool} {a : Act} {w : World} (hr : Region.ready md ops listed = [m])
    (h : wpOp P ops Q m (fun a' w'' => wpAny P md ops Q fuel (listed.setIfInBounds m true) a' w'') a w) : wpAny P md ops Q (fuel + 1) listed a w :=
  ⟨fun h0 => (by rw [hr] at h0; cases h0), fun i hi => by
    rw [hr] at hi
    have : i = m := by simpa using hi
    subst this
    exact h⟩
theorem wpAny_end {listed : Array Bool} {a : Act} {w : World} (hr : Region.ready md ops listed = []) (h : Q .normal a w) : ∀ fuel, wpAny P md ops (NoPanic Q) fuel listed a w
  | 0 => ⟨hr, h⟩
  | _ + 1 => ⟨fun _ => h, by rw [hr]; simp⟩
theorem wp_region_tail {id : Nat} {a : Act} {w : World} (hm : P.follows .mixedOrders = true)
    (h : wpAny P .any ops (NoPanic Q) ops.size (Array.replicate ops.size false) a w.drew) : (Code.region id ops true).wp P Q a w :=
  wp_region_noPanic (wp_region_any hm h)
end
end Go.Proofs.YtccendchnndaiaaDoor
