/-
  Several texts in one. No statement is proved here.
-/
import Derived.Test.YtfheajfcepcepabDoorGrow
import Derived.Test.YtfheajfcepcepabDoorKindQ
import Derived.Test.YtfheajfcepcepabDoorKindV
import Derived.Test.YtfheajfcepcepabDoorAddrS
import Derived.Test.YtfheajfcepcepabDoorParseS
import Derived.Test.YtfheajfcepcepabDoorSplit2
import Derived.Test.YtfheajfcepcepabDoorFldV
import Derived.Test.YtfheajfcepcepabDoorWords
import Derived.Deep.QuietTactic
import Derived.BigQuiet
import Derived.Test.YtfheajfcepcepabDoorLaw0
import Derived.Lib.SmallJoins
import Derived.Test.YtfheajfcepcepabDoorSplit
import Derived.Test.YtfheajfcepcepabDoorDraw1
import Derived.Deep.RegionWith
import Derived.Test.YtfheajfcepcepabDoorOnly
import Derived.Deep.RegionHeld3
import Derived.Deep.Slices
import Derived.Deep.Fields
import Derived.ChangeSame
import Derived.Test.YtfheajfcepcepabDoorKindM
section
namespace Go.Proofs.YtfheajfcepcepabDoor
open Go.RowKit

structure OneT (W : World) where
  val : World
  same : val = W
instance (W : World) : Nonempty (OneT W) := ⟨⟨W, rfl⟩⟩
section
variable {P : Program} {ops : Array Oper} {Q : Exit → Act → World → Prop} {md : Region.Mode}

/-- In state a, in every world, operation o leaves v and the world as it is. -/
def PYields (P : Program) (ops : Array Oper) (o : Oper) (v : Value) (a : Act) : Prop :=
  (Region.wanted o (yielded ops a.tmps) = true ∧ ∀ w', o.quietAt P a (fun u => ∃ y : OneT w', u = y.val) w' v) ∨ (Region.wanted o (yielded ops a.tmps) = false ∧ v = undef)
theorem PYields.of_same {o : Oper} {v : Value} {a a' : Act} (hy : PYields P ops o v a) (he : execOp a'.eval o = execOp a.eval o)
    (hw : Region.wanted o (yielded ops a'.tmps) = Region.wanted o (yielded ops a.tmps)) : PYields P ops o v a' := by
  unfold PYields Oper.quietAt at *
  rw [he, hw]
  exact hy
theorem PYields.wpOp {i : Nat} {o : Oper} {v : Value} {a : Act} {w : World} (hi : ops[i]? = some o) (hy : PYields P ops o v a)
    {K : Act → World → Prop} (h : K (a.put o.dst v) w) : wpOp P ops Q i K a w := by
  unfold Go.wpOp
  simp only [hi]
  rcases hy with ⟨hw, hv⟩ | ⟨hw, rfl⟩
  · rw [if_pos hw]
    refine .inl ?_
    have h1 := hv w
    unfold Oper.quietAt at h1
    unfold Oper.wp
    generalize (execOp a.eval o).run P w = r at *
    cases r with
    | ok n w' =>
      cases n <;> simp only [Oper.quietUpon] at h1 <;> simp only [Oper.upon]
      case value u =>
        obtain ⟨e1, e2⟩ := h1
        rw [e1, e2]
        exact h
      case skip =>
        obtain ⟨e1, e2⟩ := h1
        rw [e1, ← e2]
        exact h
      case enter f args =>
        obtain ⟨e1, hc⟩ := h1
        rw [e1]
        exact hc.mono fun e w'' ⟨he, y, hy⟩ => by subst he; rw [hy, y.same]; exact h
    | halt x w' => simp only [Oper.quietUpon] at h1
  · rw [if_neg (by rw [hw]; exact Bool.false_ne_true)]; exact h
theorem wpOp_putP {j : Nat} {oi oj : Oper} {v : Value} (hj : ops[j]? = some oj) (hap : oi.apart ops oj = true)
    (hsi : ∀ cs b, oi.op ≠ .select cs b) (hsj : ∀ cs b, oj.op ≠ .select cs b)
    (hQ : ∀ c a w, Q (.panic c) (a.put oi.dst v) w → Q (.panic c) a w) {K : Act → World → Prop} {a : Act} {w : World}
    (hy : PYields P ops oi v a) (h : wpOp P ops Q j K (a.put oi.dst v) w) :
    wpOp P ops Q j (fun a' w' => PYields P ops oi v a' ∧ K (a'.put oi.dst v) w') a w := by
  obtain ⟨h1, h2, h3⟩ := Oper.apart_spec hap
  have keep : ∀ (a : Act), PYields P ops oi v a → ∀ x, PYields P ops oi v (a.put oj.dst x) := fun a hy x =>
    hy.of_same (execOp_put oi hsi a oj.dst x h3) (wanted_put oi a oj.dst x h3)
  have keepD : ∀ d, PYields P ops oi v { a with defers := d :: a.defers } := fun d => hy.of_same rfl rfl
  unfold Go.wpOp at *
  simp only [hj] at *
  rw [wanted_put oj a oi.dst v h1] at h
  split
  · rename_i hw
    simp only [hw, if_true] at h
    rcases h with h | ⟨hasks, hlets⟩
    case inr => exact .inr ⟨by unfold Oper.asks at *; rw [execOp_put oj hsj a oi.dst v h1] at hasks; exact hasks, hlets⟩
    refine .inl ?_
    unfold Oper.wp at *
    rw [execOp_put oj hsj a oi.dst v h1] at h
    generalize (execOp a.eval oj).run P w = r at *
    cases r with
    | ok n w' =>
      cases n <;> simp only [Oper.upon] at h ⊢
      case value x => exact ⟨keep a hy x, by rw [← Act.put_comm a v x h2]; exact h⟩
      case skip => exact ⟨keep a hy _, by rw [← Act.put_comm a v undef h2]; exact h⟩
      case defer d =>
        refine ⟨keep _ (keepD d) _, ?_⟩
        rw [← Act.put_comm _ v undef h2, ← Act.put_defers]
        exact h
      case enter f args =>
        refine Calls.mono h fun e w'' he => ?_
        cases e with
        | returned x => exact ⟨keep a hy x, by rw [← Act.put_comm a v x h2]; exact he⟩
        | panicked c => exact hQ _ _ _ he
        | outgrown => exact he
      case row row args => exact Rows.mono h fun x w'' he => ⟨keep a hy x, by rw [← Act.put_comm a v x h2]; exact he⟩
    | halt x w' =>
      cases x <;> simp only [Oper.upon] at h ⊢
      case panic x => exact hQ _ _ _ h
  · rename_i hw
    simp only [hw] at h
    exact ⟨keep a hy _, by rw [← Act.put_comm a v undef h2]; exact h⟩
theorem wpAny_firstP {i : Nat} {oi : Oper} {v : Value} (hi : ops[i]? = some oi) (hsel : ∀ (j : Nat) (o : Oper) cs b, ops[j]? = some o → o.op ≠ .select cs b)
    (hQ : ∀ c a w, Q (.panic c) (a.put oi.dst v) w → Q (.panic c) a w) :
    ∀ (fuel : Nat) (listed : Array Bool) (a : Act) (w : World),
      (∀ j oj, ops[j]? = some oj → j ≠ i → listed.getD j true = false → (∀ e ∈ oj.after, Region.binds md e = true → e.on ≠ i) → oi.apart ops oj = true) →
      i ∈ Region.ready md ops listed → PYields P ops oi v a →
      wpAny P md ops Q fuel (listed.setIfInBounds i true) (a.put oi.dst v) w → wpAny P md ops Q (fuel + 1) listed a w := by
  intro fuel
  induction fuel with
  | zero =>
    intro listed a w _ hr hy H
    refine ⟨fun h => (by rw [h] at hr; cases hr), fun j hj => ?_⟩
    by_cases hji : j = i
    · subst hji; exact hy.wpOp hi H
    · have := ready_mono hj hji
      rw [H.1] at this
      cases this
  | succ fuel ih =>
    intro listed a w hfree hr hy H
    refine ⟨fun h => (by rw [h] at hr; cases hr), fun j hj => ?_⟩
    by_cases hji : j = i
    · subst hji; exact hy.wpOp hi H
    · have h1 := H.2 j (ready_mono hj hji)
      obtain ⟨hjun, oj, hoj, hall⟩ := mem_ready.1 hj
      have hnot : ∀ e ∈ oj.after, Region.binds md e = true → e.on ≠ i := fun e he hb heq => by
        have h1 := hall e he hb
        have h0 := (mem_ready.1 hr).1
        rw [heq] at h1
        rcases Nat.lt_or_ge i listed.size with h' | h'
        · simp [h'] at h0 h1; rw [h0] at h1; cases h1
        · simp [Array.getElem?_eq_none h'] at h1
      have h2 := wpOp_putP hoj (hfree j oj hoj hji hjun hnot) (fun cs b => hsel i oi cs b hi) (fun cs b => hsel j oj cs b hoj) hQ hy h1
      have hfree' : ∀ k ok, ops[k]? = some ok → k ≠ i → (listed.setIfInBounds j true).getD k true = false →
          (∀ e ∈ ok.after, Region.binds md e = true → e.on ≠ i) → oi.apart ops ok = true := fun k ok hk hki hun hno => by
        refine hfree k ok hk hki ?_ hno
        by_cases hjk : j = k
        · subst hjk; exact hjun
        · rw [getD_set_ne true hjk] at hun; exact hun
      refine wpOp_mono (fun a' w'' h3 => ih (listed.setIfInBounds j true) a' w'' hfree' (ready_mono hr (Ne.symm hji)) h3.1 ?_) h2
      rw [Array.setIfInBounds_comm _ _ hji]
      exact h3.2
theorem wpAny_maskP {A : Act} {n : Nat} (hsel : Region.noSelect ops = true) (hQ : ∀ c a o v w, Q (.panic c) (a.put o v) w → Q (.panic c) a w) {w : World} {fuel : Nat} : ∀ (m : List Bool) (l : List Oper) (k : Nat) (listed : Array Bool) (a : Act),
    (∀ j, l[j]? = ops[k + j]?) → a.tmps.size = n → maskOk md ops n m l k listed = true →
    (∀ W : World, wpQuiet P ops (fun w' => ∃ y : OneT W, w' = y.val) (fun a' => a' = A) (pickL m l) a) →
    wpAny P md ops Q fuel (maskListed m k listed) A w → wpAny P md ops Q (maskCount m + fuel) listed a w
  | [], l, k, listed, a, _, _, _, h, H => by
    have h1 : a = A := by have := h w; rw [pickL] at this; exact this; all_goals simp
    rw [h1]
    simpa [maskCount, maskListed] using H
  | false :: m, [], k, listed, a, _, _, hB, _, _ => by simp [maskOk] at hB
  | true :: m, [], k, listed, a, _, _, hB, _, _ => by simp [maskOk] at hB
  | false :: m, o :: l, k, listed, a, hl, hn, hB, h, H => by
    simp only [maskCount, maskListed, maskOk, pickL] at *
    exact wpAny_maskP hsel hQ m l (k + 1) listed a (fun j => by have := hl (j + 1); simpa [Nat.add_assoc, Nat.add_comm 1 j] using this) hn hB h H
  | true :: m, o :: l, k, listed, a, hl, hn, hB, h, H => by
    have h0 : ops[k]? = some o := by simpa using (hl 0).symm
    simp only [maskCount, maskListed, maskOk, pickL, Bool.and_eq_true] at *
    obtain ⟨⟨⟨hr, hf⟩, hd⟩, hB'⟩ := hB
    cases ho : o.dst with
    | none => rw [ho] at hd; cases hd
    | some d =>
      rw [ho] at hd
      simp only [Bool.and_eq_true, decide_eq_true_eq, List.all_eq_true, bne_iff_ne] at hd
      have hslot : ∀ v, (a.put (some d) v).tmps[d]? = some v := fun v => by simp [Act.put, hn, hd.1]
      by_cases hw : Region.wanted o (yielded ops a.tmps) = true
      · have h' : ∀ W : World, (∀ w', (∃ y : OneT W, w' = y.val) → o.quietAt P a (fun w' => ∃ y : OneT W, w' = y.val) w' ((A.tmps[d]?).getD undef)) ∧
            wpQuiet P ops (fun w' => ∃ y : OneT W, w' = y.val) (fun a' => a' = A) (pickL m l) (a.put (some d) ((A.tmps[d]?).getD undef)) := fun W => by
          have h1 := h W
          unfold wpQuiet at h1
          rw [if_pos hw] at h1
          obtain ⟨v, h2, h3⟩ := h1
          rw [ho] at h3
          have h4 := quiet_slot (d := d) (pickL m l) _ hd.2 h3
          rw [hslot] at h4
          rw [h4]
          exact ⟨h2, h3⟩
        have hy : PYields P ops o ((A.tmps[d]?).getD undef) a := .inl ⟨hw, fun w' => (h' w').1 w' ⟨⟨w', rfl⟩, rfl⟩⟩
        rw [show maskCount m + 1 + fuel = (maskCount m + fuel) + 1 by omega]
        refine wpAny_firstP h0 (Region.noSelect_spec hsel) (fun c a w => hQ c a _ _ w) _ listed a w (Region.free_spec h0 hf) (by simpa using hr) hy ?_
        rw [ho]
        exact wpAny_maskP hsel hQ m l (k + 1) _ _ (fun j => by have := hl (j + 1); simpa [Nat.add_assoc, Nat.add_comm 1 j] using this) (by rw [put_size]; exact hn) hB' (fun x => (h' x).2) H
      · have hwf : Region.wanted o (yielded ops a.tmps) = false := by simpa using hw
        rw [show maskCount m + 1 + fuel = (maskCount m + fuel) + 1 by omega]
        refine wpAny_firstP h0 (Region.noSelect_spec hsel) (fun c a w => hQ c a _ _ w) _ listed a w (Region.free_spec h0 hf) (by simpa using hr) (.inr ⟨hwf, rfl⟩) ?_
        refine wpAny_maskP hsel hQ m l (k + 1) _ _ (fun j => by have := hl (j + 1); simpa [Nat.add_assoc, Nat.add_comm 1 j] using this) (by rw [put_size]; exact hn) hB' (fun x => ?_) H
        have h1 := h x
        unfold wpQuiet at h1
        rw [if_neg hw] at h1
        exact h1
/-- What asks nothing of the world is taken first. -/
theorem wpAny_take {F fuel n : Nat} {l : List Oper} {listed : Array Bool} {a : Act} {w : World} (m : List Bool) (hF : maskCount m + fuel = F) (hsel : Region.noSelect l.toArray = true)
    (hn : a.tmps.size = n) (hB : maskOk md l.toArray n m l 0 listed = true)
    (h : ∃ A, (∀ W : World, wpQuiet P l.toArray (fun w' => ∃ y : OneT W, w' = y.val) (fun a' => a' = A) (pickL m l) a) ∧ wpAny P md l.toArray (NoPanic Q) fuel (maskListed m 0 listed) A w) : wpAny P md l.toArray (NoPanic Q) F listed a w := by
  obtain ⟨A, h1, h2⟩ := h
  rw [← hF]
  exact wpAny_maskP hsel (fun _ _ _ _ _ h => h) m l 0 listed a (fun j => by simp) hn hB h1 h2

/-! The tail. -/
/-- What is listed has all it waits for listed. -/
def Fit (md : Region.Mode) (ops : Array Oper) (L : Array Bool) : Prop := ∀ k o, ops[k]? = some o → L.getD k false = true → ∀ e ∈ o.after, Region.binds md e = true → L.getD e.on false = true
def fitB (md : Region.Mode) (ops : Array Oper) (L : Array Bool) : Bool := (List.range ops.size).all fun k => !L.getD k false || (match ops[k]? with | some o => o.after.all fun e => !Region.binds md e || L.getD e.on false | none => true)
theorem fit_of {L : Array Bool} (h : fitB md ops L = true) : Fit md ops L := by
  intro k o hk hl e he hb
  unfold fitB at h
  have := List.all_eq_true.1 h k (List.mem_range.2 (Array.getElem?_eq_some_iff.1 hk).1)
  rw [hk, hl] at this
  simp only [Bool.not_true, Bool.false_or] at this
  have := Array.all_eq_true_iff_forall_mem.1 this e he
  rw [hb] at this
  simpa using this
theorem getD_set_self' {L : Array Bool} {i : Nat} {d : Bool} (h : i < L.size) : (L.setIfInBounds i true).getD i d = true := by
  simp [Array.getD_eq_getD_getElem?, h]
theorem getD_set_up {L : Array Bool} {i k : Nat} (h : L.getD k false = true) : (L.setIfInBounds i true).getD k false = true := by
  by_cases e : i = k
  · subst e
    have : i < L.size := by
      rcases Nat.lt_or_ge i L.size with h' | h'
      · exact h'
      · rw [Array.getD_eq_getD_getElem?, Array.getElem?_eq_none h'] at h; cases h
    exact getD_set_self' this
  · rw [getD_set_ne false e]; exact h
theorem Fit.set {L : Array Bool} {j : Nat} (h : Fit md ops L) (hj : j ∈ Region.ready md ops L) : Fit md ops (L.setIfInBounds j true) := by
  obtain ⟨_, oj, hoj, hall⟩ := mem_ready.1 hj
  intro k o hk hl e he hb
  by_cases e1 : j = k
  · subst e1
    rw [hk] at hoj; injection hoj with hoj; subst hoj
    exact getD_set_up (hall e he hb)
  · rw [getD_set_ne false e1] at hl
    exact getD_set_up (h k o hk hl e he hb)
/-- Operation t waits for operation i, near or far. -/
def reachB (md : Region.Mode) (ops : Array Oper) : Nat → Nat → Nat → Bool
  | 0, _, _ => false
  | f + 1, t, i => match ops[t]? with
    | some o => o.after.any fun e => Region.binds md e && (e.on == i || reachB md ops f e.on i)
    | none => false
theorem reach_listed {L : Array Bool} (hf : Fit md ops L) : ∀ (f t i : Nat) (o : Oper), ops[t]? = some o → (∀ e ∈ o.after, Region.binds md e = true → L.getD e.on false = true) → reachB md ops f t i = true → L.getD i false = true
  | 0, _, _, _, _, _, h => by simp [reachB] at h
  | f + 1, t, i, o, ho, hall, h => by
    simp only [reachB, ho] at h
    rw [← Array.any_toList, List.any_eq_true] at h
    obtain ⟨e, he, h⟩ := h
    have he : e ∈ o.after := by simpa using he
    rw [Bool.and_eq_true, Bool.or_eq_true] at h
    obtain ⟨hb, h⟩ := h
    have hl := hall e he hb
    rcases h with h | h
    · rw [beq_iff_eq] at h; rw [← h]; exact hl
    · cases ho2 : ops[e.on]? with
      | none => cases f <;> simp [reachB, ho2] at h
      | some o2 => exact reach_listed hf f e.on i o2 ho2 (fun e2 he2 hb2 => hf e.on o2 ho2 hl e2 he2 hb2) h
/-- Whatever order is picked, till all but the tail T is listed. -/
def wpAnyZ (P : Program) (md : Region.Mode) (ops : Array Oper) (Q : Exit → Act → World → Prop) (T : List Nat) (tf : Nat) : Nat → Array Bool → Act → World → Prop
  | 0, listed, a, w => (∀ k, k < ops.size → k ∉ T → listed.getD k false = true) ∧ ∀ w', Grow w w' → wpAny P md ops Q tf listed a w'
  | fuel + 1, listed, a, w => ∀ w', Grow w w' → (Region.ready md ops listed = [] → Q .normal a w') ∧
    ∀ i ∈ Region.ready md ops listed, wpOp P ops Q i (fun a' w'' => Grow w' w'' ∧ wpAnyZ P md ops Q T tf fuel (listed.setIfInBounds i true) a' w'') a w'
theorem wpAny_of_Z {T : List Nat} {tf : Nat} : ∀ (fuel : Nat) (listed : Array Bool) (a : Act) (w : World), wpAnyZ P md ops Q T tf fuel listed a w → wpAny P md ops Q (fuel + tf) listed a w
  | 0, _, _, w, h => by rw [Nat.zero_add]; exact h.2 w (Grow.refl w)
  | fuel + 1, _, _, w, h => by
    rw [show fuel + 1 + tf = (fuel + tf) + 1 by omega]
    exact ⟨(h w (Grow.refl w)).1, fun i hi => wpOp_mono (fun a' w' h' => wpAny_of_Z fuel _ a' w' h'.2) ((h w (Grow.refl w)).2 i hi)⟩
theorem wpAnyZ_grow {T : List Nat} {tf fuel : Nat} {listed : Array Bool} {a : Act} {w u : World} (g : Grow w u) (h : wpAnyZ P md ops Q T tf fuel listed a w) : wpAnyZ P md ops Q T tf fuel listed a u := by
  cases fuel with
  | zero => exact ⟨h.1, fun w' k => h.2 w' (g.trans k)⟩
  | succ fuel => exact fun w' k => h w' (g.trans k)
theorem wpAnyZ_first {T : List Nat} {tf i : Nat} {oi : Oper} {v : Value} (hi : ops[i]? = some oi) (hsel : ∀ (j : Nat) (o : Oper) cs b, ops[j]? = some o → o.op ≠ .select cs b)
    (hQ : ∀ c a w, Q (.panic c) (a.put oi.dst v) w → Q (.panic c) a w) (hT : ∀ t ∈ T, reachB md ops ops.size t i = true) :
    ∀ (fuel : Nat) (listed : Array Bool) (a : Act) (w : World), Fit md ops listed →
      (∀ j oj, ops[j]? = some oj → j ≠ i → listed.getD j true = false → (∀ e ∈ oj.after, Region.binds md e = true → e.on ≠ i) → oi.apart ops oj = true) →
      i ∈ Region.ready md ops listed → GYields P ops oi v a w →
      wpAnyZ P md ops Q T tf fuel (listed.setIfInBounds i true) (a.put oi.dst v) w → wpAnyZ P md ops Q T tf (fuel + 1) listed a w := by
  have hun : ∀ {L : Array Bool} {k : Nat}, L.getD k true = false → L.getD k false = true → False := fun {L k} h0 h1 => by
    rcases Nat.lt_or_ge k L.size with h' | h'
    · simp [h'] at h0 h1; rw [h0] at h1; cases h1
    · simp [Array.getElem?_eq_none h'] at h1
  intro fuel
  induction fuel with
  | zero =>
    intro listed a w hfit _ hr hy H w' g
    refine ⟨fun h => (by rw [h] at hr; cases hr), fun j hj => ?_⟩
    by_cases hji : j = i
    · subst hji; exact (hy.grow g).wpOp hi fun w'' k => ⟨k, wpAnyZ_grow (g.trans k) H⟩
    · exfalso
      obtain ⟨hjun, oj, hoj, hall⟩ := mem_ready.1 hj
      have hjT : j ∈ T := by
        refine Classical.byContradiction fun hn => ?_
        have := H.1 j (Array.getElem?_eq_some_iff.1 hoj).1 hn
        rw [getD_set_ne false (Ne.symm hji)] at this
        exact hun hjun this
      exact hun (mem_ready.1 hr).1 (reach_listed hfit _ j i oj hoj hall (hT j hjT))
  | succ fuel ih =>
    intro listed a w hfit hfree hr hy H w' g
    refine ⟨fun h => (by rw [h] at hr; cases hr), fun j hj => ?_⟩
    by_cases hji : j = i
    · subst hji; exact (hy.grow g).wpOp hi fun w'' k => ⟨k, wpAnyZ_grow (g.trans k) H⟩
    · have h1 := (H w' g).2 j (ready_mono hj hji)
      obtain ⟨hjun, oj, hoj, hall⟩ := mem_ready.1 hj
      have hnot : ∀ e ∈ oj.after, Region.binds md e = true → e.on ≠ i := fun e he hb heq => by
        have h1 := hall e he hb
        rw [heq] at h1
        exact hun (mem_ready.1 hr).1 h1
      have h2 := wpOp_putG hoj (hfree j oj hoj hji hjun hnot) (fun cs b => hsel i oi cs b hi) (fun cs b => hsel j oj cs b hoj) hQ (hy.grow g) h1
      have hfree' : ∀ k ok, ops[k]? = some ok → k ≠ i → (listed.setIfInBounds j true).getD k true = false →
          (∀ e ∈ ok.after, Region.binds md e = true → e.on ≠ i) → oi.apart ops ok = true := fun k ok hk hki hun hno => by
        refine hfree k ok hk hki ?_ hno
        by_cases hjk : j = k
        · subst hjk; exact hjun
        · rw [getD_set_ne true hjk] at hun; exact hun
      refine wpOp_mono (fun a' w'' h3 => ⟨h3.2.1, ih (listed.setIfInBounds j true) a' w'' (hfit.set hj) hfree' (ready_mono hr (Ne.symm hji)) (h3.1.grow h3.2.1) ?_⟩) h2
      rw [Array.setIfInBounds_comm _ _ hji]
      exact h3.2.2
/-- Each that the mask names is waited for by all of the tail. -/
def maskReach (md : Region.Mode) (ops : Array Oper) (T : List Nat) : List Bool → Nat → Bool
  | true :: m, k => T.all (fun t => reachB md ops ops.size t k) && maskReach md ops T m (k + 1)
  | false :: m, k => maskReach md ops T m (k + 1)
  | [], _ => true
theorem wpAnyZ_mask {T : List Nat} {tf : Nat} {A : Act} {n : Nat} (hsel : Region.noSelect ops = true) (hQ : ∀ c a o v w, Q (.panic c) (a.put o v) w → Q (.panic c) a w) {w : World} {fuel : Nat} : ∀ (m : List Bool) (l : List Oper) (k : Nat) (listed : Array Bool) (a : Act),
    (∀ j, l[j]? = ops[k + j]?) → a.tmps.size = n → Fit md ops listed → maskOk md ops n m l k listed = true → maskReach md ops T m k = true →
    (∀ x : BelowT w, wpQuiet P ops (fun w' => ∃ y : BelowT x.val, w' = y.val) (fun a' => a' = A) (pickL m l) a) →
    wpAnyZ P md ops Q T tf fuel (maskListed m k listed) A w → wpAnyZ P md ops Q T tf (maskCount m + fuel) listed a w
  | [], l, k, listed, a, _, _, _, _, _, h, H => by
    have h1 : a = A := by have := h ⟨w, Below.refl _ _⟩; rw [pickL] at this; exact this; all_goals simp
    rw [h1]
    simpa [maskCount, maskListed] using H
  | false :: m, [], k, listed, a, _, _, _, hB, _, _, _ => by simp [maskOk] at hB
  | true :: m, [], k, listed, a, _, _, _, hB, _, _, _ => by simp [maskOk] at hB
  | false :: m, o :: l, k, listed, a, hl, hn, hfit, hB, hR, h, H => by
    simp only [maskCount, maskListed, maskOk, maskReach, pickL] at *
    exact wpAnyZ_mask hsel hQ m l (k + 1) listed a (fun j => by have := hl (j + 1); simpa [Nat.add_assoc, Nat.add_comm 1 j] using this) hn hfit hB hR h H
  | true :: m, o :: l, k, listed, a, hl, hn, hfit, hB, hR, h, H => by
    have h0 : ops[k]? = some o := by simpa using (hl 0).symm
    simp only [maskCount, maskListed, maskOk, maskReach, pickL, Bool.and_eq_true] at *
    obtain ⟨⟨⟨hr, hf⟩, hd⟩, hB'⟩ := hB
    obtain ⟨hR0, hR'⟩ := hR
    have hT : ∀ t ∈ T, reachB md ops ops.size t k = true := fun t ht => List.all_eq_true.1 hR0 t ht
    have hrk : k ∈ Region.ready md ops listed := by simpa using hr
    cases ho : o.dst with
    | none => rw [ho] at hd; cases hd
    | some d =>
      rw [ho] at hd
      simp only [Bool.and_eq_true, decide_eq_true_eq, List.all_eq_true, bne_iff_ne] at hd
      have hslot : ∀ v, (a.put (some d) v).tmps[d]? = some v := fun v => by simp [Act.put, hn, hd.1]
      by_cases hw : Region.wanted o (yielded ops a.tmps) = true
      · have h' : ∀ x : BelowT w, (∀ w', (∃ y : BelowT x.val, w' = y.val) → o.quietAt P a (fun w' => ∃ y : BelowT x.val, w' = y.val) w' ((A.tmps[d]?).getD undef)) ∧
            wpQuiet P ops (fun w' => ∃ y : BelowT x.val, w' = y.val) (fun a' => a' = A) (pickL m l) (a.put (some d) ((A.tmps[d]?).getD undef)) := fun x => by
          have h1 := h x
          unfold wpQuiet at h1
          rw [if_pos hw] at h1
          obtain ⟨v, h2, h3⟩ := h1
          rw [ho] at h3
          have h4 := quiet_slot (d := d) (pickL m l) _ hd.2 h3
          rw [hslot] at h4
          rw [h4]
          exact ⟨h2, h3⟩
        have hy : GYields P ops o ((A.tmps[d]?).getD undef) a w := .inl ⟨hw, fun w' g => by
          have h1 := (h' ⟨w', g⟩).1 w' ⟨⟨w', Below.refl _ _⟩, rfl⟩
          unfold Oper.quietAt at h1
          unfold growAt
          generalize (execOp a.eval o).run P w' = r at *
          cases r with
          | ok nx w2 =>
            cases nx <;> simp only [Oper.quietUpon] at h1 <;> simp only [growUpon]
            case value u => exact h1
            case skip => exact h1
            case enter f args => exact ⟨h1.1, h1.2.mono fun e w3 ⟨he, y, hy⟩ => ⟨he, by rw [hy]; exact y.below⟩⟩
          | halt x w2 => simp only [Oper.quietUpon] at h1⟩
        rw [show maskCount m + 1 + fuel = (maskCount m + fuel) + 1 by omega]
        refine wpAnyZ_first h0 (Region.noSelect_spec hsel) (fun c a w => hQ c a _ _ w) hT _ listed a w hfit (Region.free_spec h0 hf) hrk hy ?_
        rw [ho]
        exact wpAnyZ_mask hsel hQ m l (k + 1) _ _ (fun j => by have := hl (j + 1); simpa [Nat.add_assoc, Nat.add_comm 1 j] using this) (by rw [put_size]; exact hn) (hfit.set hrk) hB' hR' (fun x => (h' x).2) H
      · have hwf : Region.wanted o (yielded ops a.tmps) = false := by simpa using hw
        rw [show maskCount m + 1 + fuel = (maskCount m + fuel) + 1 by omega]
        refine wpAnyZ_first h0 (Region.noSelect_spec hsel) (fun c a w => hQ c a _ _ w) hT _ listed a w hfit (Region.free_spec h0 hf) hrk (.inr ⟨hwf, rfl⟩) ?_
        refine wpAnyZ_mask hsel hQ m l (k + 1) _ _ (fun j => by have := hl (j + 1); simpa [Nat.add_assoc, Nat.add_comm 1 j] using this) (by rw [put_size]; exact hn) (hfit.set hrk) hB' hR' (fun x => ?_) H
        have h1 := h x
        unfold wpQuiet at h1
        rw [if_neg hw] at h1
        exact h1
/-- The tail stands by itself: all else that is not listed is taken by masks and one by one. -/
theorem wpAny_tail {F fuel tf : Nat} (T : List Nat) {listed : Array Bool} {a : Act} {w : World} (hF : fuel + tf = F) (h : wpAnyZ P md ops Q T tf fuel listed a w) : wpAny P md ops Q F listed a w := by
  rw [← hF]; exact wpAny_of_Z _ _ _ _ h
theorem wpAnyZ_take {T : List Nat} {tf F fuel n : Nat} {l : List Oper} {listed : Array Bool} {a : Act} {w : World} (m : List Bool) (hF : maskCount m + fuel = F) (hsel : Region.noSelect l.toArray = true)
    (hn : a.tmps.size = n) (hfit : fitB md l.toArray listed = true) (hB : maskOk md l.toArray n m l 0 listed = true) (hR : maskReach md l.toArray T m 0 = true)
    (h : ∃ A, (∀ x : BelowT w, wpQuiet P l.toArray (fun w' => ∃ y : BelowT x.val, w' = y.val) (fun a' => a' = A) (pickL m l) a) ∧ wpAnyZ P md l.toArray (NoPanic Q) T tf fuel (maskListed m 0 listed) A w) : wpAnyZ P md l.toArray (NoPanic Q) T tf F listed a w := by
  obtain ⟨A, h1, h2⟩ := h
  rw [← hF]
  exact wpAnyZ_mask hsel (fun _ _ _ _ _ h => h) m l 0 listed a (fun j => by simp) hn (fit_of hfit) hB hR h1 h2
theorem wpAnyZ_one {T : List Nat} {tf m fuel : Nat} {listed : Array Bool} {a : Act} {w : World} (hr : Region.ready md ops listed = [m])
    (h : ∀ w', Grow w w' → wpOp P ops Q m (fun a' w'' => Grow w' w'' ∧ wpAnyZ P md ops Q T tf fuel (listed.setIfInBounds m true) a' w'') a w') : wpAnyZ P md ops Q T tf (fuel + 1) listed a w :=
  fun w' g => ⟨fun h0 => (by rw [hr] at h0; cases h0), fun i hi => by
    rw [hr] at hi
    have : i = m := by simpa using hi
    subst this
    exact h w' g⟩
def allBut (T : List Nat) (n : Nat) (listed : Array Bool) : Bool := (List.range n).all fun k => decide (k ∈ T) || listed.getD k false
theorem wpAnyZ_rest {T : List Nat} {tf : Nat} {listed : Array Bool} {a : Act} {w : World} (hl : allBut T ops.size listed = true) (h : ∀ w', Grow w w' → wpAny P md ops Q tf listed a w') : wpAnyZ P md ops Q T tf 0 listed a w := by
  refine ⟨fun k hk hT => ?_, h⟩
  have := List.all_eq_true.1 hl k (List.mem_range.2 hk)
  simpa [hT] using this
theorem wpAny_one {m fuel : Nat} {listed : Array Bool} {a : Act} {w : World} (hr : Region.ready md ops listed = [m])
    (h : wpOp P ops Q m (fun a' w'' => wpAny P md ops Q fuel (listed.setIfInBounds m true) a' w'') a w) : wpAny P md ops Q (fuel + 1) listed a w :=
  ⟨fun h0 => (by rw [hr] at h0; cases h0), fun i hi => by
    rw [hr] at hi
    have : i = m := by simpa using hi
    subst this
    exact h⟩
theorem wpAny_end {listed : Array Bool} {a : Act} {w : World} (hr : Region.ready md ops listed = []) (h : Q .normal a w) : ∀ fuel, wpAny P md ops (NoPanic Q) fuel listed a w
  | 0 => ⟨hr, h⟩
  | _ + 1 => ⟨fun _ => h, by rw [hr]; simp⟩
theorem wp_region_tail {id : Nat} {a : Act} {w : World} (hm : P.follows .mixedOrders = true)
    (h : wpAny P .any ops (NoPanic Q) ops.size (Array.replicate ops.size false) a w.drew) : (Code.region id ops true).wp P Q a w :=
  wp_region_noPanic (wp_region_any hm h)
end
end Go.Proofs.YtfheajfcepcepabDoor
end

section
namespace Go.Proofs.YtfheajfcepcepabDoor
open Go.RowKit

/-- One field appended to a row of the call's own, as an operation. -/
theorem wp_append_F {o : Oper} {Q : Exit → Act → World → Prop} {K : Act → World → Prop} {a : Act} {w : World} (s x : Operand)
    (ho : o.op = .call { callee := .builtin .append, args := #[s, x], argTypes := #[22, 22] })
    (B : Nat) (v : Value) (xs : List Fld) (f : Fld) (g : Nat) (hs : a.eval s = v) (hx : a.eval x = .slice (some ⟨g, 0, none⟩) 1 1) (hown : OwnF B v xs w)
    (hy0 : w.cell? ⟨g, 0, none⟩ = some (.string (str f.name))) (hy1 : w.cell? ⟨g, 1, none⟩ = some (.string (str f.val))) (hB : B ≤ w.heap.size) (hl : xs.length ≤ 1000000)
    (h : ∀ v' w', OwnF B v' (xs ++ [f]) w' → Below B w w' → K (a.put o.dst v') w') : Oper.wp Tryd.prog o a w K Q := by
  obtain ⟨i0, hi, hz0, hz1, hz2⟩ := info_parts fInfo
  have hown1 := hown
  unfold OwnF OwnR at hown1
  refine wp_append_own w s x 22 ho B 37 i0 (.agg #[.string ⟨#[]⟩, .string ⟨#[]⟩]) 2 32 Tryd.underlying22 hi hz0 hz1 hz2 rfl (by decide) v xs.length (xs.flatMap fldC) hs hown1 ⟨g, 0, none⟩ 1 1 (fldC f) hx rfl ?_ ?_ ?_ ?_ hB ?_
  · intro j u hj
    rw [add0]
    match j, hj with
    | 0, hj => simp [fldC] at hj; subst hj; exact hy0
    | 1, hj => simp [fldC] at hj; subst hj; exact hy1
  · intro u hu; simp [fldC] at hu; rcases hu with rfl | rfl <;> rfl
  · unfold maxLen; omega
  · omega
  · intro v' w' h2 h3 _
    exact h v' w' (OwnR.snoc h2) ((Below.refl _ _).grown h3 hB (fun k hk => (World.ownsRow.lt hown1 k hk).1))
/-- What a cut leaves, and how it stands to the parts. -/
def CutP (s : ByteArray) (c : UInt8) (w : World) (e : Ending) (w' : World) : Prop := ∃ (p r : List UInt8) (more : Bool), e = .returned (.tuple #[.string (str p), .string (str r), .bool more]) ∧ partsU c s.data.toList = restU c more p r ∧ (cutU c s.data.toList = if more then some (p, r) else none) ∧ p.length ≤ s.size ∧ r.length ≤ s.size ∧ (more = true → r.length < s.size) ∧ Below w.heap.size w w'
theorem cutP_of {s : ByteArray} {c : UInt8} {w : World} {e : Ending} {w' : World} (h : CutRetS s c w e w') : CutP s c w e w' := by
  obtain ⟨h1, h2, q, h3⟩ := h
  have hb : Below w.heap.size w w' := by rw [h3]; exact below_drewN (Below.refl _ _) q
  cases hc : cutU c s.data.toList with
  | none =>
    refine ⟨s.data.toList, [], false, ?_, restU_last hc [], by simp [hc], by rw [size_list]; exact Nat.le_refl _, by simp, (fun h => by cases h), hb⟩
    rw [h2 hc, str_of]; rfl
  | some y =>
    obtain ⟨a, d⟩ := y
    have hbd := cutU_bound hc
    rw [size_list] at hbd
    exact ⟨a, d, true, h1 a d hc, restU_cut hc, by simp [hc], by omega, by omega, fun _ => by omega, hb⟩
theorem readPS_cut {l n v : List UInt8} (h : cutU 61 (trimS l) = some (n, v)) : readPS l = match splitW (trimS v) with | some [t] => some ⟨low (trimS n), t⟩ | _ => none := by unfold readPS; rw [h]; rfl
theorem readPS_uncut {l : List UInt8} (h : cutU 61 (trimS l) = none) : readPS l = none := by unfold readPS; rw [h]
theorem okS_cut {h a b : List UInt8} (fs : List Fld) (hc : cutU 47 (trimS h) = some (a, b)) : okS h fs = okK ⟨low a, low b, fs⟩ := by unfold okS headS; rw [hc]; rfl
theorem okS_uncut {h : List UInt8} (fs : List Fld) (hc : cutU 47 (trimS h) = none) : okS h fs = none := by unfold okS headS; rw [hc]; rfl
theorem restU_head {c : UInt8} {m : Bool} {p r : List UInt8} : restU c m p r = p :: (restU c m p r).tail := by cases m <;> rfl
set_option maxRecDepth 100000 in
set_option maxHeartbeats 4000000 in
theorem parseKindS_any (s : ByteArray) (w : World) (hs : s.size ≤ 1073741824) :
    Calls Tryd.prog 4 #[.string s] w (PKRet (parseK s.data.toList) w) := by
  have hb0 : Below w.heap.size w (w.alloc (.cells #[.string ⟨#[]⟩, .string ⟨#[]⟩, .slice none 0 0] 24)) := (Below.refl _ _).alloc (Nat.le_refl _) _
  cases htx : isText s.data.toList
  · have HX := Lib.hid htx
    have HN := Lib.hid (parseK_no htx)
    clear htx
    go_enter Tryd.func4, Tryd.ntmps4
    go_wp2_with fail
    refine (textValidS_any s _ (by unfold maxLen; omega)).mono ?_
    rintro e w1 ⟨rfl, rfl⟩
    rw [HX.out]
    go_wp2
    exact bodyPost_ret (v := .tuple #[.agg #[.string ⟨#[]⟩, .string ⟨#[]⟩, .slice none 0 0], .bool false]) (by simp [results, Tryd.results4, go_sem]) rfl (pkRet_none HN.out hb0)
  · have HX := Lib.hid htx
    have hs2 : s.size ≤ 200 := by have := text_len htx; rw [size_list] at this; exact this
    have HPK := Lib.hid (parseK_textS htx)
    clear htx
    go_enter Tryd.func4, Tryd.ntmps4
    go_wp2_with fail
    refine (textValidS_any s _ (by unfold maxLen; omega)).mono ?_
    rintro e w1 ⟨rfl, rfl⟩
    rw [HX.out]
    go_wp2_with fail
    refine (l2Cut_any s 59 _ (by decide) (by omega)).mono ?_
    intro e w1 hret
    obtain ⟨h, r0, m0, rfl, hpu, _, hpl, hrl, hml, hb1⟩ := cutP_of hret
    have HRS : Hid (∀ fs, mapPS (restU 59 m0 h r0).tail = some fs → parseK s.data.toList = okS h fs) := fun fs hf => by
      rw [HPK.out, readKS_parts (h := h) (ps := (restU 59 m0 h r0).tail) (by rw [hpu]; exact restU_head), hf]; rfl
    have HRN : Hid (mapPS (restU 59 m0 h r0).tail = none → parseK s.data.toList = none) := fun hf => by
      rw [HPK.out, readKS_parts (h := h) (ps := (restU 59 m0 h r0).tail) (by rw [hpu]; exact restU_head), hf]; rfl
    have HST : Hid (goesK (restU 59 m0 h r0).tail [] m0 r0) := goesK_start
    clear hpu hret
    generalize (restU 59 m0 h r0).tail = ps at *
    have hzh : (str h).size ≤ 200 := by rw [str_size]; omega
    have hzr : (str r0).size ≤ 200 := by rw [str_size]; omega
    have htl := trimS_len h
    have hzt : (str (trimS h)).size ≤ 200 := by rw [str_size]; omega
    have HTR : Hid (∀ u : World, Calls Tryd.prog 11 #[.string (str h)] u fun e w' => e = .returned (.string (str (trimS h))) ∧ Below u.heap.size u w') := fun u => by
      have := l2Trim_any (str h) u (by omega)
      rw [str_list] at this
      exact this.mono fun _ _ ⟨h1, h2⟩ => ⟨h1, by rw [← h2]; exact Below.refl _ _⟩
    have HTL : Hid ((str (trimS h)).data.toList = trimS h) := str_list _
    have hb01 := nx hb0 hb1
    have hl1 : w.heap.size < w1.heap.size := by have := hb1.size; simp at this; omega
    have HZ1 : Hid ((∀ i, w1.cell? ⟨w.heap.size, i, none⟩ = #[Value.string ⟨#[]⟩, .string ⟨#[]⟩, .slice none 0 0][i]?) ∧ ∀ i, w1.frozen? ⟨w.heap.size, i, none⟩ = false) := by
      obtain ⟨q1, q2, _⟩ := fresh1 hb1
      exact ⟨q1, q2⟩
    clear htl
    generalize hHS : str h = HS at *
    generalize hTT : str (trimS h) = TT at *
    clear hHS hTT
    go_wp2_with fail
    refine (HTR.out _).mono ?_
    rintro e w2 ⟨rfl, hb2⟩
    go_wp2_with fail
    refine (l2Cut_any TT 47 _ (by decide) (by omega)).mono ?_
    intro e w3 hret
    obtain ⟨ma, su, ok, rfl, _, hcu, hpl2, hrl2, _, hb3⟩ := cutP_of hret
    rw [HTL.out] at hcu
    have HCU := Lib.hid hcu
    clear hret hcu
    have hzm : (str ma).size ≤ 200 := by rw [str_size]; omega
    have hzs : (str su).size ≤ 200 := by rw [str_size]; omega
    have HL1 : Hid (∀ u : World, Calls Tryd.prog 12 #[.string (str ma)] u fun e w' => e = .returned (.string (str (low ma))) ∧ Below u.heap.size u w') := fun u => by
      have := lowerTextS_any (str ma) u (by omega)
      rw [lowS_str] at this; exact this
    have HL2 : Hid (∀ u : World, Calls Tryd.prog 12 #[.string (str su)] u fun e w' => e = .returned (.string (str (low su))) ∧ Below u.heap.size u w') := fun u => by
      have := lowerTextS_any (str su) u (by omega)
      rw [lowS_str] at this; exact this
    have hm1 : (str (low ma)).size ≤ 200 := by rw [str_size, low_len]; omega
    have hm2 : (str (low su)).size ≤ 200 := by rw [str_size, low_len]; omega
    have HM1 : Hid ((str (low ma)).data.toList = low ma ∧ (str (low su)).data.toList = low su) := ⟨str_list _, str_list _⟩
    generalize hMM : str (low ma) = MM at *
    generalize hSS : str (low su) = SS at *
    have HMM := Lib.hid hMM
    have HSS := Lib.hid hSS
    clear hMM hSS
    generalize str ma = m9 at *
    generalize str su = s9 at *
    go_wp2_with fail
    refine (HL1.out _).mono ?_
    rintro e w4 ⟨rfl, hb4⟩
    go_wp2_with fail
    refine (HL2.out _).mono ?_
    rintro e w5 ⟨rfl, hb5⟩
    have hb15 := nx (nx (nx hb2 hb3) hb4) hb5
    have hl5 : w.heap.size < w5.heap.size := Nat.lt_of_lt_of_le hl1 hb15.size
    have hA5 : Below w5.heap.size w5 (w5.alloc (.cells #[.string MM, .string SS, .slice none 0 0] 24)) := (Below.refl _ _).alloc (Nat.le_refl _) _
    go_wp2_with fail
    have hbA0 := nx hb01 (nx hb15 hA5)
    generalize hWK : w5.alloc (.cells #[.string MM, .string SS, .slice none 0 0] 24) = WK at *
    have cK : ∀ i, WK.cell? ⟨w5.heap.size, i, none⟩ = #[Value.string MM, .string SS, .slice none 0 0][i]? := fun i => by
      rw [← hWK, World.cell?_alloc_at _ _ _ _ rfl]
    have fK : ∀ i, WK.frozen? ⟨w5.heap.size, i, none⟩ = false := fun i => by
      rw [← hWK, World.frozen?_alloc_at _ _ _ _ rfl]
    have hlK : w5.heap.size < WK.heap.size := by rw [← hWK]; simp
    obtain ⟨K, hK⟩ : ∃ K, K = w5.heap.size := ⟨_, rfl⟩
    rw [← hK] at cK fK hlK hl5 hA5
    have HCW : Hid (∀ u, Below K WK u → (∀ i, u.cell? ⟨w.heap.size, i, none⟩ = #[Value.string ⟨#[]⟩, .string ⟨#[]⟩, .slice none 0 0][i]?) ∧ (∀ i, u.frozen? ⟨w.heap.size, i, none⟩ = false) ∧ Below w.heap.size w u) := fun u hu => by
      have h4K : Below w1.heap.size w1 WK := nx hb15 (by rw [hK] at hA5; exact hA5)
      refine ⟨fun i => ?_, fun i => ?_, ?_⟩
      · rw [below_at hu hl5, below_at h4K hl1]; exact HZ1.out.1 i
      · rw [below_fz hu hl5, below_fz h4K hl1]; exact HZ1.out.2 i
      · exact hbA0.trans (hu.mono (Nat.le_of_lt hl5))
    rw [← hK]
    have hKw := hl5
    clear hWK hK hb2 hb3 hb4 hb5 hb15 hA5 HZ1 hbA0 hb01 hb1 hb0 hl5
    have HRP := Lib.hid hrl
    have HMI := Lib.hid hml
    clear hml hrl
    go_loopw [5, 6] (fun r m wr => ∃ (rl : List UInt8) (mb : Bool) (acc : List Fld) (a : Option Addr) (d : Nat), r = .string (str rl) ∧ m = .bool mb ∧ rl.length ≤ s.size ∧ (mb = true → acc.length + rl.length + 1 ≤ s.size) ∧ acc.length ≤ s.size ∧ goesK ps acc mb rl ∧ (∀ x ∈ acc, SmallF 200 x) ∧ OwnF (K + 1) (.slice a acc.length d) acc wr ∧ wr.cell? ⟨K, 0, none⟩ = some (.string MM) ∧ wr.cell? ⟨K, 1, none⟩ = some (.string SS) ∧ wr.cell? ⟨K, 2, none⟩ = some (.slice a acc.length d) ∧ wr.frozen? ⟨K, 2, none⟩ = false ∧ Below K WK wr ∧ K < wr.heap.size) (fun r m _ => match m with | .bool true => Lib.strSize r + 1 | _ => 0)
    case atStart => exact ⟨r0, m0, [], none, 0, rfl, rfl, HRP.out, (fun h => by have := HMI.out h; simp; omega), by simp, HST.out, (fun x hx => by cases hx), OwnR.nil _ _ _ _ _, cK 0, cK 1, cK 2, fK 2, Below.refl _ _, hlK⟩
    case round =>
      obtain ⟨rl, mb, acc, a, d, rfl, rfl, hrl, hmb, hal, hg, hsm, hown, k0, k1, k2, kf, hb, hKr⟩ := hrel
      have HG := Lib.hid hg
      have HSM := Lib.hid hsm
      clear hg hsm cK fK
      cases mb
      · have HMP := Lib.hid (goesK_end HG.out)
        have HKK := Lib.hid (HRS.out acc HMP.out)
        have HOWN := Lib.hid hown
        obtain ⟨a0, d0, hv0, hrd, _, hcap⟩ := hown.read fldC_len
        injection hv0 with e1 _ e3
        subst e1 e3
        have HRD := Lib.hid hrd
        have hKV : Hid (∀ u, Below K WK u → RdF u a acc.length acc → Calls Tryd.prog 14 #[.agg #[.string MM, .string SS, .slice a acc.length d]] u fun e w' => e = .returned (.bool (isKnd ⟨low ma, low su, acc⟩)) ∧ Below u.heap.size u w') := fun u _ hr => by
          have := kindValidS_any MM SS a acc.length d acc u (by omega) (by omega) hr hcap (by omega) (fun x hx => (HSM.out x hx).up (by omega))
          rw [HM1.out.1, HM1.out.2] at this; exact this
        obtain ⟨cZ, fZ, hBZ⟩ := HCW.out _ hb
        have hlz : w.heap.size < wr.heap.size := Nat.lt_trans hKw hKr
        have HMK : Hid (MM = str (Knd.mk (low ma) (low su) acc).main ∧ SS = str (Knd.mk (low ma) (low su) acc).sub) := ⟨HMM.out.symm, HSS.out.symm⟩
        clear hown hrd hmb hrl
        cases ok
        · have HN : Hid (parseK s.data.toList = none) := by show _ = _; rw [HKK.out]; exact okS_uncut acc HCU.out
          clear HKK hKV
          go_wp2
          refine bodyPost_ret (v := .tuple #[.agg #[.string ⟨#[]⟩, .string ⟨#[]⟩, .slice none 0 0], .bool false]) (by simp [results, Tryd.results4, go_sem, cZ]) rfl (pkRet_none HN.out ?_)
          exact (((hBZ.setCell (by simp) _).setCell (by simp) _).setCell (by simp) _)
        · have HKL : Hid (parseK s.data.toList = okK ⟨low ma, low su, acc⟩) := by show _ = _; rw [HKK.out]; exact okS_cut acc HCU.out
          clear HKK
          cases hkn : isKnd ⟨low ma, low su, acc⟩
          · have HN : Hid (parseK s.data.toList = none) := by show _ = _; rw [HKL.out]; exact okK_no hkn
            rw [hkn] at hKV
            clear hkn
            go_wp2_with fail
            refine (hKV.out _ hb HRD.out).mono ?_
            rintro e w8 ⟨rfl, hb8⟩
            have cZ8 : ∀ i, w8.cell? ⟨w.heap.size, i, none⟩ = #[Value.string ⟨#[]⟩, .string ⟨#[]⟩, .slice none 0 0][i]? := fun i => (below_at hb8 hlz).trans (cZ i)
            have fZ8 : ∀ i, w8.frozen? ⟨w.heap.size, i, none⟩ = false := fun i => (below_fz hb8 hlz).trans (fZ i)
            clear cZ fZ
            go_wp2
            refine bodyPost_ret (v := .tuple #[.agg #[.string ⟨#[]⟩, .string ⟨#[]⟩, .slice none 0 0], .bool false]) (by simp [results, Tryd.results4, go_sem, cZ8]) rfl (pkRet_none HN.out ?_)
            exact ((((hBZ.trans (hb8.mono (Nat.le_of_lt hlz))).setCell (by simp) _).setCell (by simp) _).setCell (by simp) _)
          · have HN : Hid (parseK s.data.toList = some ⟨low ma, low su, acc⟩) := by show _ = _; rw [HKL.out]; exact okK_yes hkn
            rw [hkn] at hKV
            clear hkn
            go_wp2_with fail
            refine (hKV.out _ hb HRD.out).mono ?_
            rintro e w8 ⟨rfl, hb8⟩
            have cZ8 : ∀ i, w8.cell? ⟨w.heap.size, i, none⟩ = #[Value.string ⟨#[]⟩, .string ⟨#[]⟩, .slice none 0 0][i]? := fun i => (below_at hb8 hlz).trans (cZ i)
            have fZ8 : ∀ i, w8.frozen? ⟨w.heap.size, i, none⟩ = false := fun i => (below_fz hb8 hlz).trans (fZ i)
            have k08 := (below_at hb8 hKr).trans k0
            have k18 := (below_at hb8 hKr).trans k1
            have k28 := (below_at hb8 hKr).trans k2
            have HO8 := Lib.hid (HOWN.out.keep hb8)
            have hlz8 : w.heap.size < w8.heap.size := Nat.lt_of_lt_of_le hlz hb8.size
            clear cZ fZ k0 k1 k2
            go_wp2
            refine bodyPost_ret (v := .tuple #[.agg #[.string MM, .string SS, .slice a acc.length d], .bool true]) (by simp [results, Tryd.results4, go_sem, cZ8]) rfl (pkRet_some HN.out HMK.out.1 HMK.out.2 ?_ ?_)
            · exact OwnR.base (ownF_offG (ownF_offG (ownF_offG HO8.out (by omega) 0 _) (by omega) 1 _) (by omega) 2 _) (by omega)
            · exact ((((hBZ.trans (hb8.mono (Nat.le_of_lt hlz))).setCell (by simp) _).setCell (by simp) _).setCell (by simp) _)
      · have hmb' := hmb rfl
        have hzl : (str rl).size ≤ 200 := by rw [str_size]; omega
        have HRL : Hid ((str rl).data.toList = rl ∧ (str rl).size = rl.length) := ⟨str_list _, str_size _⟩
        have HRZ : Hid (Lib.strSize (.string (str rl)) = (str rl).size) := rfl
        clear hmb
        generalize str rl = RL at *
        go_wp2_with fail
        refine (l2Cut_any RL 59 _ (by decide) (by omega)).mono ?_
        intro e w6 hret
        obtain ⟨pl, r1, m1, rfl, hpu, _, hpl3, hrl3, hml3, hb6⟩ := cutP_of hret
        rw [HRL.out.1] at hpu
        have HPU := Lib.hid hpu
        have hzp : (str pl).size ≤ 200 := by rw [str_size]; omega
        have HPS : Hid (readPS pl = none → parseK s.data.toList = none) := fun h => HRN.out (goesK_bad HG.out HPU.out h)
        have HPN : Hid (∀ f, readPS pl = some f → goesK ps (acc ++ [f]) m1 r1 ∧ SmallF 200 f) := fun f h => ⟨goesK_next HG.out HPU.out h, (readPS_small h).up (by rw [str_size] at hzp; exact hzp)⟩
        have hb06 : Below K WK w6 := hb.trans (hb6.mono (Nat.le_of_lt hKr))
        have hzt6 : (str (trimS pl)).size ≤ 200 := by rw [str_size] at hzp ⊢; have := trimS_len pl; omega
        have HTP : Hid (∀ u : World, Calls Tryd.prog 11 #[.string (str pl)] u fun e w' => e = .returned (.string (str (trimS pl))) ∧ Below u.heap.size u w') := fun u => by
          have := l2Trim_any (str pl) u (by omega)
          rw [str_list] at this
          exact this.mono fun _ _ ⟨h1, h2⟩ => ⟨h1, by rw [← h2]; exact Below.refl _ _⟩
        have HTL6 : Hid ((str (trimS pl)).data.toList = trimS pl) := str_list _
        clear hret hpu
        generalize str pl = PL at *
        generalize str (trimS pl) = TP at *
        go_wp2_with fail
        refine (HTP.out _).mono ?_
        rintro e w7 ⟨rfl, hb7⟩
        go_wp2_with fail
        refine (l2Cut_any TP 61 _ (by decide) (by omega)).mono ?_
        intro e w8 hret
        obtain ⟨na, va, fi, rfl, _, hcu, hpl4, hrl4, _, hb8⟩ := cutP_of hret
        rw [HTL6.out] at hcu
        have HCP := Lib.hid hcu
        clear hret hcu
        have hzn : (str na).size ≤ 200 := by rw [str_size]; omega
        have hzv : (str va).size ≤ 200 := by rw [str_size]; omega
        have HTV : Hid (∀ u : World, Calls Tryd.prog 11 #[.string (str va)] u fun e w' => e = .returned (.string (str (trimS va))) ∧ Below u.heap.size u w') := fun u => by
          have := l2Trim_any (str va) u (by omega)
          rw [str_list] at this
          exact this.mono fun _ _ ⟨h1, h2⟩ => ⟨h1, by rw [← h2]; exact Below.refl _ _⟩
        have hzw : (str (trimS va)).size ≤ 200 := by rw [str_size] at hzv ⊢; have := trimS_len va; omega
        have HWV : Hid (∀ u : World, Calls Tryd.prog 13 #[.string (str (trimS va))] u fun e w' => ∃ v, e = .returned (.tuple #[v, .bool (splitW (trimS va)).isSome]) ∧ OwnL u.heap.size v ((splitW (trimS va)).getD []) w' ∧ Below u.heap.size u w') := fun u => by
          have := l1Words_any (str (trimS va)) u (by omega)
          unfold WordsRet at this
          rw [str_list] at this; exact this
        have HTN : Hid (∀ u : World, Calls Tryd.prog 11 #[.string (str na)] u fun e w' => e = .returned (.string (str (trimS na))) ∧ Below u.heap.size u w') := fun u => by
          have := l2Trim_any (str na) u (by omega)
          rw [str_list] at this
          exact this.mono fun _ _ ⟨h1, h2⟩ => ⟨h1, by rw [← h2]; exact Below.refl _ _⟩
        have HLN : Hid (∀ u : World, Calls Tryd.prog 12 #[.string (str (trimS na))] u fun e w' => e = .returned (.string (str (low (trimS na)))) ∧ Below u.heap.size u w') := fun u => by
          have := lowerTextS_any (str (trimS na)) u (by rw [str_size] at hzn ⊢; have := trimS_len na; omega)
          rw [lowS_str] at this; exact this
        generalize str va = VA at *
        generalize str (trimS va) = VT at *
        go_wp2_with fail
        refine (HTV.out _).mono ?_
        rintro e w9 ⟨rfl, hb9⟩
        go_wp2_with fail
        refine (HWV.out _).mono ?_
        rintro e w10 ⟨v10, rfl, ho10, hb10⟩
        have hbr := nx (nx (nx (nx hb6 hb7) hb8) hb9) hb10
        have hBr : Below K WK w10 := hb.trans (hbr.mono (Nat.le_of_lt hKr))
        obtain ⟨cZ, fZ, hBZ⟩ := HCW.out _ hBr
        have hK10 : K < w10.heap.size := Nat.lt_of_lt_of_le hKr hbr.size
        have hlz : w.heap.size < w10.heap.size := Nat.lt_trans hKw hK10
        obtain ⟨a10, d10, rfl, hr10, hm10⟩ := ho10.read
        have HR10 := Lib.hid hr10
        clear hb6 hb7 hb8 hb9 hb10 ho10 hr10
        cases fi
        · have HN : Hid (parseK s.data.toList = none) := HPS.out (readPS_uncut HCP.out)
          clear HWV HTN HLN HPN
          go_wp2
          refine bodyPost_ret (v := .tuple #[.agg #[.string ⟨#[]⟩, .string ⟨#[]⟩, .slice none 0 0], .bool false]) (by simp [results, Tryd.results4, go_sem, cZ]) rfl (pkRet_none HN.out ?_)
          exact (((hBZ.setCell (by simp) _).setCell (by simp) _).setCell (by simp) _)
        · have HRD := Lib.hid (readPS_cut HCP.out)
          cases hsw : splitW (trimS va) with
          | none =>
            have HN : Hid (parseK s.data.toList = none) := HPS.out (by rw [HRD.out, hsw])
            simp only [Option.getD_none, Option.isSome_none, List.length_nil]
            clear hsw
            clear HWV HTN HLN HPN
            go_wp2
            refine bodyPost_ret (v := .tuple #[.agg #[.string ⟨#[]⟩, .string ⟨#[]⟩, .slice none 0 0], .bool false]) (by simp [results, Tryd.results4, go_sem, cZ]) rfl (pkRet_none HN.out ?_)
            exact (((hBZ.setCell (by simp) _).setCell (by simp) _).setCell (by simp) _)
          | some xs =>
            rw [hsw] at HR10 hm10
            simp only [Option.getD_some, Option.isSome_some]
            have HR11 : Hid (RdL w10 a10 xs.length xs) := HR10.out
            by_cases h1 : xs.length = 1
            · match xs, h1 with
              | [t], _ =>
              have HSP : Hid (readPS pl = some ⟨low (trimS na), t⟩) := by show _ = _; rw [HRD.out, hsw]
              obtain ⟨hgn, hsf⟩ := HPN.out _ HSP.out
              have HGN := Lib.hid hgn
              have HSF := Lib.hid hsf
              obtain ⟨b, off, rfl, hbl, hcell⟩ := HR11.out.2.resolve_left (by simp)
              have hq := hcell 0 (by simp)
              rw [Nat.add_zero] at hq
              replace hq : w10.cell? ⟨b, off, none⟩ = some (.string (str t)) := hq
              have k010 := (below_at hbr hKr).trans k0
              have k110 := (below_at hbr hKr).trans k1
              have k210 := (below_at hbr hKr).trans k2
              have kf10 := (below_fz hbr hKr).trans kf
              have HO10 := Lib.hid (hown.keep hbr)
              have HFE : Hid (str (low (trimS na)) = str (Fld.mk (low (trimS na)) t).name ∧ str t = str (Fld.mk (low (trimS na)) t).val) := ⟨rfl, rfl⟩
              obtain ⟨f, hf⟩ : ∃ f, f = Fld.mk (low (trimS na)) t := ⟨_, rfl⟩
              rw [← hf] at HFE HGN HSF
              have HFA := Lib.hid HFE.out.1
              have HFB := Lib.hid HFE.out.2
              clear HFE hf
              generalize hLN : str (low (trimS na)) = LN at *
              generalize hTV : str t = TV at *
              generalize str (trimS na) = TN at *
              generalize str na = NA at *
              have HB : Hid (∀ u, Below w10.heap.size w10 u → u.cell? ⟨K, 2, none⟩ = some (.slice a acc.length d) ∧ u.cell? ⟨b, off, none⟩ = some (.string TV)) := fun u hu => ⟨(below_at hu hK10).trans k210, (below_at hu hbl).trans hq⟩
              clear hcell hgn hsf k0 k1 k2 kf hown hsw hLN hTV cZ fZ
              go_wp2_with fail
              refine wp_region_tail (by kernel_rfl) ?_
              refine wpAny_tail (fuel := 10) (tf := 3) [10, 11, 12] (by kernel_rfl) ?_
              refine wpAnyZ_take (fuel := 1) [true, true, true, true, true, true, true, true, true] (by kernel_rfl) (by kernel_rfl) (by rfl) (by kernel_rfl) (by kernel_rfl) (by kernel_rfl) ?_
              apply Exists.intro
              refine ⟨fun x => ?_, ?_⟩
              · have y0 := fun (y : BelowT x.val) => (HB.out y.val (nx ((Below.refl _ _).drew) (nx x.below y.below))).1
                have y1 := fun (y : BelowT x.val) => (HB.out y.val (nx ((Below.refl _ _).drew) (nx x.below y.below))).2
                simp only [pickL]
                repeat (go_big_quiet_step (first
                  | (go_at_call 11; exact calls_belowT (HTN.out _))
                  | (go_at_call 12; exact calls_belowT (HLN.out _))))
                exact wpQuiet_nil rfl
              refine wpAnyZ_one (m := 9) (by kernel_rfl) (fun u1 g1 => ?_)
              refine wpOp_at (o := _) (by rfl) (by rfl) ?_
              go_simp
              refine ⟨(Below.refl _ _).alloc (Nat.le_refl _) _, ?_⟩
              try simp only [Act.put, List.setIfInBounds_toArray, List.set_cons_zero, List.set_cons_succ]
              have hg1 : Below w10.heap.size w10 u1 := nx ((Below.refl _ _).drew) g1
              have HA1 : Hid (Below w10.heap.size w10 (u1.alloc (.cells #[.string LN, .string TV] 37))) := nx hg1 ((Below.refl _ _).alloc (Nat.le_refl _) _)
              have hnew0 : (u1.alloc (.cells #[.string LN, .string TV] 37)).cell? ⟨u1.heap.size, 0, none⟩ = some (.string LN) := by rw [World.cell?_alloc_at _ _ _ _ rfl]; rfl
              have hnew1 : (u1.alloc (.cells #[.string LN, .string TV] 37)).cell? ⟨u1.heap.size, 1, none⟩ = some (.string TV) := by rw [World.cell?_alloc_at _ _ _ _ rfl]; rfl
              have hnl : u1.heap.size < (u1.alloc (.cells #[.string LN, .string TV] 37)).heap.size := by simp
              generalize hU : u1.alloc (.cells #[.string LN, .string TV] 37) = U1 at *
              clear hU
              refine wpAnyZ_rest (by kernel_rfl) (fun u2 g2 => ?_)
              have HB2 : Hid (Below w10.heap.size w10 u2) := nx HA1.out g2
              have hB2 : Below K WK u2 := hBr.trans (HB2.out.mono (Nat.le_of_lt hK10))
              have k02 := (below_at HB2.out hK10).trans k010
              have k12 := (below_at HB2.out hK10).trans k110
              have k22 := (below_at HB2.out hK10).trans k210
              have kf2 := (below_fz HB2.out hK10).trans kf10
              have hK2 : K < u2.heap.size := Nat.lt_of_lt_of_le hK10 HB2.out.size
              have hO2 := HO10.out.keep HB2.out
              refine wpAny_one (m := 10) (by kernel_rfl) ?_
              refine wpOp_at (o := _) (by rfl) (by rfl) ?_
              refine wp_append_F _ _ rfl (K + 1) _ acc f u1.heap.size rfl rfl hO2 (by rw [below_at g2 hnl, hnew0, HFA.out]) (by rw [below_at g2 hnl, hnew1, HFB.out]) hK2 (by omega) ?_
              intro v3 u3 hO3 hb3
              have hB3 : Below K WK u3 := hB2.trans (hb3.mono (by omega))
              have k03 := (below_at hb3 (by omega)).trans k02
              have k13 := (below_at hb3 (by omega)).trans k12
              have k23 := (below_at hb3 (by omega)).trans k22
              have kf3 := (below_fz hb3 (by omega)).trans kf2
              have hK3 : K < u3.heap.size := Nat.lt_of_lt_of_le hK2 hb3.size
              obtain ⟨ys, hys⟩ : ∃ ys, ys = acc ++ [f] := ⟨_, rfl⟩
              have hyl : ys.length = acc.length + 1 := by rw [hys]; simp
              have HYL := Lib.hid hyl
              have HYS : Hid (∀ x ∈ ys, SmallF 200 x) := fun x hx => by
                rw [hys] at hx
                rcases List.mem_append.1 hx with h | h
                · exact HSM.out x h
                · rw [List.mem_singleton.1 h]; exact HSF.out
              rw [← hys] at hO3 HGN
              have HO3 := Lib.hid hO3
              obtain ⟨a', d', rfl, _, _, _⟩ := hO3.read fldC_len
              have HO4 := Lib.hid (ownF_off HO3.out 2 (.slice a' ys.length d'))
              clear hys hO3 hyl k010 k110 k210 kf10 k02 k12 k22 kf2 hO2 hb3 hB2 hnew0 hnew1
              try simp only [Act.put, List.setIfInBounds_toArray]
              refine wpAny_one (m := 11) (by kernel_rfl) ?_
              refine wpOp_at (o := _) (by rfl) (by rfl) ?_
              go_simp
              try simp only [Act.put, List.setIfInBounds_toArray, List.set_cons_zero, List.set_cons_succ]
              refine wpAny_one (m := 12) (by kernel_rfl) ?_
              refine wpOp_at (o := _) (by rfl) (by rfl) ?_
              go_simp
              try simp only [Act.put]
              refine wpAny_end (by kernel_rfl) ?_ _
              have hz1 : (str r1).size = r1.length := str_size r1
              have hz2 := HRL.out.2
              go_wp2
              go_roundw
              case rel => exact ⟨r1, m1, ys, a', d', rfl, rfl, by omega, (fun h => by have := hml3 h; have := HYL.out; omega), by have := HYL.out; omega, HGN.out, HYS.out, HO4.out, (cell_off (by omega) _).trans k03, (cell_off (by omega) _).trans k13, cell_same k23 _, (World.frozen?_setCell _ _ _ _).trans kf3, hB3.setCell (Nat.le_refl _) _, by simpa using hK3⟩
              case measure =>
                cases m1
                · simp
                · have := hml3 rfl
                  show Lib.strSize (.string (str r1)) + 1 < Lib.strSize (.string RL) + 1
                  rw [Lib.strSize_string, Lib.strSize_string, str_size]; omega
            · have hne : ((xs.length : Int) != 1) = true := by rw [bne_iff_ne]; omega
              have HN : Hid (parseK s.data.toList = none) := HPS.out (by
                rw [HRD.out, hsw]
                match xs, h1 with
                | [], _ => rfl
                | _ :: _ :: _, _ => rfl)
              clear hsw
              clear HWV HTN HLN HPN
              go_wp2
              refine bodyPost_ret (v := .tuple #[.agg #[.string ⟨#[]⟩, .string ⟨#[]⟩, .slice none 0 0], .bool false]) (by simp [results, Tryd.results4, go_sem, cZ]) rfl (pkRet_none HN.out ?_)
              exact (((hBZ.setCell (by simp) _).setCell (by simp) _).setCell (by simp) _)
end Go.Proofs.YtfheajfcepcepabDoor
end

section
namespace Go.Proofs.YtfheajfcepcepabDoor
open Go.RowKit

end Go.Proofs.YtfheajfcepcepabDoor
end

section
namespace Go.Proofs.YtfheajfcepcepabDoor
open Go.ChangeShapes Go.WideShapes Go.ChangeAt Go.RowKit
open Go.ChangeMaps (open_string shut_string)

set_option maxRecDepth 100000 in
set_option maxHeartbeats 1000000 in
theorem eqField_any (n l n2 l2 : ByteArray) (w : World) :
    Calls Tryd.prog 45 #[.agg #[.string n, .string l], .agg #[.string n2, .string l2]] w fun e w' => e = .returned (.bool (decide (fld n l = fld n2 l2))) ∧ Below w.heap.size w w' := by
  have hb0 : Below w.heap.size w ((w.alloc (.cells #[.string n, .string l] 37)).alloc (.cells #[.string n2, .string l2] 37)) := ((Below.refl _ _).alloc (Nat.le_refl _) _).alloc (by simp) _
  have HI : Hid (fld n l = fld n2 l2 ↔ n = n2 ∧ l = l2) := by
    show _ ↔ _
    unfold fld
    constructor
    · intro h; injection h with h1 h2; exact ⟨bytes_ext h1, bytes_ext h2⟩
    · rintro ⟨rfl, rfl⟩; rfl
  by_cases h1 : n = n2
  · have e1 : (n.toList == n2.toList) = true := by rw [h1]; simp
    by_cases h2 : l = l2
    · have e2 : (l.toList == l2.toList) = true := by rw [h2]; simp
      have HV : Hid (decide (fld n l = fld n2 l2) = true) := by show _ = _; rw [decide_eq_true_iff, HI.out]; exact ⟨h1, h2⟩
      clear h1 h2
      go_enter Tryd.func45, Tryd.ntmps45
      go_wp2
      go_ret
      exact ⟨ret_bool HV.out.symm, hb0⟩
    · have e2 : (l.toList == l2.toList) = false := by rw [beq_dec, decide_eq_false h2]
      have HV : Hid (decide (fld n l = fld n2 l2) = false) := by show _ = _; rw [decide_eq_false_iff_not, HI.out]; exact fun h => h2 h.2
      clear h1 h2
      go_enter Tryd.func45, Tryd.ntmps45
      go_wp2
      go_ret
      exact ⟨ret_bool HV.out.symm, hb0⟩
  · have e1 : (n.toList == n2.toList) = false := by rw [beq_dec, decide_eq_false h1]
    have HV : Hid (decide (fld n l = fld n2 l2) = false) := by show _ = _; rw [decide_eq_false_iff_not, HI.out]; exact fun h => h1 h.1
    clear h1
    go_enter Tryd.func45, Tryd.ntmps45
    go_wp2
    go_ret
    exact ⟨ret_bool HV.out.symm, hb0⟩
end Go.Proofs.YtfheajfcepcepabDoor
end

section
namespace Go.Proofs.YtfheajfcepcepabDoor
open Go.RowKit

theorem joinAll_succ (xs : List (List UInt8)) (k : Nat) (h : k < xs.length) : joinAll (xs.take (k + 1)) = if k = 0 then quoteW xs[k] else joinAll (xs.take k) ++ 32 :: quoteW xs[k] := by
  rw [List.take_succ_eq_append_getElem h, joinAll_snoc]
  by_cases hk : k = 0
  · subst hk; simp
  · rw [if_neg hk, if_neg (by intro e; have h2 : (xs.take k).length = 0 := (by rw [e]; rfl); rw [List.length_take] at h2; omega)]
theorem joinW_bad {xs : List (List UInt8)} {k : Nat} (h : k < xs.length) (hx : isText xs[k] = false) : joinW xs = [] := by
  unfold joinW
  rw [if_neg]
  rw [Bool.and_eq_true, List.all_eq_true]
  intro hc
  have := hc.1 _ (List.getElem_mem h)
  rw [hx] at this; cases this
theorem joinW_long {xs : List (List UInt8)} {k : Nat} (h : 200 < (joinAll (xs.take k)).length) : joinW xs = [] := by
  unfold joinW
  rw [if_neg]
  rw [Bool.and_eq_true, decide_eq_true_eq]
  intro hc
  have := joinAll_take xs k
  omega
theorem joinW_all {xs : List (List UInt8)} (h : ∀ j, (hj : j < xs.length) → isText xs[j] = true) (hl : (joinAll xs).length ≤ 200) : joinW xs = joinAll xs := by
  unfold joinW
  rw [if_pos]
  rw [Bool.and_eq_true, decide_eq_true_eq, List.all_eq_true]
  refine ⟨fun x hx => ?_, hl⟩
  obtain ⟨j, hj, rfl⟩ := List.getElem_of_mem hx
  exact h j hj
theorem take_full {α : Type} (xs : List α) : xs.take xs.length = xs := List.take_length
end Go.Proofs.YtfheajfcepcepabDoor
end

section
namespace Go.Proofs.YtfheajfcepcepabDoor
open Go.RowKit

theorem OwnL.touch {B R : Nat} {v : Value} {xs : List (List UInt8)} {w w' : World} (h : OwnL B v xs w) (t : Touch R w w') (hR : R < B) : OwnL B v xs w' := by
  refine ⟨h.1, ?_⟩
  rcases h.2 with hn | ⟨g, cap, cur, hv, hg1, hg2, rest⟩
  · exact .inl hn
  · refine .inr ⟨g, cap, cur, hv, hg1, ?_, rest⟩
    have hglt : g < w.heap.size := by
      rcases Nat.lt_or_ge g w.heap.size with h' | h'
      · exact h'
      · simp [Array.getElem?_eq_none h'] at hg2
    rw [t.block g hglt (by omega), hg2]
end Go.Proofs.YtfheajfcepcepabDoor
end

section
namespace Go.Proofs.YtfheajfcepcepabDoor
open Go.RowKit

def dg : Nat → Nat → List UInt8 → List UInt8
  | 0, _, acc => acc
  | f + 1, k, acc => if k = 0 then acc else dg f (k / 10) (UInt8.ofNat (48 + k % 10) :: acc)
theorem dg_zero (f : Nat) (acc : List UInt8) : dg f 0 acc = acc := by cases f <;> simp [dg]
theorem dg_step {f k : Nat} (hk : 0 < k) (hf : k < f) (acc : List UInt8) : dg f k acc = dg (f - 1) (k / 10) (UInt8.ofNat (48 + k % 10) :: acc) := by
  match f, hf with
  | f + 1, _ => rw [dg, if_neg (by omega)]; rfl
/-- The mark of a number. -/
def markT (k : Nat) : ByteArray := str (109 :: dg (k + 1) k [])
def mT (k : Nat) : List UInt8 := 109 :: dg (k + 1) k []
theorem mT_eq (k : Nat) : markT k = str (mT k) := rfl
set_option maxRecDepth 100000 in
set_option maxHeartbeats 2000000 in
theorem markText_any (k : Nat) (w : World) (hk0 : 0 < k) (hk : k ≤ 1073741824) :
    Calls Tryd.prog 46 #[.int .i64 k] w fun e w' => e = .returned (.string (markT k)) ∧ Below w.heap.size w w' := by
  go_enter Tryd.func46, Tryd.ntmps46
  go_wp2_with fail
  go_loopw [0, 3] (fun i v wr => ∃ (m f : Nat) (o : ByteArray), i = .int .i64 m ∧ v = .string o ∧ m < f ∧ o.size + m ≤ k ∧ dg f m o.data.toList = dg (k + 1) k [] ∧ Below w.heap.size w wr) (fun i _ _ => (intOf i).toNat)
  case atStart => exact ⟨k, k + 1, _, rfl, rfl, by omega, (by show 0 + k ≤ k; omega), rfl, Below.refl _ _⟩
  case round =>
    obtain ⟨m, f, o, rfl, rfl, hmf, hos, hdg, hb⟩ := hrel
    have HD := Lib.hid hdg
    clear hdg
    by_cases hm : 0 < m
    · have HN : Hid (dg (f - 1) (m / 10) (UInt8.ofNat (48 + m % 10) :: o.data.toList) = dg (k + 1) k []) := by show _ = _; rw [← HD.out, dg_step hm hmf]
      have hcv := conv_one wr (UInt8.ofNat (48 + m % 10)) (n := (48 : Int) + (m : Int) % 10) (by rw [UInt8.toNat_ofNat_of_lt' (by show _ < 256; omega)]; omega)
      have q1 : 0 ≤ (m : Int) % 10 := Int.emod_nonneg _ (by omega)
      have q2 : (m : Int) % 10 < 10 := Int.emod_lt_of_pos _ (by omega)
      generalize UInt8.ofNat (48 + m % 10) = ch at *
      have hz1 : (ByteArray.mk #[ch]).size = 1 := rfl
      go_wp2
      go_roundw
      case rel => exact ⟨m / 10, f - 1, _, by go_num, rfl, by omega, by rw [ByteArray.size_append, hz1]; omega, by rw [Joins.data_append]; exact HN.out, hb.alloc hb.size _⟩
      case measure => simp [intOf]; omega
    · have hm0 : m = 0 := by omega
      subst hm0
      have HE : Hid (o.data.toList = dg (k + 1) k []) := by show _ = _; rw [← HD.out, dg_zero]
      have hz1 : (ByteArray.mk #[109]).size = 1 := rfl
      clear hm
      go_wp2
      go_ret
      exact ⟨ret_str (bytes_ext (by rw [Joins.data_append, HE.out]; unfold markT; rw [str_list]; rfl)), hb⟩
end Go.Proofs.YtfheajfcepcepabDoor
end

section
namespace Go.Proofs.YtfheajfcepcepabDoor
open Go.ChangeShapes Go.WideShapes Go.RowKit Go.Deep

theorem set2 {L : List Value} {k : Nat} (hk : k * 2 + 1 < L.length) (a b : Value) :
    ((L.set (k * 2) a).set (k * 2 + 1) b)[k * 2]? = some a ∧ ((L.set (k * 2) a).set (k * 2 + 1) b)[k * 2 + 1]? = some b ∧ ∀ i, i < k * 2 → ((L.set (k * 2) a).set (k * 2 + 1) b)[i]? = L[i]? := by
  refine ⟨?_, ?_, fun i hi => ?_⟩
  · rw [List.getElem?_set_ne (by omega), List.getElem?_set_self (by omega)]
  · rw [List.getElem?_set_self (by simp; omega)]
  · rw [List.getElem?_set_ne (by omega), List.getElem?_set_ne (by omega)]
theorem set2_row {L : List Value} {k : Nat} {xs : List Fld} (x : Fld) (hk : k * 2 + 1 < L.length) (hx : ∀ (hj : k < xs.length), xs[k] = x)
    (h : ∀ j, j < k → (hj : j < xs.length) → ∀ d, d < 2 → L[j * 2 + d]? = (fldC xs[j])[d]?) :
    ∀ j, j < k + 1 → (hj : j < xs.length) → ∀ d, d < 2 → ((L.set (k * 2) (.string (str x.name))).set (k * 2 + 1) (.string (str x.val)))[j * 2 + d]? = (fldC xs[j])[d]? := by
  intro j hj hjx d hd
  obtain ⟨g0, g1, g3⟩ := set2 hk (.string (str x.name)) (.string (str x.val))
  by_cases e : j = k
  · subst e
    rw [hx hjx]
    rcases (by omega : d = 0 ∨ d = 1) with rfl | rfl
    · exact g0
    · exact g1
  · rw [g3 _ (by omega)]; exact h j (by omega) hjx d hd
set_option maxRecDepth 100000 in
set_option maxHeartbeats 1000000 in
theorem eqFieldS_any (a1 a2 : Option Addr) (n1 c1 n2 c2 : Nat) (xs ys : List Fld) (w : World) (h1 : RdF w a1 n1 xs) (h2 : RdF w a2 n2 ys) (hn1 : n1 ≤ maxLen) (hn2 : n2 ≤ maxLen) :
    Calls Tryd.prog 22 #[.slice a1 n1 c1, .slice a2 n2 c2] w fun e w' => e = .returned (.bool (decide (xs = ys))) ∧ Below w.heap.size w w' := by
  unfold maxLen at hn1 hn2
  obtain ⟨l1, r1⟩ := h1
  obtain ⟨l2, r2⟩ := h2
  have L1 := Lib.hid l1
  have L2 := Lib.hid l2
  by_cases hn : n1 = n2
  · subst hn
    have e1 : ((n1 : Int) != (n1 : Int)) = false := by simp
    by_cases h0 : n1 = 0
    · have hxy : Hid (xs = ys) := by show xs = ys; rw [List.length_eq_zero_iff.1 (l1.trans h0), List.length_eq_zero_iff.1 (l2.trans h0)]
      subst h0
      clear l1 l2 r1 r2
      go_enter Tryd.func22, Tryd.ntmps22
      go_wp2_with fail
      go_loop [5] (fun i => i = .int .i64 0) (fun _ => 0)
      case atStart => rfl
      case round =>
        subst hrel
        go_wp2
        go_ret
        exact ⟨ret_bool (decide_eq_true hxy.out).symm, Below.refl _ _⟩
    · obtain ⟨b1, o1, rfl, hb1, x1⟩ := r1.resolve_left h0
      obtain ⟨b2, o2, rfl, hb2, x2⟩ := r2.resolve_left h0
      have X1 := Lib.hid x1
      have X2 := Lib.hid x2
      clear l1 l2 r1 r2 x1 x2 h0
      go_enter Tryd.func22, Tryd.ntmps22
      go_wp2_with fail
      go_loopw [5] (fun i wr => ∃ k : Nat, k ≤ n1 ∧ i = .int .i64 k ∧ Below w.heap.size w wr ∧ xs.take k = ys.take k) (fun i _ => n1 - (intOf i).toNat)
      case atStart => exact ⟨0, Nat.zero_le _, rfl, Below.refl _ _, rfl⟩
      case round =>
        obtain ⟨k, hk, rfl, hb, htk⟩ := hrel
        have HTK := Lib.hid htk
        clear htk
        by_cases hlt : k < n1
        · have k1 : k < xs.length := by rw [L1.out]; exact hlt
          have k2 : k < ys.length := by rw [L2.out]; exact hlt
          obtain ⟨q0, q1⟩ := RdR.fld X1.out k1
          obtain ⟨p0, p1⟩ := RdR.fld X2.out k2
          rw [← below_at hb hb1] at q0 q1
          rw [← below_at hb hb2] at p0 p1
          have HDE : Hid (decide (fld (str xs[k].name) (str xs[k].val) = fld (str ys[k].name) (str ys[k].val)) = decide (xs[k] = ys[k])) := by show _ = _; rw [fld_str, fld_str]
          have HT1 := Lib.hid (List.take_succ_eq_append_getElem k1)
          have HT2 := Lib.hid (List.take_succ_eq_append_getElem k2)
          have HXY : Hid (xs[k] ≠ ys[k] → xs ≠ ys) := fun h e => h (by subst e; rfl)
          have hkz : (0 : Int) ≤ (k : Int) := by omega
          have hkn : (k : Int) < (n1 : Int) := by omega
          generalize xs[k] = x at *
          generalize ys[k] = y at *
          generalize str x.name = s0 at *
          generalize str x.val = s1 at *
          generalize str y.name = t0 at *
          generalize str y.val = t1 at *
          by_cases hxy : x = y
          · have HD : Hid (decide (fld s0 s1 = fld t0 t1) = true) := by show _ = _; rw [HDE.out]; exact decide_eq_true hxy
            have HN : Hid (xs.take (k + 1) = ys.take (k + 1)) := by show _ = _; rw [HT1.out, HT2.out, HTK.out, hxy]
            clear hxy
            go_wp2
            go_region_with (go_at_call 45; refine (eqField_any _ _ _ _ _).mono ?_; rintro e w4 ⟨rfl, hb4⟩; rw [HD.out])
            all_goals
              go_wp2
              go_roundw
              case rel => first | exact ⟨k + 1, by omega, by go_num, nx hb.drew hb4, HN.out⟩ | exact ⟨k + 1, by omega, by go_num, nx hb hb4, HN.out⟩
              case measure => simp [intOf]; omega
          · have HD : Hid (decide (fld s0 s1 = fld t0 t1) = false) := by show _ = _; rw [HDE.out]; exact decide_eq_false hxy
            have HN : Hid (xs ≠ ys) := HXY.out hxy
            clear hxy
            go_wp2
            go_region_with (go_at_call 45; refine (eqField_any _ _ _ _ _).mono ?_; rintro e w4 ⟨rfl, hb4⟩; rw [HD.out])
            all_goals
              go_wp2
              go_ret
              first | exact ⟨ret_bool (decide_eq_false HN.out).symm, nx hb.drew hb4⟩ | exact ⟨ret_bool (decide_eq_false HN.out).symm, nx hb hb4⟩
        · have HN : Hid (xs = ys) := by
            show xs = ys
            have h := HTK.out
            rw [List.take_of_length_le (by rw [L1.out]; omega), List.take_of_length_le (by rw [L2.out]; omega)] at h
            exact h
          go_wp2
          go_ret
          exact ⟨ret_bool (decide_eq_true HN.out).symm, hb⟩
  · have e1 : ((n1 : Int) != (n2 : Int)) = true := by rw [bne_iff_ne]; omega
    have HN : Hid (xs ≠ ys) := by show _ ≠ _; intro e; exact hn (by rw [← l1, ← l2, e])
    clear l1 l2 r1 r2
    go_enter Tryd.func22, Tryd.ntmps22
    go_wp2
    go_ret
    exact ⟨ret_bool (decide_eq_false HN.out).symm, Below.refl _ _⟩
end Go.Proofs.YtfheajfcepcepabDoor
end

section
namespace Go.Proofs.YtfheajfcepcepabDoor
open Go.ChangeShapes Go.WideShapes Go.RowKit Go.Deep

theorem cells2 {H : Type} {enc : TypeId × Value → H} {P : Program} {W : World} {base : Nat} {spare : Nat → Bool} {held : Bool} {T : TypeId} {f0 f1 : Field} {f : Nat} {cs : List Value} {x : DataW H × List MemPlace} (hs : P.underlying T = some (.struct #[f0, f1])) (hone : oneCellFields P #[f0, f1] = true)
    (h : DataW.trod enc P W base spare held f T cs = some x) (hl : cs.length = 2) :
    ∃ c0 c1 y0 y1 n, cs = [c0, c1] ∧ DataW.trod enc P W base spare held n f0.type [c0] = some y0 ∧ DataW.trod enc P W base spare held n f1.type [c1] = some y1 := by
  obtain ⟨ys, n', hn', hy, hlen, hyl, hf⟩ := DataW.trod_struct hs h
  match cs, hl with
  | [c0, c1], _ =>
    have g0 := hf 0 f0 rfl
    have g1 := hf 1 f1 rfl
    obtain ⟨o0, k0⟩ := hone_of hone 0 f0 rfl
    obtain ⟨o1, k1⟩ := hone_of hone 1 f1 rfl
    rw [o0, k0] at g0
    rw [o1, k1] at g1
    match ys, hyl with
    | [y0, y1], _ => exact ⟨c0, c1, y0, y1, n', rfl, g0, g1⟩
theorem addr_noneF (b o j : Nat) : (⟨b, o, none⟩ : Addr).add j = ⟨b, o + j, none⟩ := by unfold Addr.add; split <;> simp_all
theorem markTextF_any (q : Int) (k : Nat) (w : World) (hq : q = (k : Int)) (hk0 : 0 < k) (hk : k ≤ 1073741824) :
    Calls Tryd.prog 46 #[.int .i64 q] w fun e w' => e = .returned (.string (str (mT k))) ∧ Below w.heap.size w w' := by
  subst hq
  exact markText_any k w hk0 hk
/-- The marks from k on, two for each field. -/
def markF (k j : Nat) : Fld := ⟨mT (k + 2 * j), mT (k + 2 * j + 1)⟩
def marksF (k n : Nat) : List Fld := (List.range n).map (markF k)
theorem marksF_len (k n : Nat) : (marksF k n).length = n := by simp [marksF]
theorem marksF_at (k n j : Nat) (h : j < (marksF k n).length) : (marksF k n)[j] = markF k j := by simp [marksF]
def MarkedF (B k : Nat) (a : Option Addr) (n c : Nat) (w : World) (e : Ending) (w' : World) : Prop := e = .returned (.int .i64 ((k + 2 * n : Nat) : Int)) ∧ OwnF B (.slice a n c) (marksF k n) w' ∧ Only (Value.slice a n c).ownBlock w w'
theorem markedF_mk {B k : Nat} {a : Option Addr} {n c : Nat} {w w' : World} {q : Int} (hq : q = ((k + 2 * n : Nat) : Int)) (ho : OwnF B (.slice a n c) (marksF k n) w') (hb : Only (Value.slice a n c).ownBlock w w') : MarkedF B k a n c w (.returned (.int .i64 q)) w' := ⟨by rw [hq], ho, hb⟩
theorem set2_rowS {L : List Value} {k : Nat} {xs : List Fld} (x : Fld) (s0 s1 : ByteArray) (e0 : str x.name = s0) (e1 : str x.val = s1) (hk : k * 2 + 1 < L.length) (hx : ∀ (hj : k < xs.length), xs[k] = x)
    (h : ∀ j, j < k → (hj : j < xs.length) → ∀ d, d < 2 → L[j * 2 + d]? = (fldC xs[j])[d]?) :
    ∀ j, j < k + 1 → (hj : j < xs.length) → ∀ d, d < 2 → ((L.set (k * 2) (.string s0)).set (k * 2 + 1) (.string s1))[j * 2 + d]? = (fldC xs[j])[d]? := by
  subst e0 e1
  exact set2_row x hk hx h
set_option maxRecDepth 100000 in
set_option maxHeartbeats 1000000 in
theorem markFieldS_any (B : Nat) (a : Option Addr) (n c : Nat) (xs : List Fld) (k : Nat) (w : World) (ho : OwnF B (.slice a n c) xs w) (hn : xs.length = n) (hk0 : 0 < k) (hk : k + 2 * n ≤ 1073741824) :
    Calls Tryd.prog 23 #[.slice a n c, .int .i64 k] w (MarkedF B k a n c w) := by
  unfold OwnF OwnR at ho
  rw [hn] at ho
  rcases ho.2 with ⟨hv, h0⟩ | ⟨g, cap, cur, hv, hBg, _⟩
  · subst h0
    have HO : Hid (OwnF B (.slice a 0 c) (marksF k 0) w) := by show OwnF _ _ _ _; rw [hv]; exact OwnR.nil _ _ _ B w
    clear hv ho
    go_enter Tryd.func23, Tryd.ntmps23
    go_wp2_with fail
    go_loop [1, 5] (fun q i => q = .int .i64 k ∧ i = .int .i64 0) (fun _ _ => 0)
    case atStart => exact ⟨rfl, rfl⟩
    case round =>
      obtain ⟨rfl, rfl⟩ := hrel
      go_wp2
      go_ret
      exact markedF_mk (by omega) HO.out (Only.refl _ _)
  · injection hv with h1 h2 h3
    subst h1 h3
    have HOB : Hid ((Value.slice (some ⟨g, 0, none⟩) n c).ownBlock = some g) := rfl
    go_enter Tryd.func23, Tryd.ntmps23
    go_wp2_with fail
    go_loopw [1, 5] (fun q i wr => ∃ (j : Nat) (L : List Value) (m : Nat), j ≤ n ∧ m = k + 2 * j ∧ i = .int .i64 j ∧ q = .int .i64 (m : Int) ∧ Only (some g) w wr ∧ wr.ownsRow B 37 2 (.slice (some ⟨g, 0, none⟩) n c) n L ∧ g < wr.heap.size ∧ ∀ u, u < j → (hu : u < (marksF k n).length) → ∀ d, d < 2 → L[u * 2 + d]? = (fldC (marksF k n)[u])[d]?) (fun _ i _ => n - (intOf i).toNat)
    case atStart => exact ⟨0, _, k, Nat.zero_le _, rfl, rfl, rfl, Only.refl _ _, ho, (ho.lt g rfl).2, fun j h => by omega⟩
    case round =>
      obtain ⟨j, L, m, hj, hmj, rfl, rfl, hb, hO, hg, hL⟩ := hrel
      have HL := Lib.hid hL
      clear hL
      by_cases hlt : j < n
      · have hlL : L.length = n * 2 := hO.1
        have h3 : j * 2 + 1 < L.length := by rw [hlL]; omega
        have hm30 : m + 2 ≤ 1073741824 := by omega
        have hm0 : 0 < m := by omega
        have HMJ := Lib.hid hmj
        have HM : Hid (markF k j = ⟨mT m, mT (m + 1)⟩) := by show _ = _; rw [hmj]; rfl
        generalize hM0 : str (mT m) = M0 at *
        generalize hM1 : str (mT (m + 1)) = M1 at *
        have H0 := Lib.hid hM0
        have H1 := Lib.hid hM1
        have HNX := Lib.hid (set2_rowS (xs := marksF k n) (markF k j) M0 M1 (by rw [HM.out]; exact hM0) (by rw [HM.out]; exact hM1) h3 (fun hq => marksF_at k n j hq) HL.out)
        have HO := Lib.hid hO
        have HB := Lib.hid hb
        have HG := Lib.hid hg
        clear hlL hM0 hM1 hO hb hg h3 hmj
        go_wp2_with fail
        refine (markTextF_any _ m _ rfl hm0 (by omega)).mono ?_
        rintro e w1 ⟨rfl, hb1⟩
        rw [H0.out]
        have HO1 := Lib.hid (row_keep HO.out hb1)
        have HG1 : Hid (g < w1.heap.size) := Nat.lt_of_lt_of_le HG.out hb1.size
        obtain ⟨v0, hv0⟩ := row_cell HO1.out (j * 2) (by have := HO1.out.1; omega)
        have f0 : w1.frozen? ⟨g, j * 2, none⟩ = false := HO1.out.frozenAt _
        have HO1s := Lib.hid (HO1.out.stored (j * 2) (.string M0)).1
        have HB1s : Hid (Only (some g) w (w1.setCell ⟨g, j * 2, none⟩ (.string M0))) := (HB.out.ext hb1).setCell _
        have HG1s : Hid (g < (w1.setCell ⟨g, j * 2, none⟩ (.string M0)).heap.size) := by show _ < _; simpa using HG1.out
        clear hb1
        go_wp2_with fail
        refine (markTextF_any _ (m + 1) _ (by omega) (by omega) (by omega)).mono ?_
        rintro e w2 ⟨rfl, hb2⟩
        rw [H1.out]
        have HO2 := Lib.hid (row_keep HO1s.out hb2)
        have HG2 : Hid (g < w2.heap.size) := Nat.lt_of_lt_of_le HG1s.out hb2.size
        obtain ⟨v1, hv1⟩ := row_cell HO2.out (j * 2 + 1) (by have := HO2.out.1; omega)
        have f1 : w2.frozen? ⟨g, j * 2 + 1, none⟩ = false := HO2.out.frozenAt _
        have HST := Lib.hid (HO2.out.stored (j * 2 + 1) (.string M1)).1
        have HB2s : Hid (Only (some g) w (w2.setCell ⟨g, j * 2 + 1, none⟩ (.string M1))) := (HB1s.out.ext hb2).setCell _
        clear hv0 f0 hb2
        go_wp2
        go_roundw
        case rel => exact ⟨j + 1, _, m + 2, by omega, by have := HMJ.out; omega, by go_num, by go_num, HB2s.out, HST.out, by simpa using HG2.out, HNX.out⟩
        case measure => simp [intOf]; omega
      · have hjn : j = n := by omega
        subst hjn
        have HO : Hid (OwnF B (.slice (some ⟨g, 0, none⟩) j c) (marksF k j) wr) := by
          show OwnF _ _ _ _
          unfold OwnF OwnR
          rw [← flat_ext fldC 2 (by omega) fldC_len (marksF k j) L (by rw [hO.1, marksF_len]) (fun u hu => HL.out u (by rw [marksF_len] at hu; exact hu) hu), marksF_len]
          exact hO
        clear hO
        go_wp2
        go_ret
        exact markedF_mk (by omega) HO.out hb
set_option maxRecDepth 100000 in
set_option maxHeartbeats 1000000 in
theorem heldFieldS_any (a : Option Addr) (n c : Nat) (k : Nat) (w : World) (hr : RdF w a n (marksF k n)) (hk0 : 0 < k) (hk : k + 2 * n ≤ 1073741824) :
    Calls Tryd.prog 24 #[.slice a n c, .int .i64 k] w fun e w' => e = .returned (.int .i64 ((k + 2 * n : Nat) : Int)) ∧ Below w.heap.size w w' := by
  have HR := Lib.hid hr.2
  clear hr
  go_enter Tryd.func24, Tryd.ntmps24
  go_wp2_with fail
  go_loopw [1, 5] (fun q i wr => ∃ (j m : Nat), j ≤ n ∧ m = k + 2 * j ∧ i = .int .i64 j ∧ q = .int .i64 (m : Int) ∧ Below w.heap.size w wr) (fun _ i _ => n - (intOf i).toNat)
  case atStart => exact ⟨0, k, Nat.zero_le _, rfl, rfl, rfl, Below.refl _ _⟩
  case round =>
    obtain ⟨j, m, hj, hmj, rfl, rfl, hb⟩ := hrel
    by_cases hlt : j < n
    · obtain ⟨b, off, rfl, hbl, hcell⟩ := HR.out.resolve_left (by omega)
      have hjx : j < (marksF k n).length := by rw [marksF_len]; exact hlt
      obtain ⟨q0, q1⟩ := RdR.fld hcell hjx
      have HM : Hid (markF k j = ⟨mT m, mT (m + 1)⟩) := by show _ = _; rw [hmj]; rfl
      rw [marksF_at, HM.out] at q0 q1
      have hm30 : m + 2 ≤ 1073741824 := by omega
      have hm0 : 0 < m := by omega
      have HMJ := Lib.hid hmj
      have HK : Hid (∀ w', Below wr.heap.size wr w' → w'.cell? ⟨b, off + j * 2, none⟩ = some (.string (str (mT m))) ∧ w'.cell? ⟨b, off + j * 2 + 1, none⟩ = some (.string (str (mT (m + 1)))) ∧ Below wr.heap.size wr w') := by
        intro w' h
        have h2 := nx hb h
        exact ⟨(below_at h2 hbl).trans q0, (below_at h2 hbl).trans q1, h⟩
      have E0 : Hid (str (mT m) = markT m) := rfl
      generalize hM0 : str (mT m) = M0 at *
      generalize hM1 : str (mT (m + 1)) = M1 at *
      have H0 := Lib.hid hM0
      have H1 := Lib.hid hM1
      have e0 : (M0.toList != M0.toList) = false := by simp
      have e1 : (M1.toList != M1.toList) = false := by simp
      clear hcell q0 q1 hM0 hM1 E0 hmj
      go_wp2
      go_region_held3 (fun w' => w'.cell? ⟨b, off + j * 2, none⟩ = some (.string M0) ∧ w'.cell? ⟨b, off + j * 2 + 1, none⟩ = some (.string M1) ∧ Below wr.heap.size wr w')
        (first
          | exact HK.out _ (Below.refl _ _).drew
          | exact HK.out _ hb7)
        (first
          | (go_at_call 46
             refine (markTextF_any _ m _ rfl hm0 (by omega)).mono ?_
             rintro e w6 ⟨rfl, hb6⟩
             rw [H0.out]
             have hb7 : Below wr.heap.size wr w6 := nx (by go_split_ands; assumption) hb6))
      go_split_ands
      go_wp2
      go_region_held3 (fun w' => w'.cell? ⟨b, off + j * 2, none⟩ = some (.string M0) ∧ w'.cell? ⟨b, off + j * 2 + 1, none⟩ = some (.string M1) ∧ Below wr.heap.size wr w')
        (first
          | exact HK.out _ hb7.drew
          | exact HK.out _ hb9)
        (first
          | (go_at_call 46
             refine (markTextF_any _ (m + 1) _ (by omega) (by omega) (by omega)).mono ?_
             rintro e w8 ⟨rfl, hb8⟩
             rw [H1.out]
             have hb9 : Below wr.heap.size wr w8 := nx (by go_split_ands; assumption) hb8))
      go_wp2
      go_roundw
      case rel => exact ⟨j + 1, m + 2, by omega, by have := HMJ.out; omega, by go_num, by go_num, nx hb hb9⟩
      case measure => simp [intOf]; omega
    · have hjn : j = n := by omega
      subst hjn
      go_wp2
      go_ret
      exact ⟨by first | rfl | (rw [hmj]; rfl) | (simp [hmj]; done), hb⟩
end Go.Proofs.YtfheajfcepcepabDoor
end

section
namespace Go.Proofs.YtfheajfcepcepabDoor
open Go.ChangeShapes Go.WideShapes Go.ChangeAt Go.RowKit
open Go.ChangeMaps (open_string shut_string)

set_option maxRecDepth 100000 in
set_option maxHeartbeats 1000000 in
theorem eqKind_any (m1 s1 : ByteArray) (a1 a2 : Option Addr) (n1 c1 n2 c2 : Nat) (xs : List Fld) (w : World) (h1 : RdF w a1 n1 xs) (h2 : RdF w a2 n2 xs) (hn1 : n1 ≤ maxLen) (hn2 : n2 ≤ maxLen) :
    Calls Tryd.prog 6 #[.agg #[.string m1, .string s1, .slice a1 n1 c1], .agg #[.string m1, .string s1, .slice a2 n2 c2]] w fun e w' => e = .returned (.bool true) ∧ Below w.heap.size w w' := by
  have hb0 : Below w.heap.size w ((w.alloc (.cells #[.string m1, .string s1, .slice a1 n1 c1] 24)).alloc (.cells #[.string m1, .string s1, .slice a2 n2 c2] 24)) := ((Below.refl _ _).alloc (Nat.le_refl _) _).alloc (by simp) _
  have HC := Lib.hid (fun u (k1 : RdF u a1 n1 xs) (k2 : RdF u a2 n2 xs) => eqFieldS_any a1 a2 n1 c1 n2 c2 xs xs u k1 k2 hn1 hn2)
  rw [decide_eq_true (rfl : xs = xs)] at HC
  have H1 := Lib.hid (h1.below hb0)
  have H2 := Lib.hid (h2.below hb0)
  have d0 : (m1.toList != m1.toList) = false := by simp
  have d1 : (s1.toList != s1.toList) = false := by simp
  clear h1 h2 hn1 hn2
  go_enter Tryd.func6, Tryd.ntmps6
  go_wp2_with fail
  refine (HC.out _ H1.out H2.out).mono ?_
  rintro e w1 ⟨rfl, hb1⟩
  go_wp2
  go_ret
  exact ⟨rfl, nx hb0 hb1⟩
end Go.Proofs.YtfheajfcepcepabDoor
end
