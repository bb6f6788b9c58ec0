/-
  Several texts in one. No statement is proved here.
-/
import Derived.Test.YtfheajfcepcepaaDoorGrow
import Derived.Test.YtfheajfcepcepaaDoorKindQ
import Derived.Test.YtfheajfcepcepaaDoorDrawF2
import Derived.Maps.AppendAt
import Derived.Test.YtfheajfcepcepaaDoorGetF
import Derived.Test.YtfheajfcepcepaaDoorKindI
import Derived.Test.YtfheajfcepcepaaDoorParseS
import Derived.Test.YtfheajfcepcepaaDoorFldS
import Derived.Test.YtfheajfcepcepaaDoorAddrS
import Derived.Test.YtfheajfcepcepaaDoorSplit2
import Derived.Test.YtfheajfcepcepaaDoorFldV
import Derived.Test.YtfheajfcepcepaaDoorWords
import Derived.Deep.QuietTactic
import Derived.BigQuiet
import Derived.Test.YtfheajfcepcepaaDoorLaw0
import Derived.Lib.SmallJoins
import Derived.Test.YtfheajfcepcepaaDoorSplit
import Derived.Test.YtfheajfcepcepaaDoorDraw1
import Derived.Deep.RegionWith
import Derived.Test.YtfheajfcepcepaaDoorOnly
import Derived.Deep.RegionHeld3
import Derived.Deep.Slices
import Derived.Deep.Fields
import Derived.ChangeSame
import Derived.Test.YtfheajfcepcepaaDoorKindM
import Derived.Test.YtfheajfcepcepaaDoorWordsM
import Derived.Lib.ItoaNum
import Derived.Test.YtfheajfcepcepaaDoorRowL
import Derived.Test.YtfheajfcepcepaaDoorAtoms
import Derived.Test.YtfheajfcepcepaaDoorBend
import Derived.Deep.Cut
import Derived.Test.YtfheajfcepcepaaDoorQuietB
section
namespace Go.Proofs.YtfheajfcepcepaaDoor
open Go.RowKit

structure OneT (W : World) where
  val : World
  same : val = W
instance (W : World) : Nonempty (OneT W) := ⟨⟨W, rfl⟩⟩
section
variable {P : Program} {ops : Array Oper} {Q : Exit → Act → World → Prop} {md : Region.Mode}

/-- In state a, in every world, operation o leaves v and the world as it is. -/
def PYields (P : Program) (ops : Array Oper) (o : Oper) (v : Value) (a : Act) : Prop :=
  (Region.wanted o (yielded ops a.tmps) = true ∧ ∀ w', o.quietAt P a (fun u => ∃ y : OneT w', u = y.val) w' v) ∨ (Region.wanted o (yielded ops a.tmps) = false ∧ v = undef)
theorem PYields.of_same {o : Oper} {v : Value} {a a' : Act} (hy : PYields P ops o v a) (he : execOp a'.eval o = execOp a.eval o)
    (hw : Region.wanted o (yielded ops a'.tmps) = Region.wanted o (yielded ops a.tmps)) : PYields P ops o v a' := by
  unfold PYields Oper.quietAt at *
  rw [he, hw]
  exact hy
theorem PYields.wpOp {i : Nat} {o : Oper} {v : Value} {a : Act} {w : World} (hi : ops[i]? = some o) (hy : PYields P ops o v a)
    {K : Act → World → Prop} (h : K (a.put o.dst v) w) : wpOp P ops Q i K a w := by
  unfold Go.wpOp
  simp only [hi]
  rcases hy with ⟨hw, hv⟩ | ⟨hw, rfl⟩
  · rw [if_pos hw]
    refine .inl ?_
    have h1 := hv w
    unfold Oper.quietAt at h1
    unfold Oper.wp
    generalize (execOp a.eval o).run P w = r at *
    cases r with
    | ok n w' =>
      cases n <;> simp only [Oper.quietUpon] at h1 <;> simp only [Oper.upon]
      case value u =>
        obtain ⟨e1, e2⟩ := h1
        rw [e1, e2]
        exact h
      case skip =>
        obtain ⟨e1, e2⟩ := h1
        rw [e1, ← e2]
        exact h
      case enter f args =>
        obtain ⟨e1, hc⟩ := h1
        rw [e1]
        exact hc.mono fun e w'' ⟨he, y, hy⟩ => by subst he; rw [hy, y.same]; exact h
    | halt x w' => simp only [Oper.quietUpon] at h1
  · rw [if_neg (by rw [hw]; exact Bool.false_ne_true)]; exact h
theorem wpOp_putP {j : Nat} {oi oj : Oper} {v : Value} (hj : ops[j]? = some oj) (hap : oi.apart ops oj = true)
    (hsi : ∀ cs b, oi.op ≠ .select cs b) (hsj : ∀ cs b, oj.op ≠ .select cs b)
    (hQ : ∀ c a w, Q (.panic c) (a.put oi.dst v) w → Q (.panic c) a w) {K : Act → World → Prop} {a : Act} {w : World}
    (hy : PYields P ops oi v a) (h : wpOp P ops Q j K (a.put oi.dst v) w) :
    wpOp P ops Q j (fun a' w' => PYields P ops oi v a' ∧ K (a'.put oi.dst v) w') a w := by
  obtain ⟨h1, h2, h3⟩ := Oper.apart_spec hap
  have keep : ∀ (a : Act), PYields P ops oi v a → ∀ x, PYields P ops oi v (a.put oj.dst x) := fun a hy x =>
    hy.of_same (execOp_put oi hsi a oj.dst x h3) (wanted_put oi a oj.dst x h3)
  have keepD : ∀ d, PYields P ops oi v { a with defers := d :: a.defers } := fun d => hy.of_same rfl rfl
  unfold Go.wpOp at *
  simp only [hj] at *
  rw [wanted_put oj a oi.dst v h1] at h
  split
  · rename_i hw
    simp only [hw, if_true] at h
    rcases h with h | ⟨hasks, hlets⟩
    case inr => exact .inr ⟨by unfold Oper.asks at *; rw [execOp_put oj hsj a oi.dst v h1] at hasks; exact hasks, hlets⟩
    refine .inl ?_
    unfold Oper.wp at *
    rw [execOp_put oj hsj a oi.dst v h1] at h
    generalize (execOp a.eval oj).run P w = r at *
    cases r with
    | ok n w' =>
      cases n <;> simp only [Oper.upon] at h ⊢
      case value x => exact ⟨keep a hy x, by rw [← Act.put_comm a v x h2]; exact h⟩
      case skip => exact ⟨keep a hy _, by rw [← Act.put_comm a v undef h2]; exact h⟩
      case defer d =>
        refine ⟨keep _ (keepD d) _, ?_⟩
        rw [← Act.put_comm _ v undef h2, ← Act.put_defers]
        exact h
      case enter f args =>
        refine Calls.mono h fun e w'' he => ?_
        cases e with
        | returned x => exact ⟨keep a hy x, by rw [← Act.put_comm a v x h2]; exact he⟩
        | panicked c => exact hQ _ _ _ he
        | outgrown => exact he
      case row row args => exact Rows.mono h fun x w'' he => ⟨keep a hy x, by rw [← Act.put_comm a v x h2]; exact he⟩
    | halt x w' =>
      cases x <;> simp only [Oper.upon] at h ⊢
      case panic x => exact hQ _ _ _ h
  · rename_i hw
    simp only [hw] at h
    exact ⟨keep a hy _, by rw [← Act.put_comm a v undef h2]; exact h⟩
theorem wpAny_firstP {i : Nat} {oi : Oper} {v : Value} (hi : ops[i]? = some oi) (hsel : ∀ (j : Nat) (o : Oper) cs b, ops[j]? = some o → o.op ≠ .select cs b)
    (hQ : ∀ c a w, Q (.panic c) (a.put oi.dst v) w → Q (.panic c) a w) :
    ∀ (fuel : Nat) (listed : Array Bool) (a : Act) (w : World),
      (∀ j oj, ops[j]? = some oj → j ≠ i → listed.getD j true = false → (∀ e ∈ oj.after, Region.binds md e = true → e.on ≠ i) → oi.apart ops oj = true) →
      i ∈ Region.ready md ops listed → PYields P ops oi v a →
      wpAny P md ops Q fuel (listed.setIfInBounds i true) (a.put oi.dst v) w → wpAny P md ops Q (fuel + 1) listed a w := by
  intro fuel
  induction fuel with
  | zero =>
    intro listed a w _ hr hy H
    refine ⟨fun h => (by rw [h] at hr; cases hr), fun j hj => ?_⟩
    by_cases hji : j = i
    · subst hji; exact hy.wpOp hi H
    · have := ready_mono hj hji
      rw [H.1] at this
      cases this
  | succ fuel ih =>
    intro listed a w hfree hr hy H
    refine ⟨fun h => (by rw [h] at hr; cases hr), fun j hj => ?_⟩
    by_cases hji : j = i
    · subst hji; exact hy.wpOp hi H
    · have h1 := H.2 j (ready_mono hj hji)
      obtain ⟨hjun, oj, hoj, hall⟩ := mem_ready.1 hj
      have hnot : ∀ e ∈ oj.after, Region.binds md e = true → e.on ≠ i := fun e he hb heq => by
        have h1 := hall e he hb
        have h0 := (mem_ready.1 hr).1
        rw [heq] at h1
        rcases Nat.lt_or_ge i listed.size with h' | h'
        · simp [h'] at h0 h1; rw [h0] at h1; cases h1
        · simp [Array.getElem?_eq_none h'] at h1
      have h2 := wpOp_putP hoj (hfree j oj hoj hji hjun hnot) (fun cs b => hsel i oi cs b hi) (fun cs b => hsel j oj cs b hoj) hQ hy h1
      have hfree' : ∀ k ok, ops[k]? = some ok → k ≠ i → (listed.setIfInBounds j true).getD k true = false →
          (∀ e ∈ ok.after, Region.binds md e = true → e.on ≠ i) → oi.apart ops ok = true := fun k ok hk hki hun hno => by
        refine hfree k ok hk hki ?_ hno
        by_cases hjk : j = k
        · subst hjk; exact hjun
        · rw [getD_set_ne true hjk] at hun; exact hun
      refine wpOp_mono (fun a' w'' h3 => ih (listed.setIfInBounds j true) a' w'' hfree' (ready_mono hr (Ne.symm hji)) h3.1 ?_) h2
      rw [Array.setIfInBounds_comm _ _ hji]
      exact h3.2
theorem wpAny_maskP {A : Act} {n : Nat} (hsel : Region.noSelect ops = true) (hQ : ∀ c a o v w, Q (.panic c) (a.put o v) w → Q (.panic c) a w) {w : World} {fuel : Nat} : ∀ (m : List Bool) (l : List Oper) (k : Nat) (listed : Array Bool) (a : Act),
    (∀ j, l[j]? = ops[k + j]?) → a.tmps.size = n → maskOk md ops n m l k listed = true →
    (∀ W : World, wpQuiet P ops (fun w' => ∃ y : OneT W, w' = y.val) (fun a' => a' = A) (pickL m l) a) →
    wpAny P md ops Q fuel (maskListed m k listed) A w → wpAny P md ops Q (maskCount m + fuel) listed a w
  | [], l, k, listed, a, _, _, _, h, H => by
    have h1 : a = A := by have := h w; rw [pickL] at this; exact this; all_goals simp
    rw [h1]
    simpa [maskCount, maskListed] using H
  | false :: m, [], k, listed, a, _, _, hB, _, _ => by simp [maskOk] at hB
  | true :: m, [], k, listed, a, _, _, hB, _, _ => by simp [maskOk] at hB
  | false :: m, o :: l, k, listed, a, hl, hn, hB, h, H => by
    simp only [maskCount, maskListed, maskOk, pickL] at *
    exact wpAny_maskP hsel hQ m l (k + 1) listed a (fun j => by have := hl (j + 1); simpa [Nat.add_assoc, Nat.add_comm 1 j] using this) hn hB h H
  | true :: m, o :: l, k, listed, a, hl, hn, hB, h, H => by
    have h0 : ops[k]? = some o := by simpa using (hl 0).symm
    simp only [maskCount, maskListed, maskOk, pickL, Bool.and_eq_true] at *
    obtain ⟨⟨⟨hr, hf⟩, hd⟩, hB'⟩ := hB
    cases ho : o.dst with
    | none => rw [ho] at hd; cases hd
    | some d =>
      rw [ho] at hd
      simp only [Bool.and_eq_true, decide_eq_true_eq, List.all_eq_true, bne_iff_ne] at hd
      have hslot : ∀ v, (a.put (some d) v).tmps[d]? = some v := fun v => by simp [Act.put, hn, hd.1]
      by_cases hw : Region.wanted o (yielded ops a.tmps) = true
      · have h' : ∀ W : World, (∀ w', (∃ y : OneT W, w' = y.val) → o.quietAt P a (fun w' => ∃ y : OneT W, w' = y.val) w' ((A.tmps[d]?).getD undef)) ∧
            wpQuiet P ops (fun w' => ∃ y : OneT W, w' = y.val) (fun a' => a' = A) (pickL m l) (a.put (some d) ((A.tmps[d]?).getD undef)) := fun W => by
          have h1 := h W
          unfold wpQuiet at h1
          rw [if_pos hw] at h1
          obtain ⟨v, h2, h3⟩ := h1
          rw [ho] at h3
          have h4 := quiet_slot (d := d) (pickL m l) _ hd.2 h3
          rw [hslot] at h4
          rw [h4]
          exact ⟨h2, h3⟩
        have hy : PYields P ops o ((A.tmps[d]?).getD undef) a := .inl ⟨hw, fun w' => (h' w').1 w' ⟨⟨w', rfl⟩, rfl⟩⟩
        rw [show maskCount m + 1 + fuel = (maskCount m + fuel) + 1 by omega]
        refine wpAny_firstP h0 (Region.noSelect_spec hsel) (fun c a w => hQ c a _ _ w) _ listed a w (Region.free_spec h0 hf) (by simpa using hr) hy ?_
        rw [ho]
        exact wpAny_maskP hsel hQ m l (k + 1) _ _ (fun j => by have := hl (j + 1); simpa [Nat.add_assoc, Nat.add_comm 1 j] using this) (by rw [put_size]; exact hn) hB' (fun x => (h' x).2) H
      · have hwf : Region.wanted o (yielded ops a.tmps) = false := by simpa using hw
        rw [show maskCount m + 1 + fuel = (maskCount m + fuel) + 1 by omega]
        refine wpAny_firstP h0 (Region.noSelect_spec hsel) (fun c a w => hQ c a _ _ w) _ listed a w (Region.free_spec h0 hf) (by simpa using hr) (.inr ⟨hwf, rfl⟩) ?_
        refine wpAny_maskP hsel hQ m l (k + 1) _ _ (fun j => by have := hl (j + 1); simpa [Nat.add_assoc, Nat.add_comm 1 j] using this) (by rw [put_size]; exact hn) hB' (fun x => ?_) H
        have h1 := h x
        unfold wpQuiet at h1
        rw [if_neg hw] at h1
        exact h1
/-- What asks nothing of the world is taken first. -/
theorem wpAny_take {F fuel n : Nat} {l : List Oper} {listed : Array Bool} {a : Act} {w : World} (m : List Bool) (hF : maskCount m + fuel = F) (hsel : Region.noSelect l.toArray = true)
    (hn : a.tmps.size = n) (hB : maskOk md l.toArray n m l 0 listed = true)
    (h : ∃ A, (∀ W : World, wpQuiet P l.toArray (fun w' => ∃ y : OneT W, w' = y.val) (fun a' => a' = A) (pickL m l) a) ∧ wpAny P md l.toArray (NoPanic Q) fuel (maskListed m 0 listed) A w) : wpAny P md l.toArray (NoPanic Q) F listed a w := by
  obtain ⟨A, h1, h2⟩ := h
  rw [← hF]
  exact wpAny_maskP hsel (fun _ _ _ _ _ h => h) m l 0 listed a (fun j => by simp) hn hB h1 h2

/-! The tail. -/
/-- What is listed has all it waits for listed. -/
def Fit (md : Region.Mode) (ops : Array Oper) (L : Array Bool) : Prop := ∀ k o, ops[k]? = some o → L.getD k false = true → ∀ e ∈ o.after, Region.binds md e = true → L.getD e.on false = true
def fitB (md : Region.Mode) (ops : Array Oper) (L : Array Bool) : Bool := (List.range ops.size).all fun k => !L.getD k false || (match ops[k]? with | some o => o.after.all fun e => !Region.binds md e || L.getD e.on false | none => true)
theorem fit_of {L : Array Bool} (h : fitB md ops L = true) : Fit md ops L := by
  intro k o hk hl e he hb
  unfold fitB at h
  have := List.all_eq_true.1 h k (List.mem_range.2 (Array.getElem?_eq_some_iff.1 hk).1)
  rw [hk, hl] at this
  simp only [Bool.not_true, Bool.false_or] at this
  have := Array.all_eq_true_iff_forall_mem.1 this e he
  rw [hb] at this
  simpa using this
theorem getD_set_self' {L : Array Bool} {i : Nat} {d : Bool} (h : i < L.size) : (L.setIfInBounds i true).getD i d = true := by
  simp [Array.getD_eq_getD_getElem?, h]
theorem getD_set_up {L : Array Bool} {i k : Nat} (h : L.getD k false = true) : (L.setIfInBounds i true).getD k false = true := by
  by_cases e : i = k
  · subst e
    have : i < L.size := by
      rcases Nat.lt_or_ge i L.size with h' | h'
      · exact h'
      · rw [Array.getD_eq_getD_getElem?, Array.getElem?_eq_none h'] at h; cases h
    exact getD_set_self' this
  · rw [getD_set_ne false e]; exact h
theorem Fit.set {L : Array Bool} {j : Nat} (h : Fit md ops L) (hj : j ∈ Region.ready md ops L) : Fit md ops (L.setIfInBounds j true) := by
  obtain ⟨_, oj, hoj, hall⟩ := mem_ready.1 hj
  intro k o hk hl e he hb
  by_cases e1 : j = k
  · subst e1
    rw [hk] at hoj; injection hoj with hoj; subst hoj
    exact getD_set_up (hall e he hb)
  · rw [getD_set_ne false e1] at hl
    exact getD_set_up (h k o hk hl e he hb)
/-- Operation t waits for operation i, near or far. -/
def reachB (md : Region.Mode) (ops : Array Oper) : Nat → Nat → Nat → Bool
  | 0, _, _ => false
  | f + 1, t, i => match ops[t]? with
    | some o => o.after.any fun e => Region.binds md e && (e.on == i || reachB md ops f e.on i)
    | none => false
theorem reach_listed {L : Array Bool} (hf : Fit md ops L) : ∀ (f t i : Nat) (o : Oper), ops[t]? = some o → (∀ e ∈ o.after, Region.binds md e = true → L.getD e.on false = true) → reachB md ops f t i = true → L.getD i false = true
  | 0, _, _, _, _, _, h => by simp [reachB] at h
  | f + 1, t, i, o, ho, hall, h => by
    simp only [reachB, ho] at h
    rw [← Array.any_toList, List.any_eq_true] at h
    obtain ⟨e, he, h⟩ := h
    have he : e ∈ o.after := by simpa using he
    rw [Bool.and_eq_true, Bool.or_eq_true] at h
    obtain ⟨hb, h⟩ := h
    have hl := hall e he hb
    rcases h with h | h
    · rw [beq_iff_eq] at h; rw [← h]; exact hl
    · cases ho2 : ops[e.on]? with
      | none => cases f <;> simp [reachB, ho2] at h
      | some o2 => exact reach_listed hf f e.on i o2 ho2 (fun e2 he2 hb2 => hf e.on o2 ho2 hl e2 he2 hb2) h
/-- Whatever order is picked, till all but the tail T is listed. -/
def wpAnyZ (P : Program) (md : Region.Mode) (ops : Array Oper) (Q : Exit → Act → World → Prop) (T : List Nat) (tf : Nat) : Nat → Array Bool → Act → World → Prop
  | 0, listed, a, w => (∀ k, k < ops.size → k ∉ T → listed.getD k false = true) ∧ ∀ w', Grow w w' → wpAny P md ops Q tf listed a w'
  | fuel + 1, listed, a, w => ∀ w', Grow w w' → (Region.ready md ops listed = [] → Q .normal a w') ∧
    ∀ i ∈ Region.ready md ops listed, wpOp P ops Q i (fun a' w'' => Grow w' w'' ∧ wpAnyZ P md ops Q T tf fuel (listed.setIfInBounds i true) a' w'') a w'
theorem wpAny_of_Z {T : List Nat} {tf : Nat} : ∀ (fuel : Nat) (listed : Array Bool) (a : Act) (w : World), wpAnyZ P md ops Q T tf fuel listed a w → wpAny P md ops Q (fuel + tf) listed a w
  | 0, _, _, w, h => by rw [Nat.zero_add]; exact h.2 w (Grow.refl w)
  | fuel + 1, _, _, w, h => by
    rw [show fuel + 1 + tf = (fuel + tf) + 1 by omega]
    exact ⟨(h w (Grow.refl w)).1, fun i hi => wpOp_mono (fun a' w' h' => wpAny_of_Z fuel _ a' w' h'.2) ((h w (Grow.refl w)).2 i hi)⟩
theorem wpAnyZ_grow {T : List Nat} {tf fuel : Nat} {listed : Array Bool} {a : Act} {w u : World} (g : Grow w u) (h : wpAnyZ P md ops Q T tf fuel listed a w) : wpAnyZ P md ops Q T tf fuel listed a u := by
  cases fuel with
  | zero => exact ⟨h.1, fun w' k => h.2 w' (g.trans k)⟩
  | succ fuel => exact fun w' k => h w' (g.trans k)
theorem wpAnyZ_first {T : List Nat} {tf i : Nat} {oi : Oper} {v : Value} (hi : ops[i]? = some oi) (hsel : ∀ (j : Nat) (o : Oper) cs b, ops[j]? = some o → o.op ≠ .select cs b)
    (hQ : ∀ c a w, Q (.panic c) (a.put oi.dst v) w → Q (.panic c) a w) (hT : ∀ t ∈ T, reachB md ops ops.size t i = true) :
    ∀ (fuel : Nat) (listed : Array Bool) (a : Act) (w : World), Fit md ops listed →
      (∀ j oj, ops[j]? = some oj → j ≠ i → listed.getD j true = false → (∀ e ∈ oj.after, Region.binds md e = true → e.on ≠ i) → oi.apart ops oj = true) →
      i ∈ Region.ready md ops listed → GYields P ops oi v a w →
      wpAnyZ P md ops Q T tf fuel (listed.setIfInBounds i true) (a.put oi.dst v) w → wpAnyZ P md ops Q T tf (fuel + 1) listed a w := by
  have hun : ∀ {L : Array Bool} {k : Nat}, L.getD k true = false → L.getD k false = true → False := fun {L k} h0 h1 => by
    rcases Nat.lt_or_ge k L.size with h' | h'
    · simp [h'] at h0 h1; rw [h0] at h1; cases h1
    · simp [Array.getElem?_eq_none h'] at h1
  intro fuel
  induction fuel with
  | zero =>
    intro listed a w hfit _ hr hy H w' g
    refine ⟨fun h => (by rw [h] at hr; cases hr), fun j hj => ?_⟩
    by_cases hji : j = i
    · subst hji; exact (hy.grow g).wpOp hi fun w'' k => ⟨k, wpAnyZ_grow (g.trans k) H⟩
    · exfalso
      obtain ⟨hjun, oj, hoj, hall⟩ := mem_ready.1 hj
      have hjT : j ∈ T := by
        refine Classical.byContradiction fun hn => ?_
        have := H.1 j (Array.getElem?_eq_some_iff.1 hoj).1 hn
        rw [getD_set_ne false (Ne.symm hji)] at this
        exact hun hjun this
      exact hun (mem_ready.1 hr).1 (reach_listed hfit _ j i oj hoj hall (hT j hjT))
  | succ fuel ih =>
    intro listed a w hfit hfree hr hy H w' g
    refine ⟨fun h => (by rw [h] at hr; cases hr), fun j hj => ?_⟩
    by_cases hji : j = i
    · subst hji; exact (hy.grow g).wpOp hi fun w'' k => ⟨k, wpAnyZ_grow (g.trans k) H⟩
    · have h1 := (H w' g).2 j (ready_mono hj hji)
      obtain ⟨hjun, oj, hoj, hall⟩ := mem_ready.1 hj
      have hnot : ∀ e ∈ oj.after, Region.binds md e = true → e.on ≠ i := fun e he hb heq => by
        have h1 := hall e he hb
        rw [heq] at h1
        exact hun (mem_ready.1 hr).1 h1
      have h2 := wpOp_putG hoj (hfree j oj hoj hji hjun hnot) (fun cs b => hsel i oi cs b hi) (fun cs b => hsel j oj cs b hoj) hQ (hy.grow g) h1
      have hfree' : ∀ k ok, ops[k]? = some ok → k ≠ i → (listed.setIfInBounds j true).getD k true = false →
          (∀ e ∈ ok.after, Region.binds md e = true → e.on ≠ i) → oi.apart ops ok = true := fun k ok hk hki hun hno => by
        refine hfree k ok hk hki ?_ hno
        by_cases hjk : j = k
        · subst hjk; exact hjun
        · rw [getD_set_ne true hjk] at hun; exact hun
      refine wpOp_mono (fun a' w'' h3 => ⟨h3.2.1, ih (listed.setIfInBounds j true) a' w'' (hfit.set hj) hfree' (ready_mono hr (Ne.symm hji)) (h3.1.grow h3.2.1) ?_⟩) h2
      rw [Array.setIfInBounds_comm _ _ hji]
      exact h3.2.2
/-- Each that the mask names is waited for by all of the tail. -/
def maskReach (md : Region.Mode) (ops : Array Oper) (T : List Nat) : List Bool → Nat → Bool
  | true :: m, k => T.all (fun t => reachB md ops ops.size t k) && maskReach md ops T m (k + 1)
  | false :: m, k => maskReach md ops T m (k + 1)
  | [], _ => true
theorem wpAnyZ_mask {T : List Nat} {tf : Nat} {A : Act} {n : Nat} (hsel : Region.noSelect ops = true) (hQ : ∀ c a o v w, Q (.panic c) (a.put o v) w → Q (.panic c) a w) {w : World} {fuel : Nat} : ∀ (m : List Bool) (l : List Oper) (k : Nat) (listed : Array Bool) (a : Act),
    (∀ j, l[j]? = ops[k + j]?) → a.tmps.size = n → Fit md ops listed → maskOk md ops n m l k listed = true → maskReach md ops T m k = true →
    (∀ x : BelowT w, wpQuiet P ops (fun w' => ∃ y : BelowT x.val, w' = y.val) (fun a' => a' = A) (pickL m l) a) →
    wpAnyZ P md ops Q T tf fuel (maskListed m k listed) A w → wpAnyZ P md ops Q T tf (maskCount m + fuel) listed a w
  | [], l, k, listed, a, _, _, _, _, _, h, H => by
    have h1 : a = A := by have := h ⟨w, Below.refl _ _⟩; rw [pickL] at this; exact this; all_goals simp
    rw [h1]
    simpa [maskCount, maskListed] using H
  | false :: m, [], k, listed, a, _, _, _, hB, _, _, _ => by simp [maskOk] at hB
  | true :: m, [], k, listed, a, _, _, _, hB, _, _, _ => by simp [maskOk] at hB
  | false :: m, o :: l, k, listed, a, hl, hn, hfit, hB, hR, h, H => by
    simp only [maskCount, maskListed, maskOk, maskReach, pickL] at *
    exact wpAnyZ_mask hsel hQ m l (k + 1) listed a (fun j => by have := hl (j + 1); simpa [Nat.add_assoc, Nat.add_comm 1 j] using this) hn hfit hB hR h H
  | true :: m, o :: l, k, listed, a, hl, hn, hfit, hB, hR, h, H => by
    have h0 : ops[k]? = some o := by simpa using (hl 0).symm
    simp only [maskCount, maskListed, maskOk, maskReach, pickL, Bool.and_eq_true] at *
    obtain ⟨⟨⟨hr, hf⟩, hd⟩, hB'⟩ := hB
    obtain ⟨hR0, hR'⟩ := hR
    have hT : ∀ t ∈ T, reachB md ops ops.size t k = true := fun t ht => List.all_eq_true.1 hR0 t ht
    have hrk : k ∈ Region.ready md ops listed := by simpa using hr
    cases ho : o.dst with
    | none => rw [ho] at hd; cases hd
    | some d =>
      rw [ho] at hd
      simp only [Bool.and_eq_true, decide_eq_true_eq, List.all_eq_true, bne_iff_ne] at hd
      have hslot : ∀ v, (a.put (some d) v).tmps[d]? = some v := fun v => by simp [Act.put, hn, hd.1]
      by_cases hw : Region.wanted o (yielded ops a.tmps) = true
      · have h' : ∀ x : BelowT w, (∀ w', (∃ y : BelowT x.val, w' = y.val) → o.quietAt P a (fun w' => ∃ y : BelowT x.val, w' = y.val) w' ((A.tmps[d]?).getD undef)) ∧
            wpQuiet P ops (fun w' => ∃ y : BelowT x.val, w' = y.val) (fun a' => a' = A) (pickL m l) (a.put (some d) ((A.tmps[d]?).getD undef)) := fun x => by
          have h1 := h x
          unfold wpQuiet at h1
          rw [if_pos hw] at h1
          obtain ⟨v, h2, h3⟩ := h1
          rw [ho] at h3
          have h4 := quiet_slot (d := d) (pickL m l) _ hd.2 h3
          rw [hslot] at h4
          rw [h4]
          exact ⟨h2, h3⟩
        have hy : GYields P ops o ((A.tmps[d]?).getD undef) a w := .inl ⟨hw, fun w' g => by
          have h1 := (h' ⟨w', g⟩).1 w' ⟨⟨w', Below.refl _ _⟩, rfl⟩
          unfold Oper.quietAt at h1
          unfold growAt
          generalize (execOp a.eval o).run P w' = r at *
          cases r with
          | ok nx w2 =>
            cases nx <;> simp only [Oper.quietUpon] at h1 <;> simp only [growUpon]
            case value u => exact h1
            case skip => exact h1
            case enter f args => exact ⟨h1.1, h1.2.mono fun e w3 ⟨he, y, hy⟩ => ⟨he, by rw [hy]; exact y.below⟩⟩
          | halt x w2 => simp only [Oper.quietUpon] at h1⟩
        rw [show maskCount m + 1 + fuel = (maskCount m + fuel) + 1 by omega]
        refine wpAnyZ_first h0 (Region.noSelect_spec hsel) (fun c a w => hQ c a _ _ w) hT _ listed a w hfit (Region.free_spec h0 hf) hrk hy ?_
        rw [ho]
        exact wpAnyZ_mask hsel hQ m l (k + 1) _ _ (fun j => by have := hl (j + 1); simpa [Nat.add_assoc, Nat.add_comm 1 j] using this) (by rw [put_size]; exact hn) (hfit.set hrk) hB' hR' (fun x => (h' x).2) H
      · have hwf : Region.wanted o (yielded ops a.tmps) = false := by simpa using hw
        rw [show maskCount m + 1 + fuel = (maskCount m + fuel) + 1 by omega]
        refine wpAnyZ_first h0 (Region.noSelect_spec hsel) (fun c a w => hQ c a _ _ w) hT _ listed a w hfit (Region.free_spec h0 hf) hrk (.inr ⟨hwf, rfl⟩) ?_
        refine wpAnyZ_mask hsel hQ m l (k + 1) _ _ (fun j => by have := hl (j + 1); simpa [Nat.add_assoc, Nat.add_comm 1 j] using this) (by rw [put_size]; exact hn) (hfit.set hrk) hB' hR' (fun x => ?_) H
        have h1 := h x
        unfold wpQuiet at h1
        rw [if_neg hw] at h1
        exact h1
/-- The tail stands by itself: all else that is not listed is taken by masks and one by one. -/
theorem wpAny_tail {F fuel tf : Nat} (T : List Nat) {listed : Array Bool} {a : Act} {w : World} (hF : fuel + tf = F) (h : wpAnyZ P md ops Q T tf fuel listed a w) : wpAny P md ops Q F listed a w := by
  rw [← hF]; exact wpAny_of_Z _ _ _ _ h
theorem wpAnyZ_take {T : List Nat} {tf F fuel n : Nat} {l : List Oper} {listed : Array Bool} {a : Act} {w : World} (m : List Bool) (hF : maskCount m + fuel = F) (hsel : Region.noSelect l.toArray = true)
    (hn : a.tmps.size = n) (hfit : fitB md l.toArray listed = true) (hB : maskOk md l.toArray n m l 0 listed = true) (hR : maskReach md l.toArray T m 0 = true)
    (h : ∃ A, (∀ x : BelowT w, wpQuiet P l.toArray (fun w' => ∃ y : BelowT x.val, w' = y.val) (fun a' => a' = A) (pickL m l) a) ∧ wpAnyZ P md l.toArray (NoPanic Q) T tf fuel (maskListed m 0 listed) A w) : wpAnyZ P md l.toArray (NoPanic Q) T tf F listed a w := by
  obtain ⟨A, h1, h2⟩ := h
  rw [← hF]
  exact wpAnyZ_mask hsel (fun _ _ _ _ _ h => h) m l 0 listed a (fun j => by simp) hn (fit_of hfit) hB hR h1 h2
theorem wpAnyZ_one {T : List Nat} {tf m fuel : Nat} {listed : Array Bool} {a : Act} {w : World} (hr : Region.ready md ops listed = [m])
    (h : ∀ w', Grow w w' → wpOp P ops Q m (fun a' w'' => Grow w' w'' ∧ wpAnyZ P md ops Q T tf fuel (listed.setIfInBounds m true) a' w'') a w') : wpAnyZ P md ops Q T tf (fuel + 1) listed a w :=
  fun w' g => ⟨fun h0 => (by rw [hr] at h0; cases h0), fun i hi => by
    rw [hr] at hi
    have : i = m := by simpa using hi
    subst this
    exact h w' g⟩
def allBut (T : List Nat) (n : Nat) (listed : Array Bool) : Bool := (List.range n).all fun k => decide (k ∈ T) || listed.getD k false
theorem wpAnyZ_rest {T : List Nat} {tf : Nat} {listed : Array Bool} {a : Act} {w : World} (hl : allBut T ops.size listed = true) (h : ∀ w', Grow w w' → wpAny P md ops Q tf listed a w') : wpAnyZ P md ops Q T tf 0 listed a w := by
  refine ⟨fun k hk hT => ?_, h⟩
  have := List.all_eq_true.1 hl k (List.mem_range.2 hk)
  simpa [hT] using this
theorem wpAny_one {m fuel : Nat} {listed : Array Bool} {a : Act} {w : World} (hr : Region.ready md ops listed = [m])
    (h : wpOp P ops Q m (fun a' w'' => wpAny P md ops Q fuel (listed.setIfInBounds m true) a' w'') a w) : wpAny P md ops Q (fuel + 1) listed a w :=
  ⟨fun h0 => (by rw [hr] at h0; cases h0), fun i hi => by
    rw [hr] at hi
    have : i = m := by simpa using hi
    subst this
    exact h⟩
theorem wpAny_end {listed : Array Bool} {a : Act} {w : World} (hr : Region.ready md ops listed = []) (h : Q .normal a w) : ∀ fuel, wpAny P md ops (NoPanic Q) fuel listed a w
  | 0 => ⟨hr, h⟩
  | _ + 1 => ⟨fun _ => h, by rw [hr]; simp⟩
theorem wp_region_tail {id : Nat} {a : Act} {w : World} (hm : P.follows .mixedOrders = true)
    (h : wpAny P .any ops (NoPanic Q) ops.size (Array.replicate ops.size false) a w.drew) : (Code.region id ops true).wp P Q a w :=
  wp_region_noPanic (wp_region_any hm h)
end
end Go.Proofs.YtfheajfcepcepaaDoor
end

section
namespace Go.Proofs.YtfheajfcepcepaaDoor
open Go.RowKit

structure RelT (Rel : World → World → Prop) (W : World) where
  val : World
  rel : Rel W val
/-- E: what the operations that are taken first may do to the world; S: what all of them may do. -/
structure RelOk (E S : World → World → Prop) : Prop where
  refl : ∀ w, E w w
  trans : ∀ {a b c : World}, E a b → E b c → E a c
  strans : ∀ {a b c : World}, S a b → S b c → S a c
  sub : ∀ {a b : World}, E a b → S a b
theorem RelOk.srefl {E S : World → World → Prop} (ok : RelOk E S) (w : World) : S w w := ok.sub (ok.refl w)
instance (R : Nat) (W : World) : Nonempty (RelT (Touch R) W) := ⟨⟨W, Touch.refl R W⟩⟩
instance (W : World) : Nonempty (RelT Grow W) := ⟨⟨W, Grow.refl W⟩⟩
theorem touchOk (R : Nat) : RelOk Grow (Touch R) := ⟨Grow.refl, Grow.trans, Touch.trans, Touch.of_below⟩
theorem calls_relT {P : Program} {f : FuncId} {args : Array Value} {W : World} {x : RelT Grow W} {v : Value}
    (h : Calls P f args x.val fun e w' => e = .returned v ∧ Below x.val.heap.size x.val w') : Calls P f args x.val fun e w'' => e = .returned v ∧ ∃ y : RelT Grow W, w'' = y.val :=
  h.mono fun _ w' ⟨he, hb⟩ => ⟨he, ⟨w', Grow.trans x.rel hb⟩, rfl⟩
section
variable {P : Program} {E S : World → World → Prop} {ops : Array Oper} {Q : Exit → Act → World → Prop} {md : Region.Mode}

def relUpon (P : Program) (E : World → World → Prop) (w : World) (v : Value) : Result Next → Prop
  | .ok (.value u) w' => w' = w ∧ u = v
  | .ok .skip w' => w' = w ∧ v = undef
  | .ok (.enter f args) w' => w' = w ∧ Calls P f args w (fun e w'' => e = .returned v ∧ E w w'')
  | _ => False
def relAt (P : Program) (E : World → World → Prop) (o : Oper) (a : Act) (w : World) (v : Value) : Prop := relUpon P E w v ((execOp a.eval o).run P w)
/-- In state a, in every world grown from w, operation o leaves v in its temporary and turns nothing. -/
def RYields (P : Program) (E S : World → World → Prop) (ops : Array Oper) (o : Oper) (v : Value) (a : Act) (w : World) : Prop :=
  (Region.wanted o (yielded ops a.tmps) = true ∧ ∀ w', S w w' → relAt P E o a w' v) ∨ (Region.wanted o (yielded ops a.tmps) = false ∧ v = undef)
theorem RYields.grow (ok : RelOk E S) {o : Oper} {v : Value} {a : Act} {w u : World} (h : RYields P E S ops o v a w) (g : S w u) : RYields P E S ops o v a u :=
  h.imp (fun ⟨h1, h2⟩ => ⟨h1, fun w' k => h2 w' (ok.strans g k)⟩) id
theorem RYields.of_same {o : Oper} {v : Value} {a a' : Act} {w : World} (hy : RYields P E S ops o v a w) (he : execOp a'.eval o = execOp a.eval o)
    (hw : Region.wanted o (yielded ops a'.tmps) = Region.wanted o (yielded ops a.tmps)) : RYields P E S ops o v a' w := by
  unfold RYields relAt at *
  rw [he, hw]
  exact hy
theorem RYields.wpOp (ok : RelOk E S) {i : Nat} {o : Oper} {v : Value} {a : Act} {w : World} (hi : ops[i]? = some o) (hy : RYields P E S ops o v a w)
    {K : Act → World → Prop} (h : ∀ w', E w w' → K (a.put o.dst v) w') : wpOp P ops Q i K a w := by
  unfold Go.wpOp
  simp only [hi]
  rcases hy with ⟨hw, hv⟩ | ⟨hw, rfl⟩
  · rw [if_pos hw]
    refine .inl ?_
    have h1 := hv w (ok.srefl w)
    unfold relAt at h1
    unfold Oper.wp
    generalize (execOp a.eval o).run P w = r at *
    cases r with
    | ok n w' =>
      cases n <;> simp only [relUpon] at h1 <;> simp only [Oper.upon]
      case value u =>
        obtain ⟨e1, e2⟩ := h1
        rw [e1, e2]
        exact h _ (ok.refl w)
      case skip =>
        obtain ⟨e1, e2⟩ := h1
        rw [e1, ← e2]
        exact h _ (ok.refl w)
      case enter f args =>
        obtain ⟨e1, hc⟩ := h1
        rw [e1]
        exact hc.mono fun e w'' ⟨he, hw''⟩ => by subst he; exact h _ hw''
    | halt x w' => simp only [relUpon] at h1
  · rw [if_neg (by rw [hw]; exact Bool.false_ne_true)]; exact h _ (ok.refl w)

theorem wpOp_putR {j : Nat} {oi oj : Oper} {v : Value} (hj : ops[j]? = some oj) (hap : oi.apart ops oj = true)
    (hsi : ∀ cs b, oi.op ≠ .select cs b) (hsj : ∀ cs b, oj.op ≠ .select cs b)
    (hQ : ∀ c a w, Q (.panic c) (a.put oi.dst v) w → Q (.panic c) a w) {K : Act → World → Prop} {a : Act} {w u : World}
    (hy : RYields P E S ops oi v a u) (h : wpOp P ops Q j K (a.put oi.dst v) w) :
    wpOp P ops Q j (fun a' w' => RYields P E S ops oi v a' u ∧ K (a'.put oi.dst v) w') a w := by
  obtain ⟨h1, h2, h3⟩ := Oper.apart_spec hap
  have keep : ∀ (a : Act), RYields P E S ops oi v a u → ∀ x, RYields P E S ops oi v (a.put oj.dst x) u := fun a hy x =>
    hy.of_same (execOp_put oi hsi a oj.dst x h3) (wanted_put oi a oj.dst x h3)
  have keepD : ∀ d, RYields P E S ops oi v { a with defers := d :: a.defers } u := fun d => hy.of_same rfl rfl
  unfold Go.wpOp at *
  simp only [hj] at *
  rw [wanted_put oj a oi.dst v h1] at h
  split
  · rename_i hw
    simp only [hw, if_true] at h
    rcases h with h | ⟨hasks, hlets⟩
    case inr => exact .inr ⟨by unfold Oper.asks at *; rw [execOp_put oj hsj a oi.dst v h1] at hasks; exact hasks, hlets⟩
    refine .inl ?_
    unfold Oper.wp at *
    rw [execOp_put oj hsj a oi.dst v h1] at h
    generalize (execOp a.eval oj).run P w = r at *
    cases r with
    | ok n w' =>
      cases n <;> simp only [Oper.upon] at h ⊢
      case value x => exact ⟨keep a hy x, by rw [← Act.put_comm a v x h2]; exact h⟩
      case skip => exact ⟨keep a hy _, by rw [← Act.put_comm a v undef h2]; exact h⟩
      case defer d =>
        refine ⟨keep _ (keepD d) _, ?_⟩
        rw [← Act.put_comm _ v undef h2, ← Act.put_defers]
        exact h
      case enter f args =>
        refine Calls.mono h fun e w'' he => ?_
        cases e with
        | returned x => exact ⟨keep a hy x, by rw [← Act.put_comm a v x h2]; exact he⟩
        | panicked c => exact hQ _ _ _ he
        | outgrown => exact he
      case row row args => exact Rows.mono h fun x w'' he => ⟨keep a hy x, by rw [← Act.put_comm a v x h2]; exact he⟩
    | halt x w' =>
      cases x <;> simp only [Oper.upon] at h ⊢
      case panic x => exact hQ _ _ _ h
  · rename_i hw
    simp only [hw] at h
    exact ⟨keep a hy _, by rw [← Act.put_comm a v undef h2]; exact h⟩

/-- Whatever order is picked, till all but the tail T is listed. -/
def wpAnyW (P : Program) (E S : World → World → Prop) (md : Region.Mode) (ops : Array Oper) (Q : Exit → Act → World → Prop) (T : List Nat) (tf : Nat) : Nat → Array Bool → Act → World → Prop
  | 0, listed, a, w => (∀ k, k < ops.size → k ∉ T → listed.getD k false = true) ∧ ∀ w', E w w' → wpAny P md ops Q tf listed a w'
  | fuel + 1, listed, a, w => ∀ w', E w w' → (Region.ready md ops listed = [] → Q .normal a w') ∧
    ∀ i ∈ Region.ready md ops listed, wpOp P ops Q i (fun a' w'' => S w' w'' ∧ wpAnyW P E S md ops Q T tf fuel (listed.setIfInBounds i true) a' w'') a w'
theorem wpAny_of_W (ok : RelOk E S) {T : List Nat} {tf : Nat} : ∀ (fuel : Nat) (listed : Array Bool) (a : Act) (w : World), wpAnyW P E S md ops Q T tf fuel listed a w → wpAny P md ops Q (fuel + tf) listed a w
  | 0, _, _, w, h => by rw [Nat.zero_add]; exact h.2 w (ok.refl w)
  | fuel + 1, _, _, w, h => by
    rw [show fuel + 1 + tf = (fuel + tf) + 1 by omega]
    exact ⟨(h w (ok.refl w)).1, fun i hi => wpOp_mono (fun a' w' h' => wpAny_of_W ok fuel _ a' w' h'.2) ((h w (ok.refl w)).2 i hi)⟩
theorem wpAnyW_grow (ok : RelOk E S) {T : List Nat} {tf fuel : Nat} {listed : Array Bool} {a : Act} {w u : World} (g : E w u) (h : wpAnyW P E S md ops Q T tf fuel listed a w) : wpAnyW P E S md ops Q T tf fuel listed a u := by
  cases fuel with
  | zero => exact ⟨h.1, fun w' k => h.2 w' (ok.trans g k)⟩
  | succ fuel => exact fun w' k => h w' (ok.trans g k)
theorem wpAnyW_first (ok : RelOk E S) {T : List Nat} {tf i : Nat} {oi : Oper} {v : Value} (hi : ops[i]? = some oi) (hsel : ∀ (j : Nat) (o : Oper) cs b, ops[j]? = some o → o.op ≠ .select cs b)
    (hQ : ∀ c a w, Q (.panic c) (a.put oi.dst v) w → Q (.panic c) a w) (hT : ∀ t ∈ T, reachB md ops ops.size t i = true) :
    ∀ (fuel : Nat) (listed : Array Bool) (a : Act) (w : World), Fit md ops listed →
      (∀ j oj, ops[j]? = some oj → j ≠ i → listed.getD j true = false → (∀ e ∈ oj.after, Region.binds md e = true → e.on ≠ i) → oi.apart ops oj = true) →
      i ∈ Region.ready md ops listed → RYields P E S ops oi v a w →
      wpAnyW P E S md ops Q T tf fuel (listed.setIfInBounds i true) (a.put oi.dst v) w → wpAnyW P E S md ops Q T tf (fuel + 1) listed a w := by
  have hun : ∀ {L : Array Bool} {k : Nat}, L.getD k true = false → L.getD k false = true → False := fun {L k} h0 h1 => by
    rcases Nat.lt_or_ge k L.size with h' | h'
    · simp [h'] at h0 h1; rw [h0] at h1; cases h1
    · simp [Array.getElem?_eq_none h'] at h1
  intro fuel
  induction fuel with
  | zero =>
    intro listed a w hfit _ hr hy H w' g
    refine ⟨fun h => (by rw [h] at hr; cases hr), fun j hj => ?_⟩
    by_cases hji : j = i
    · subst hji; exact (hy.grow ok (ok.sub g)).wpOp ok hi fun w'' k => ⟨ok.sub k, wpAnyW_grow ok (ok.trans g k) H⟩
    · exfalso
      obtain ⟨hjun, oj, hoj, hall⟩ := mem_ready.1 hj
      have hjT : j ∈ T := by
        refine Classical.byContradiction fun hn => ?_
        have := H.1 j (Array.getElem?_eq_some_iff.1 hoj).1 hn
        rw [getD_set_ne false (Ne.symm hji)] at this
        exact hun hjun this
      exact hun (mem_ready.1 hr).1 (reach_listed hfit _ j i oj hoj hall (hT j hjT))
  | succ fuel ih =>
    intro listed a w hfit hfree hr hy H w' g
    refine ⟨fun h => (by rw [h] at hr; cases hr), fun j hj => ?_⟩
    by_cases hji : j = i
    · subst hji; exact (hy.grow ok (ok.sub g)).wpOp ok hi fun w'' k => ⟨ok.sub k, wpAnyW_grow ok (ok.trans g k) H⟩
    · have h1 := (H w' g).2 j (ready_mono hj hji)
      obtain ⟨hjun, oj, hoj, hall⟩ := mem_ready.1 hj
      have hnot : ∀ e ∈ oj.after, Region.binds md e = true → e.on ≠ i := fun e he hb heq => by
        have h1 := hall e he hb
        rw [heq] at h1
        exact hun (mem_ready.1 hr).1 h1
      have h2 := wpOp_putR hoj (hfree j oj hoj hji hjun hnot) (fun cs b => hsel i oi cs b hi) (fun cs b => hsel j oj cs b hoj) hQ (hy.grow ok (ok.sub g)) h1
      have hfree' : ∀ k ok, ops[k]? = some ok → k ≠ i → (listed.setIfInBounds j true).getD k true = false →
          (∀ e ∈ ok.after, Region.binds md e = true → e.on ≠ i) → oi.apart ops ok = true := fun k ok hk hki hun hno => by
        refine hfree k ok hk hki ?_ hno
        by_cases hjk : j = k
        · subst hjk; exact hjun
        · rw [getD_set_ne true hjk] at hun; exact hun
      refine wpOp_mono (fun a' w'' h3 => ⟨h3.2.1, ih (listed.setIfInBounds j true) a' w'' (hfit.set hj) hfree' (ready_mono hr (Ne.symm hji)) (h3.1.grow ok h3.2.1) ?_⟩) h2
      rw [Array.setIfInBounds_comm _ _ hji]
      exact h3.2.2
theorem wpAnyW_mask (ok : RelOk E S) {T : List Nat} {tf : Nat} {A : Act} {n : Nat} (hsel : Region.noSelect ops = true) (hQ : ∀ c a o v w, Q (.panic c) (a.put o v) w → Q (.panic c) a w) {w : World} {fuel : Nat} : ∀ (m : List Bool) (l : List Oper) (k : Nat) (listed : Array Bool) (a : Act),
    (∀ j, l[j]? = ops[k + j]?) → a.tmps.size = n → Fit md ops listed → maskOk md ops n m l k listed = true → maskReach md ops T m k = true →
    (∀ x : RelT S w, wpQuiet P ops (fun w' => ∃ y : RelT E x.val, w' = y.val) (fun a' => a' = A) (pickL m l) a) →
    wpAnyW P E S md ops Q T tf fuel (maskListed m k listed) A w → wpAnyW P E S md ops Q T tf (maskCount m + fuel) listed a w
  | [], l, k, listed, a, _, _, _, _, _, h, H => by
    have h1 : a = A := by have := h ⟨w, ok.srefl w⟩; rw [pickL] at this; exact this; all_goals simp
    rw [h1]
    simpa [maskCount, maskListed] using H
  | false :: m, [], k, listed, a, _, _, _, hB, _, _, _ => by simp [maskOk] at hB
  | true :: m, [], k, listed, a, _, _, _, hB, _, _, _ => by simp [maskOk] at hB
  | false :: m, o :: l, k, listed, a, hl, hn, hfit, hB, hR, h, H => by
    simp only [maskCount, maskListed, maskOk, maskReach, pickL] at *
    exact wpAnyW_mask ok hsel hQ m l (k + 1) listed a (fun j => by have := hl (j + 1); simpa [Nat.add_assoc, Nat.add_comm 1 j] using this) hn hfit hB hR h H
  | true :: m, o :: l, k, listed, a, hl, hn, hfit, hB, hR, h, H => by
    have h0 : ops[k]? = some o := by simpa using (hl 0).symm
    simp only [maskCount, maskListed, maskOk, maskReach, pickL, Bool.and_eq_true] at *
    obtain ⟨⟨⟨hr, hf⟩, hd⟩, hB'⟩ := hB
    obtain ⟨hR0, hR'⟩ := hR
    have hT : ∀ t ∈ T, reachB md ops ops.size t k = true := fun t ht => List.all_eq_true.1 hR0 t ht
    have hrk : k ∈ Region.ready md ops listed := by simpa using hr
    cases ho : o.dst with
    | none => rw [ho] at hd; cases hd
    | some d =>
      rw [ho] at hd
      simp only [Bool.and_eq_true, decide_eq_true_eq, List.all_eq_true, bne_iff_ne] at hd
      have hslot : ∀ v, (a.put (some d) v).tmps[d]? = some v := fun v => by simp [Act.put, hn, hd.1]
      by_cases hw : Region.wanted o (yielded ops a.tmps) = true
      · have h' : ∀ x : RelT S w, (∀ w', (∃ y : RelT E x.val, w' = y.val) → o.quietAt P a (fun w' => ∃ y : RelT E x.val, w' = y.val) w' ((A.tmps[d]?).getD undef)) ∧
            wpQuiet P ops (fun w' => ∃ y : RelT E x.val, w' = y.val) (fun a' => a' = A) (pickL m l) (a.put (some d) ((A.tmps[d]?).getD undef)) := fun x => by
          have h1 := h x
          unfold wpQuiet at h1
          rw [if_pos hw] at h1
          obtain ⟨v, h2, h3⟩ := h1
          rw [ho] at h3
          have h4 := quiet_slot (d := d) (pickL m l) _ hd.2 h3
          rw [hslot] at h4
          rw [h4]
          exact ⟨h2, h3⟩
        have hy : RYields P E S ops o ((A.tmps[d]?).getD undef) a w := .inl ⟨hw, fun w' g => by
          have h1 := (h' ⟨w', g⟩).1 w' ⟨⟨w', ok.refl w'⟩, rfl⟩
          unfold Oper.quietAt at h1
          unfold relAt
          generalize (execOp a.eval o).run P w' = r at *
          cases r with
          | ok nx w2 =>
            cases nx <;> simp only [Oper.quietUpon] at h1 <;> simp only [relUpon]
            case value u => exact h1
            case skip => exact h1
            case enter f args => exact ⟨h1.1, h1.2.mono fun e w3 ⟨he, y, hy⟩ => ⟨he, by rw [hy]; exact y.rel⟩⟩
          | halt x w2 => simp only [Oper.quietUpon] at h1⟩
        rw [show maskCount m + 1 + fuel = (maskCount m + fuel) + 1 by omega]
        refine wpAnyW_first ok h0 (Region.noSelect_spec hsel) (fun c a w => hQ c a _ _ w) hT _ listed a w hfit (Region.free_spec h0 hf) hrk hy ?_
        rw [ho]
        exact wpAnyW_mask ok hsel hQ m l (k + 1) _ _ (fun j => by have := hl (j + 1); simpa [Nat.add_assoc, Nat.add_comm 1 j] using this) (by rw [put_size]; exact hn) (hfit.set hrk) hB' hR' (fun x => (h' x).2) H
      · have hwf : Region.wanted o (yielded ops a.tmps) = false := by simpa using hw
        rw [show maskCount m + 1 + fuel = (maskCount m + fuel) + 1 by omega]
        refine wpAnyW_first ok h0 (Region.noSelect_spec hsel) (fun c a w => hQ c a _ _ w) hT _ listed a w hfit (Region.free_spec h0 hf) hrk (.inr ⟨hwf, rfl⟩) ?_
        refine wpAnyW_mask ok hsel hQ m l (k + 1) _ _ (fun j => by have := hl (j + 1); simpa [Nat.add_assoc, Nat.add_comm 1 j] using this) (by rw [put_size]; exact hn) (hfit.set hrk) hB' hR' (fun x => ?_) H
        have h1 := h x
        unfold wpQuiet at h1
        rw [if_neg hw] at h1
        exact h1
/-- The tail stands by itself: all else that is not listed is taken by masks and one by one. -/
theorem wpAny_tailW (ok : RelOk E S) {F fuel tf : Nat} (T : List Nat) {listed : Array Bool} {a : Act} {w : World} (hF : fuel + tf = F) (h : wpAnyW P E S md ops Q T tf fuel listed a w) : wpAny P md ops Q F listed a w := by
  rw [← hF]; exact wpAny_of_W ok _ _ _ _ h
theorem wpAnyW_take (ok : RelOk E S) {T : List Nat} {tf F fuel n : Nat} {l : List Oper} {listed : Array Bool} {a : Act} {w : World} (m : List Bool) (hF : maskCount m + fuel = F) (hsel : Region.noSelect l.toArray = true)
    (hn : a.tmps.size = n) (hfit : fitB md l.toArray listed = true) (hB : maskOk md l.toArray n m l 0 listed = true) (hR : maskReach md l.toArray T m 0 = true)
    (h : ∃ A, (∀ x : RelT S w, wpQuiet P l.toArray (fun w' => ∃ y : RelT E x.val, w' = y.val) (fun a' => a' = A) (pickL m l) a) ∧ wpAnyW P E S md l.toArray (NoPanic Q) T tf fuel (maskListed m 0 listed) A w) : wpAnyW P E S md l.toArray (NoPanic Q) T tf F listed a w := by
  obtain ⟨A, h1, h2⟩ := h
  rw [← hF]
  exact wpAnyW_mask ok hsel (fun _ _ _ _ _ h => h) m l 0 listed a (fun j => by simp) hn (fit_of hfit) hB hR h1 h2
theorem wpAnyW_one {T : List Nat} {tf m fuel : Nat} {listed : Array Bool} {a : Act} {w : World} (hr : Region.ready md ops listed = [m])
    (h : ∀ w', E w w' → wpOp P ops Q m (fun a' w'' => S w' w'' ∧ wpAnyW P E S md ops Q T tf fuel (listed.setIfInBounds m true) a' w'') a w') : wpAnyW P E S md ops Q T tf (fuel + 1) listed a w :=
  fun w' g => ⟨fun h0 => (by rw [hr] at h0; cases h0), fun i hi => by
    rw [hr] at hi
    have : i = m := by simpa using hi
    subst this
    exact h w' g⟩
theorem wpAnyW_rest {T : List Nat} {tf : Nat} {listed : Array Bool} {a : Act} {w : World} (hl : allBut T ops.size listed = true) (h : ∀ w', E w w' → wpAny P md ops Q tf listed a w') : wpAnyW P E S md ops Q T tf 0 listed a w := by
  refine ⟨fun k hk hT => ?_, h⟩
  have := List.all_eq_true.1 hl k (List.mem_range.2 hk)
  simpa [hT] using this
/-- Two operations may come up. -/
theorem wpAnyW_two {T : List Nat} {tf m n fuel : Nat} {listed : Array Bool} {a : Act} {w : World} (hr : Region.ready md ops listed = [m, n])
    (h1 : ∀ w', E w w' → wpOp P ops Q m (fun a' w'' => S w' w'' ∧ wpAnyW P E S md ops Q T tf fuel (listed.setIfInBounds m true) a' w'') a w')
    (h2 : ∀ w', E w w' → wpOp P ops Q n (fun a' w'' => S w' w'' ∧ wpAnyW P E S md ops Q T tf fuel (listed.setIfInBounds n true) a' w'') a w') : wpAnyW P E S md ops Q T tf (fuel + 1) listed a w :=
  fun w' g => ⟨fun h0 => (by rw [hr] at h0; cases h0), fun i hi => by
    rw [hr] at hi
    rcases (by simpa using hi : i = m ∨ i = n) with e | e
    · subst e; exact h1 w' g
    · subst e; exact h2 w' g⟩
end
end Go.Proofs.YtfheajfcepcepaaDoor
end

section
namespace Go.Proofs.YtfheajfcepcepaaDoor
open Go.RowKit

theorem only_grown {o : Option Nat} {w w' : World} (h : w.grownBy w' o) : Only o w w' := ⟨h.os, h.tape, h.output, h.size, h.block⟩
theorem kk3_only {w w' : World} {g : Nat} {v0 v1 v2 : Value} {o : Option Nat} (h : KK3 w g v0 v1 v2) (t : Only o w w') (hne : o = some g → False) : KK3 w' g v0 v1 v2 := by
  have hl := lt_of_cell h.1
  have hb := t.block g hl (fun e => hne e.symm)
  exact ⟨by rw [World.cell?_of_block (w := w) (a := ⟨g, 0, none⟩) hb, h.1], by rw [World.cell?_of_block (w := w) (a := ⟨g, 1, none⟩) hb, h.2.1], by rw [World.cell?_of_block (w := w) (a := ⟨g, 2, none⟩) hb, h.2.2]⟩
/-- Three cells of a block that can be written. -/
def KF3 (w : World) (g : Nat) (v0 v1 v2 : Value) : Prop := KK3 w g v0 v1 v2 ∧ ∀ i, w.frozen? ⟨g, i, none⟩ = false
theorem KF3.new (w : World) (v0 v1 v2 : Value) (t : TypeId) : KF3 (w.alloc (.cells #[v0, v1, v2] t)) w.heap.size v0 v1 v2 :=
  ⟨KK3.new w v0 v1 v2 t, fun i => by rw [World.frozen?_alloc_at _ _ _ _ rfl]⟩
theorem KF3.below {w w' : World} {g : Nat} {v0 v1 v2 : Value} (h : KF3 w g v0 v1 v2) (hb : Below w.heap.size w w') : KF3 w' g v0 v1 v2 := by
  have hl := lt_of_cell h.1.1
  exact ⟨h.1.below hb, fun i => by rw [below_fz hb hl, h.2]⟩
theorem KF3.only {w w' : World} {g : Nat} {v0 v1 v2 : Value} {o : Option Nat} (h : KF3 w g v0 v1 v2) (t : Only o w w') (hne : o = some g → False) : KF3 w' g v0 v1 v2 := by
  have hl := lt_of_cell h.1.1
  exact ⟨kk3_only h.1 t hne, fun i => by rw [World.frozen?_of_block (w := w) (a := ⟨g, i, none⟩) (t.block g hl (fun e => hne e.symm)), h.2]⟩
theorem KF3.touch {w w' : World} {R g : Nat} {v0 v1 v2 : Value} (h : KF3 w g v0 v1 v2) (t : Touch R w w') (hne : g ≠ R) : KF3 w' g v0 v1 v2 :=
  h.only (o := some R) ⟨t.os, t.tape, t.output, t.size, fun k hk hr => t.block k hk (fun e => hr (by rw [e]))⟩ (fun e => by injection e with e; exact hne e.symm)
theorem KF3.set0 {w : World} {g : Nat} {v0 v1 v2 : Value} (h : KF3 w g v0 v1 v2) (u : Value) : KF3 (w.setCell ⟨g, 0, none⟩ u) g u v1 v2 :=
  ⟨⟨cell_same h.1.1 _, (cell_off (by omega) _).trans h.1.2.1, (cell_off (by omega) _).trans h.1.2.2⟩, fun i => (World.frozen?_setCell _ _ _ _).trans (h.2 i)⟩
theorem KF3.set2 {w : World} {g : Nat} {v0 v1 v2 : Value} (h : KF3 w g v0 v1 v2) (u : Value) : KF3 (w.setCell ⟨g, 2, none⟩ u) g v0 v1 u :=
  ⟨⟨(cell_off (by omega) _).trans h.1.1, (cell_off (by omega) _).trans h.1.2.1, cell_same h.1.2.2 _⟩, fun i => (World.frozen?_setCell _ _ _ _).trans (h.2 i)⟩
theorem KF3.off {w : World} {g h i : Nat} {v0 v1 v2 : Value} (k : KF3 w g v0 v1 v2) (hne : h ≠ g) (u : Value) : KF3 (w.setCell ⟨h, i, none⟩ u) g v0 v1 v2 :=
  k.only (o := some h) ((Only.refl (some h) w).setCell u) (fun e => by injection e with e; exact hne e)
theorem rdF_ofD {B n : Nat} {a : Option Addr} {c : Nat} {xs : List Fld} {u : World} (h : OwnR n 2 fldC B (.slice a xs.length c) xs u) : RdR 2 fldC u a xs.length xs := by
  obtain ⟨a', c', e, h2, _, _⟩ := h.read fldC_len
  injection e with e1 _ _
  subst e1; exact h2
def SmallK (M : Nat) (k : Knd) : Prop := k.main.length ≤ M ∧ k.sub.length ≤ M ∧ ∀ x ∈ k.params, SmallF M x
/-- A kind drawn, its texts of at most M bytes, with at most n parameters. -/
def DrawnK (R p c n M : Nat) (w : World) (e : Ending) (w' : World) : Prop := ∃ (k : Knd) (a : Option Addr) (d p' : Nat), e = .returned (kndV k a d) ∧ OwnF w.heap.size (.slice a k.params.length d) k.params w' ∧ k.params.length ≤ n ∧ SmallK M k ∧ p ≤ p' ∧ p' ≤ p + c ∧ Rd w' R p' ∧ Touch R w w'
theorem drawnK_mk {R p c n M p' d : Nat} {a : Option Addr} {w w' : World} {m s : ByteArray} {xs : List Fld} (hm : m.size ≤ M) (hs : s.size ≤ M) (hx : ∀ x ∈ xs, SmallF M x) (ho : OwnF w.heap.size (.slice a xs.length d) xs w') (hn : xs.length ≤ n) (h1 : p ≤ p') (h2 : p' ≤ p + c) (hr : Rd w' R p') (ht : Touch R w w') : DrawnK R p c n M w (.returned (.agg #[.string m, .string s, .slice a xs.length d])) w' :=
  ⟨⟨m.data.toList, s.data.toList, xs⟩, a, d, p', by unfold kndV; rw [str_of, str_of], ho, hn, ⟨by rw [size_list]; exact hm, by rw [size_list]; exact hs, hx⟩, h1, h2, hr, ht⟩
set_option maxRecDepth 100000 in
set_option maxHeartbeats 2000000 in
theorem l7Draw_any (R p : Nat) (w : World) (hr : Rd w R p) (hp : p ≤ 999998000) : Calls Tryd.prog 44 #[.pointer (some ⟨R, 0, none⟩)] w (DrawnK R p 9 3 9 w) := by
  obtain ⟨i0, hi, hz0, hz1, hz2⟩ := info_parts fInfo
  have hRl := hr.lt
  have HZ0 := Lib.hid (KF3.new w (.string ⟨#[]⟩) (.string ⟨#[]⟩) (.slice none 0 0) 25)
  have hbZ : Below w.heap.size w (w.alloc (.cells #[.string ⟨#[]⟩, .string ⟨#[]⟩, .slice none 0 0] 25)) := (Below.refl _ _).alloc (Nat.le_refl _) _
  have hrZ := hr.below hbZ
  have hzZ : (w.alloc (.cells #[.string ⟨#[]⟩, .string ⟨#[]⟩, .slice none 0 0] 25)).heap.size = w.heap.size + 1 := by simp
  go_enter Tryd.func44, Tryd.ntmps44
  go_wp2_with fail
  generalize hW0 : w.alloc (.cells #[.string ⟨#[]⟩, .string ⟨#[]⟩, .slice none 0 0] 25) = W0 at *
  clear hW0
  rw [← hzZ]
  refine (of_lit R p 3 9 _ _ W0 hrZ (by omega) (by omega) (by omega) (by decide)).mono ?_
  rintro e w1 ⟨s1, p1, rfl, g1, f1, k1, hr1, ht1⟩
  have hs1 := ht1.size
  have HZ1 := Lib.hid (HZ0.out.touch ht1 (by omega))
  go_wp2_with fail
  refine (of_lit R p1 4 9 _ _ w1 hr1 (by omega) (by omega) (by omega) (by decide)).mono ?_
  rintro e w2 ⟨s2, p2, rfl, g2, f2, k2, hr2, ht2⟩
  have hs2 := ht2.size
  have HZ2 := Lib.hid (HZ1.out.touch ht2 (by omega))
  have hT2 : Touch R w w2 := (Touch.of_below hbZ).trans (ht1.trans ht2)
  have hA3 : Below w2.heap.size w2 (w2.alloc (.cells #[] 45)) := (Below.refl _ _).alloc (Nat.le_refl _) _
  have hA4 : Below w2.heap.size w2 ((w2.alloc (.cells #[] 45)).alloc (.cells #[.string s1, .string s2, .slice (some ⟨w2.heap.size, 0, none⟩) 0 0] 25)) := hA3.alloc (by simp) _
  have HO4 : Hid (OwnF (w.heap.size + 1) (.slice (some ⟨w2.heap.size, 0, none⟩) 0 0) [] ((w2.alloc (.cells #[] 45)).alloc (.cells #[.string s1, .string s2, .slice (some ⟨w2.heap.size, 0, none⟩) 0 0] 25))) :=
    OwnR.base ((OwnR.empty _ _ _ w2).keep ((Below.refl _ _).alloc (Nat.le_refl _) _)) (by omega)
  have HK4 : Hid (KF3 ((w2.alloc (.cells #[] 45)).alloc (.cells #[.string s1, .string s2, .slice (some ⟨w2.heap.size, 0, none⟩) 0 0] 25)) (w2.heap.size + 1) (.string s1) (.string s2) (.slice (some ⟨w2.heap.size, 0, none⟩) 0 0)) := by
    show KF3 _ _ _ _ _
    have := KF3.new (w2.alloc (.cells #[] 45)) (.string s1) (.string s2) (.slice (some ⟨w2.heap.size, 0, none⟩) 0 0) 25
    simpa using this
  have HZ4 := Lib.hid (HZ2.out.below hA4)
  have hr4 := hr2.below hA4
  have hT4 := hT2.trans (Touch.of_below hA4)
  have hz4 : ((w2.alloc (.cells #[] 45)).alloc (.cells #[.string s1, .string s2, .slice (some ⟨w2.heap.size, 0, none⟩) 0 0] 25)).heap.size = w2.heap.size + 1 + 1 := by simp
  clear hA3 hA4
  go_wp2_with fail
  generalize hW4 : (w2.alloc (.cells #[] 45)).alloc (.cells #[.string s1, .string s2, .slice (some ⟨w2.heap.size, 0, none⟩) 0 0] 25) = W4 at *
  clear hW4
  obtain ⟨K, hK⟩ : ∃ K, K = w2.heap.size + 1 := ⟨_, rfl⟩
  rw [← hK] at HK4 hz4
  have hne4 : w2.heap.size ≠ K := by omega
  generalize hG2 : w2.heap.size = G2 at *
  have hKR : K ≠ R := by omega
  have hKw : w.heap.size < K := by omega
  have hnb : ∀ q, (Value.slice (some ⟨G2, 0, none⟩) 0 0).ownBlock = some q → q ≠ K := fun q hq => by
    have : some G2 = some q := hq
    injection this with this; omega
  rw [← hK]
  rw [← hz4]
  have hK4 : K < W4.heap.size := by omega
  have hw4 : w.heap.size < W4.heap.size := by omega
  clear hz4 hK hG2 hne4
  refine (num_any R p2 W4.heap.size 0 4 4 [1, 0, 2, 3] _ (hr4.below ((Below.refl _ _).alloc (Nat.le_refl _) _)) (by omega) (by omega) (by simp) (by omega) (by omega) rfl (fun i hi => ?_)).mono ?_
  · rcases (by simp at hi; omega : i = 0 ∨ i = 1 ∨ i = 2 ∨ i = 3) with rfl | rfl | rfl | rfl <;> (rw [World.cell?_alloc_at _ _ _ _ (by simp)]; rfl)
  rintro e w5 ⟨m0, hm0, rfl, hr5, ht5'⟩
  have ht5 : Touch R W4 w5 := (Touch.of_below ((Below.refl _ _).alloc (Nat.le_refl _) _)).trans ht5'
  have hm : 0 ≤ m0 ∧ m0 ≤ 3 := by
    simp only [List.mem_cons, List.not_mem_nil, or_false] at hm0; omega
  have hs5 := ht5.size
  have HZ5 := Lib.hid (HZ4.out.touch ht5 (by omega))
  have HK5 := Lib.hid (HK4.out.touch ht5 hKR)
  have HO5 := Lib.hid (OwnR.touch HO4.out ht5 (by omega))
  have hT5 := hT4.trans ht5
  have hK5 : K < w5.heap.size := by omega
  clear hzZ
  clear hm0 ht5' HO4 HK4 HZ4
  go_wp2_with fail
  go_loopw [4] (fun i wr => ∃ (m : Int) (acc : List Fld) (a : Option Addr) (d p' : Nat), 0 ≤ m ∧ m + acc.length ≤ 3 ∧ i = .int .i64 m ∧ p ≤ p' ∧ p' + 2 * m ≤ p + 9 ∧ OwnF (w.heap.size + 1) (.slice a acc.length d) acc wr ∧ (∀ q, (Value.slice a acc.length d).ownBlock = some q → q ≠ K) ∧ (∀ x ∈ acc, SmallF 9 x) ∧ KF3 wr K (.string s1) (.string s2) (.slice a acc.length d) ∧ KF3 wr w.heap.size (.string ⟨#[]⟩) (.string ⟨#[]⟩) (.slice none 0 0) ∧ Rd wr R p' ∧ Touch R w wr ∧ K < wr.heap.size) (fun i _ => (intOf i).toNat)
  case atStart => exact ⟨m0, [], _, 0, p2 + 1, hm.1, by simp; omega, rfl, by omega, by omega, HO5.out, hnb, (fun x hx => by cases hx), HK5.out, HZ5.out, hr5, hT5, hK5⟩
  case round =>
    obtain ⟨m, acc, a, d, p', hm0, hml, rfl, hp1, hp2, hown, hnk, hacc, hk, hz, hrd, ht, hKr⟩ := hrel
    have HACC := Lib.hid hacc
    have HNK := Lib.hid hnk
    have HKK := Lib.hid hk
    have HZZ := Lib.hid hz
    have HOO := Lib.hid hown
    have hszr := ht.size
    clear hacc hnk hk hz hown
    by_cases hmp : 0 < m
    · go_wp2_with fail
      refine (of_lit R p' 4 9 _ _ wr hrd (by omega) (by omega) (by omega) (by decide)).mono ?_
      rintro e w6 ⟨s6, p6, rfl, g6, f6, k6, hr6, ht6⟩
      have hs6 := ht6.size
      go_wp2_with fail
      refine (of_lit R p6 7 9 _ _ w6 hr6 (by omega) (by omega) (by omega) (by decide)).mono ?_
      rintro e w7 ⟨s7, p7, rfl, g7, f7, k7, hr7, ht7⟩
      have hs7 := ht7.size
      have ht67 := ht6.trans ht7
      have hA7 : Below w7.heap.size w7 (w7.alloc (.cells #[.string s6, .string s7] 45)) := (Below.refl _ _).alloc (Nat.le_refl _) _
      have HK7 := Lib.hid ((HKK.out.touch ht67 hKR).below hA7)
      have HZ7 := Lib.hid ((HZZ.out.touch ht67 (by omega)).below hA7)
      have HO7 := Lib.hid (OwnR.keep (OwnR.touch HOO.out ht67 (by omega)) hA7)
      have HP7 := Lib.hid (K2.new w7 (.string s6) (.string s7) 45)
      have hT7 := (ht.trans ht67).trans (Touch.of_below hA7)
      have hr7A := hr7.below hA7
      have hl7 : w7.heap.size < (w7.alloc (.cells #[.string s6, .string s7] 45)).heap.size := by simp
      obtain ⟨⟨y0, y1, y2⟩, yf⟩ := HK7.out
      obtain ⟨z0, z1⟩ := HP7.out
      have hrd7 := rdF_ofD HO7.out
      have HRD7 := Lib.hid hrd7
      clear hA7 hrd7
      go_wp2_with fail
      generalize hW7 : w7.alloc (.cells #[.string s6, .string s7] 45) = W7 at *
      clear hW7
      refine (l3Find_any a _ d acc s6 _ HRD7.out (by omega) (fun x hx => (HACC.out x hx).up (by omega)) (by omega)).mono ?_
      rintro e w8 ⟨rfl, hb8⟩
      have hs8 := hb8.size
      have HK8 := Lib.hid (HK7.out.below hb8)
      have HZ8 := Lib.hid (HZ7.out.below hb8)
      have HO8 := Lib.hid (OwnR.keep HO7.out hb8)
      have HP8 := Lib.hid (HP7.out.below hb8)
      have hT8 := hT7.trans (Touch.of_below hb8)
      have hr8 := hr7A.below hb8
      clear y0 y1 y2 yf z0 z1
      by_cases hfi : idxI (findN acc s6.data.toList) < 0
      · have d1 : decide (idxI (findN acc s6.data.toList) < 0) = true := by simpa using hfi
        generalize idxI (findN acc s6.data.toList) = ix at *
        obtain ⟨⟨y0, y1, y2⟩, yf⟩ := HK8.out
        obtain ⟨z0, z1⟩ := HP8.out
        have hown1 := HO8.out
        unfold OwnF OwnR at hown1
        clear hfi
        go_wp2_with (at_builtin; refine wpList_append_own_at _ rfl _ _ 23 rfl (w.heap.size + 1) 45 i0 (.agg #[.string ⟨#[]⟩, .string ⟨#[]⟩]) 2 32 Tryd.underlying23 hi hz0 hz1 hz2 rfl (by decide) _ _ _ rfl (World.ownsRow.alloc hown1 _) ⟨w8.heap.size, 0, none⟩ 1 1 (fldC (fld s6 s7)) rfl rfl ?c1 ?c2 ?c3 ?c4 ?c5 ?_)
        case c1 =>
          intro u v hu
          rw [add0, World.cell?_alloc_at _ _ _ _ rfl]
          have e1 : str (fld s6 s7).name = s6 := str_of s6
          have e2 : str (fld s6 s7).val = s7 := str_of s7
          unfold fldC at hu
          rw [e1, e2] at hu
          simpa using hu
        case c2 => intro u hu; simp [fldC] at hu; rcases hu with rfl | rfl <;> rfl
        case c3 => unfold maxLen; omega
        case c4 => omega
        case c5 => simp; omega
        intro v' w9 hown' hgrow _ hat
        have hO9 := OwnR.snoc hown'
        have hon9 : Only (Value.slice a acc.length d).ownBlock w8 w9 := (Only.of_below ((Below.refl _ _).alloc (Nat.le_refl _) _)).trans (only_grown hgrow)
        have hb9 : Below w.heap.size w8 w9 := hon9.below (fun g hg => by have := (World.ownsRow.lt hown1 g hg).1; omega) (by omega)
        have HK9 := Lib.hid (HK8.out.only hon9 (fun e => HNK.out _ e rfl))
        have HZ9 := Lib.hid (HZ8.out.only hon9 (fun e => by have := (World.ownsRow.lt hown1 _ e).1; omega))
        have hs9 := hon9.size
        have HNB : Hid (∀ q, v'.ownBlock = some q → q ≠ K) := fun q hq => by
          rcases hat with h | h
          · exact HNK.out q (by rw [← h]; exact hq)
          · rw [h] at hq; injection hq with hq; try simp at hq
            omega
        clear hown1 hown' hgrow hat y0 y1 y2 yf z0 z1
        obtain ⟨ys, hys⟩ : ∃ ys, ys = acc ++ [fld s6 s7] := ⟨_, rfl⟩
        have hyl : ys.length = acc.length + 1 := by rw [hys]; simp
        have HYL := Lib.hid hyl
        have HYS : Hid (∀ x ∈ ys, SmallF 9 x) := fun x hx => by
          rw [hys] at hx
          rcases List.mem_append.1 hx with h | h
          · exact HACC.out x h
          · rw [List.mem_singleton.1 h]; exact ⟨by show s6.data.toList.length ≤ 9; rw [size_list]; exact g6, by show s7.data.toList.length ≤ 9; rw [size_list]; exact g7⟩
        rw [← hys] at hO9
        have HO9 := Lib.hid hO9
        obtain ⟨a', d', rfl, _, _, _⟩ := hO9.read fldC_len
        have hnK : ∀ q, (Value.slice a' ys.length d').ownBlock = some q → (some K : Option Nat) ≠ some q := fun q hq e => by injection e with e; exact HNB.out q hq e.symm
        have HO10 : Hid (OwnF (w.heap.size + 1) (.slice a' ys.length d') ys (w9.setCell ⟨K, 2, none⟩ (.slice a' ys.length d'))) := OwnR.only HO9.out ((Only.refl (some K) w9).setCell _) hnK
        have HK10 := Lib.hid (HK9.out.set2 (.slice a' ys.length d'))
        have HZ10 : Hid (KF3 (w9.setCell ⟨K, 2, none⟩ (.slice a' ys.length d')) w.heap.size (.string ⟨#[]⟩) (.string ⟨#[]⟩) (.slice none 0 0)) := HZ9.out.off (by omega) _
        have hT9 := hT8.ext hb9
        have hr9 := hr8.belowB hb9 hRl
        have HT10 : Hid (Touch R w (w9.setCell ⟨K, 2, none⟩ (.slice a' ys.length d'))) := hT9.setNew (Nat.le_of_lt hKw) _
        have HR10 : Hid (Rd (w9.setCell ⟨K, 2, none⟩ (.slice a' ys.length d')) R p7) := hr9.belowB ((Below.refl w.heap.size w9).setCell (p := ⟨K, 2, none⟩) (Nat.le_of_lt hKw) _) hRl
        obtain ⟨⟨y0, y1, y2⟩, yf⟩ := HK9.out
        clear hys hO9 hyl hnK
        go_wp2
        go_roundw
        case rel => exact ⟨m - 1, ys, a', d', p7, by omega, by have := HYL.out; omega, rfl, by omega, by omega, HO10.out, HNB.out, HYS.out, HK10.out, HZ10.out, HR10.out, HT10.out, by simp; omega⟩
        case measure => simp [intOf]; omega
      · have d1 : decide (idxI (findN acc s6.data.toList) < 0) = false := by simp; omega
        generalize idxI (findN acc s6.data.toList) = ix at *
        clear hfi
        go_wp2
        go_roundw
        case rel => exact ⟨m - 1, acc, a, d, p7, by omega, by omega, rfl, by omega, by omega, HO8.out, HNK.out, HACC.out, HK8.out, HZ8.out, hr8, hT8, by omega⟩
        case measure => simp [intOf]; omega
    · obtain ⟨⟨y0, y1, y2⟩, yf⟩ := HKK.out
      obtain ⟨⟨z0, z1, z2⟩, zf⟩ := HZZ.out
      have hwl : w.heap.size < wr.heap.size := by omega
      go_wp2
      refine bodyPost_ret (v := .agg #[.string s1, .string s2, .slice a acc.length d]) (by simp [results, Tryd.results44, go_sem, z0, z1, z2]) rfl (drawnK_mk (p' := p') (by omega) (by omega) HACC.out ?_ (by omega) hp1 (by omega) ?_ ?_)
      · exact OwnR.base (ownF_offG (ownF_offG (ownF_offG HOO.out (by omega) 0 _) (by omega) 1 _) (by omega) 2 _) (by omega)
      · exact hrd.belowB ((((Below.refl w.heap.size wr).setCell (p := ⟨w.heap.size, 0, none⟩) (Nat.le_refl _) _).setCell (p := ⟨w.heap.size, 1, none⟩) (Nat.le_refl _) _).setCell (p := ⟨w.heap.size, 2, none⟩) (Nat.le_refl _) _) hRl
      · exact (((ht.setNew (Nat.le_refl _) _).setNew (Nat.le_refl _) _).setNew (Nat.le_refl _) _)
end Go.Proofs.YtfheajfcepcepaaDoor
end

section
namespace Go.Proofs.YtfheajfcepcepaaDoor
open Go.RowKit

theorem RdF.takeN {w : World} {a : Option Addr} {n : Nat} {xs : List Fld} (h : RdF w a n xs) {k : Nat} (hk : k ≤ xs.length) : RdF w a k (xs.take k) := by
  refine ⟨by rw [List.length_take]; omega, ?_⟩
  rcases h.2 with e | ⟨g, off, ha, hb, hx⟩
  · exact .inl (by have := h.1; omega)
  · refine .inr ⟨g, off, ha, hb, fun i hi d v hv => ?_⟩
    rw [List.getElem_take] at hv
    exact hx i (by rw [List.length_take] at hi; omega) d v hv
theorem idxI_neg_dup {xs : List Fld} {i : Nat} (hi : i < xs.length) : parAt xs i = (isSmall xs[i].name && (isText xs[i].val && decide (xs[i].val.length ≤ 40)) && decide (idxI (findN (xs.take i) xs[i].name) < 0)) := by
  rw [parAt_at hi]
  have : (findN (xs.take i) xs[i].name).isNone = decide (idxI (findN (xs.take i) xs[i].name) < 0) := by
    cases findN (xs.take i) xs[i].name with
    | none => rfl
    | some j => rw [idxI_some, decide_eq_false (by omega)]; rfl
  rw [this]; rfl
theorem parAt_small {xs : List Fld} {i : Nat} (hi : i < xs.length) (h : parAt xs i = true) : SmallF 1000 xs[i] := by
  rw [parAt_at hi, Bool.and_eq_true] at h
  obtain ⟨⟨h1, _⟩, _, h3⟩ := parOk_iff.1 h.1
  have := (isFName_iff.1 h1).2.1
  exact ⟨by omega, by omega⟩
theorem parT_size (f : Fld) : ((parT f).length : Int) = 3 + ((str f.name).size : Int) + ((str (quoteW f.val)).size : Int) := by
  rw [str_size, str_size]; unfold parT
  simp only [List.length_cons, List.length_append]; omega
set_option maxRecDepth 100000 in
set_option maxHeartbeats 1600000 in
theorem kindValidS_any (m s : ByteArray) (a : Option Addr) (n c : Nat) (xs : List Fld) (w : World) (hm : m.size ≤ 1073741824) (hs : s.size ≤ 1073741824) (hr : RdF w a n xs) (hnc : n ≤ c) (hn : n ≤ 1073741824) (hx : ∀ x ∈ xs, SmallF 1048576 x) :
    Calls Tryd.prog 13 #[.agg #[.string m, .string s, .slice a n c]] w fun e w' => e = .returned (.bool (isKnd ⟨m.data.toList, s.data.toList, xs⟩)) ∧ Below w.heap.size w w' := by
  have hb0 : Below w.heap.size w (w.alloc (.cells #[.string m, .string s, .slice a n c] 25)) := (Below.refl _ _).alloc (Nat.le_refl _) _
  have HK0 := Lib.hid (KK3.new w (.string m) (.string s) (.slice a n c) 25)
  have HR := Lib.hid (hr.below hb0)
  have HE : Hid (isKnd ⟨m.data.toList, s.data.toList, xs⟩ = (isSmall m.data.toList && (isSmall s.data.toList && (decide (xs.length ≤ 4) && (parsOk xs && decide ((m.size : Int) + s.size + 1 + (parsT xs).length ≤ 150)))))) := by
    show _ = _
    have ht : (textK ⟨m.data.toList, s.data.toList, xs⟩).length = m.size + s.size + 1 + (parsT xs).length := by
      rw [textK_split]
      simp only [List.length_append, List.length_cons, size_list]; omega
    unfold isKnd
    rw [ht]
    have : decide (m.size + s.size + 1 + (parsT xs).length ≤ 150) = decide ((m.size : Int) + s.size + 1 + (parsT xs).length ≤ 150) := decide_eq_decide.2 (by omega)
    rw [this]
  have HSM : Hid (isSmall m.data.toList = true → m.size ≤ 1000) := small_size
  have HSS : Hid (isSmall s.data.toList = true → s.size ≤ 1000) := small_size
  have HLEN := Lib.hid hr.1
  have HX := Lib.hid hx
  have H1 := Lib.hid (fun u => l7Word_any m u hm)
  have H2 := Lib.hid (fun u => l7Word_any s u hs)
  clear hr hx
  generalize isSmall m.data.toList = b1 at *
  generalize isSmall s.data.toList = b2 at *
  generalize hR : isKnd ⟨m.data.toList, s.data.toList, xs⟩ = R at *
  clear hR
  obtain ⟨W0, hW⟩ : ∃ W0, W0 = w.alloc (.cells #[.string m, .string s, .slice a n c] 25) := ⟨_, rfl⟩
  rw [← hW] at hb0 HK0 HR
  have HW := Lib.hid hW
  clear hW
  cases b1
  · go_enter Tryd.func13, Tryd.ntmps13
    go_wp2_with fail
    rw [← HW.out]
    refine (H1.out _).mono ?_
    rintro e w1 ⟨rfl, hb1⟩
    go_wp2
    go_ret
    exact ⟨ret_bool (by rw [HE.out]; rfl), nx hb0 hb1⟩
  · cases b2
    · go_enter Tryd.func13, Tryd.ntmps13
      go_wp2_with fail
      rw [← HW.out]
      refine (H1.out _).mono ?_
      rintro e w1 ⟨rfl, hb1⟩
      obtain ⟨k0, k1, k2⟩ := HK0.out.below hb1
      go_wp2_with fail
      refine (H2.out _).mono ?_
      rintro e w2 ⟨rfl, hb2⟩
      go_wp2
      go_ret
      exact ⟨ret_bool (by rw [HE.out]; rfl), nx hb0 (nx hb1 hb2)⟩
    · have hm1 := HSM.out rfl
      have hs1 := HSS.out rfl
      by_cases h4 : 4 < n
      · have d4 : decide ((4 : Int) < (n : Int)) = true := by simp; omega
        have HV : Hid (R = false) := by show _ = _; rw [HE.out, decide_eq_false (by have := HLEN.out; omega : ¬ xs.length ≤ 4)]; rfl
        clear HE
        go_enter Tryd.func13, Tryd.ntmps13
        go_wp2_with fail
        rw [← HW.out]
        refine (H1.out _).mono ?_
        rintro e w1 ⟨rfl, hb1⟩
        have HK1 := Lib.hid (HK0.out.below hb1)
        obtain ⟨k0, k1, k2⟩ := HK1.out
        go_wp2_with fail
        refine (H2.out _).mono ?_
        rintro e w2 ⟨rfl, hb2⟩
        clear k0 k1 k2
        obtain ⟨k0, k1, k2⟩ := HK1.out.below hb2
        go_wp2
        go_ret
        exact ⟨ret_bool HV.out.symm, nx hb0 (nx hb1 hb2)⟩
      · have d4 : decide ((4 : Int) < (n : Int)) = false := by simp; omega
        have HV : Hid (R = (parsOk xs && decide ((m.size : Int) + s.size + 1 + (parsT xs).length ≤ 150))) := by show _ = _; rw [HE.out, decide_eq_true (by have := HLEN.out; omega : xs.length ≤ 4)]; rfl
        clear HE HSM HSS
        go_enter Tryd.func13, Tryd.ntmps13
        go_wp2_with fail
        rw [← HW.out]
        refine (H1.out _).mono ?_
        rintro e w1 ⟨rfl, hb1⟩
        have HK1 := Lib.hid (HK0.out.below hb1)
        obtain ⟨k0, k1, k2⟩ := HK1.out
        go_wp2_with fail
        refine (H2.out _).mono ?_
        rintro e w2 ⟨rfl, hb2⟩
        clear k0 k1 k2
        obtain ⟨k0, k1, k2⟩ := HK1.out.below hb2
        go_wp2_with fail
        clear k0 k1 k2
        have HK2 := Lib.hid (HK1.out.below hb2)
        have hb02 := nx hb1 hb2
        go_loopw [3, 4] (fun t i wr => ∃ (k : Nat) (S : Int), k ≤ n ∧ i = .int .i64 k ∧ t = .int .i64 S ∧ S = (m.size : Int) + s.size + 1 + ((parsT (xs.take k)).length : Int) ∧ 0 ≤ S ∧ S ≤ 2001 + 1405 * (k : Int) ∧ Below w2.heap.size w2 wr ∧ ∀ j, j < k → parAt xs j = true) (fun _ i _ => n - (intOf i).toNat)
        case atStart => exact ⟨0, _, Nat.zero_le _, rfl, rfl, by rw [List.take_zero]; show _ = _ + ((0 : Nat) : Int); omega, by omega, by omega, Below.refl _ _, fun j hj => by omega⟩
        case round =>
          obtain ⟨k, S, hk, rfl, rfl, hS, hS0, hS1, hb, hall⟩ := hrel
          have HA := Lib.hid hall
          have HSQ := Lib.hid hS
          clear hall hS
          have HK3 := Lib.hid (HK2.out.below hb)
          obtain ⟨k0, k1, k2⟩ := HK3.out
          by_cases hlt : k < n
          · have hkx : k < xs.length := by rw [HLEN.out]; exact hlt
            obtain ⟨b, off, rfl, hbl, hcell⟩ := HR.out.2.resolve_left (by omega)
            obtain ⟨q0, q1⟩ := RdR.fld hcell hkx
            have hbW := nx hb02 hb
            rw [← below_at hbW hbl] at q0 q1
            have HPA := Lib.hid (idxI_neg_dup hkx)
            have HBAD : Hid (parAt xs k = false → parsOk xs = false) := fun h => parsOk_bad hkx h
            have HSF : Hid (parAt xs k = true → SmallF 1000 xs[k]) := parAt_small hkx
            have hsz := HX.out _ (List.getElem_mem hkx)
            have hz0 : (str xs[k].name).size ≤ 1048576 := by rw [str_size]; exact hsz.1
            have hz1 : (str xs[k].val).size ≤ 1048576 := by rw [str_size]; exact hsz.2
            have HVS : Hid ((str xs[k].val).size = xs[k].val.length) := str_size _
            have HS1 : Hid (∀ u, Calls Tryd.prog 30 #[.string (str xs[k].name)] u fun e w' => e = .returned (.bool (isSmall xs[k].name)) ∧ Below u.heap.size u w') := fun u => by
              have := l7Word_any (str xs[k].name) u (by omega)
              rw [str_list] at this; exact this
            have HF1 : Hid (∀ u, Below wr.heap.size wr u → Calls Tryd.prog 32 #[.slice (some ⟨b, off, none⟩) k c, .string (str xs[k].name)] u fun e w' => e = .returned (.int .i64 (idxI (findN (xs.take k) xs[k].name))) ∧ Below u.heap.size u w') := fun u h => by
              have := l3Find_any (some ⟨b, off, none⟩) k c (xs.take k) (str xs[k].name) u (RdF.takeN ((HR.out.below hbW).below h) (k := k) (by omega)) (by omega) (fun x hx => (HX.out x (List.mem_of_mem_take hx)).up (by omega)) (by omega)
              rw [str_list] at this; exact this
            have HT1 : Hid (∀ u, Calls Tryd.prog 31 #[.string (str xs[k].val)] u fun e w' => e = .returned (.bool (isText xs[k].val && decide (xs[k].val.length ≤ 40))) ∧ u = w') := fun u => by
              have := l2Name_any (str xs[k].val) u (by omega)
              rw [str_list] at this; exact this
            have HQ1 : Hid (∀ u, Calls Tryd.prog 27 #[.string (str xs[k].val)] u fun e w' => e = .returned (.string (str (quoteW xs[k].val))) ∧ Below u.heap.size u w') := fun u => by
              have := quoteWordS_any (str xs[k].val) u (by omega)
              rw [str_list] at this; exact this
            have HTS : Hid (((parsT (xs.take (k + 1))).length : Int) = ((parsT (xs.take k)).length : Int) + (3 + ((str xs[k].name).size : Int) + ((str (quoteW xs[k].val)).size : Int))) := by
              show _ = _
              rw [parsT_take xs k hkx, List.length_append, ← parT_size]; omega
            have HPL : Hid (parAt xs k = true → (str xs[k].name).size ≤ 1000) := fun h => by rw [str_size]; exact (HSF.out h).1
            have hql : (str (quoteW xs[k].val)).size ≤ 402 := by rw [str_size]; exact quoteW_len _
            have hbA : Below wr.heap.size wr (wr.alloc (.cells #[.string (str xs[k].name), .string (str xs[k].val)] 45)) := (Below.refl _ _).alloc (Nat.le_refl _) _
            have HKF := Lib.hid (K2.new wr (.string (str xs[k].name)) (.string (str xs[k].val)) 45)
            clear hcell hsz HVS HSF
            generalize idxI (findN (xs.take k) xs[k].name) = J at *
            generalize str (quoteW xs[k].val) = Q at *
            generalize str xs[k].name = N at *
            generalize str xs[k].val = V at *
            generalize (isText xs[k].val && decide (xs[k].val.length ≤ 40)) = c2 at *
            generalize isSmall xs[k].name = c1 at *
            go_wp2_with fail
            generalize hW2 : wr.alloc (.cells #[.string N, .string V] 45) = W2 at *
            clear hW2 k0 k1 k2 q0 q1
            obtain ⟨G, hG⟩ : ∃ G, G = wr.heap.size := ⟨_, rfl⟩
            have z2 := fun (y : BelowT W2) => ((HK3.out.below hbA).below y.below).2.2
            have y0 := fun (y : BelowT W2) => (HKF.out.below y.below).1
            have y1 := fun (y : BelowT W2) => (HKF.out.below y.below).2
            have hk4 : k ≤ 4 := by omega
            cases c1
            · have HP := Lib.hid (HBAD.out (by rw [HPA.out]; rfl))
              refine wp_region_quietB (W := W2) (by kernel_rfl) (by kernel_rfl) (Below.refl _ _) ?_
              repeat (go_big_quiet_step (first
                | (go_at_call 30; exact calls_belowT (HS1.out _))))
              refine wpQuiet_nil ?_
              intro wz hwz
              obtain ⟨x9, rfl⟩ := hwz
              have hbx := nx hb (nx hbA x9.below)
              clear y0 y1 z2
              generalize x9.val = w9 at *
              go_wp2
              go_ret
              exact ⟨ret_bool (by rw [HV.out, HP.out]; rfl), nx hb0 (nx hb02 hbx)⟩
            · cases c2
              · have HP := Lib.hid (HBAD.out (by rw [HPA.out]; rfl))
                refine wp_region_quietB (W := W2) (by kernel_rfl) (by kernel_rfl) (Below.refl _ _) ?_
                repeat (go_big_quiet_step (first
                  | (go_at_call 30; exact calls_belowT (HS1.out _))
                  | (go_at_call 31; exact calls_belowT ((HT1.out _).mono (by rintro e w5 ⟨rfl, rfl⟩; exact ⟨rfl, Below.refl _ _⟩)))))
                refine wpQuiet_nil ?_
                intro wz hwz
                obtain ⟨x9, rfl⟩ := hwz
                have hbx := nx hb (nx hbA x9.below)
                clear y0 y1 z2
                generalize x9.val = w9 at *
                go_wp2
                go_ret
                exact ⟨ret_bool (by rw [HV.out, HP.out]; rfl), nx hb0 (nx hb02 hbx)⟩
              · by_cases hJ : J < 0
                · have dJ : decide (0 ≤ J) = false := by simp; omega
                  have HP : Hid (parAt xs k = true) := by show _ = _; rw [HPA.out, decide_eq_true hJ]; rfl
                  have hN := HPL.out HP.out
                  refine wp_region_quietB (W := W2) (by kernel_rfl) (by kernel_rfl) (Below.refl _ _) ?_
                  repeat (go_big_quiet_step (first
                    | (go_at_call 30; exact calls_belowT (HS1.out _))
                    | (go_at_call 31; exact calls_belowT ((HT1.out _).mono (by rintro e w5 ⟨rfl, rfl⟩; exact ⟨rfl, Below.refl _ _⟩)))
                    | (go_at_call 32; exact calls_belowT (HF1.out _ (nx hbA (BelowT.below _))))))
                  refine wpQuiet_nil ?_
                  intro wz hwz
                  obtain ⟨x9, rfl⟩ := hwz
                  have hbx := nx hbA x9.below
                  have HKG := Lib.hid (HKF.out.below x9.below)
                  clear y0 y1 z2
                  generalize x9.val = w9 at *
                  go_wp2_with fail
                  have y0 := fun (y : BelowT w9) => (HKG.out.below y.below).1
                  have y1 := fun (y : BelowT w9) => (HKG.out.below y.below).2
                  refine wp_region_quietB (W := w9) (by kernel_rfl) (by kernel_rfl) (Below.refl _ _) ?_
                  repeat (go_big_quiet_step (first
                    | (go_at_call 27; exact calls_belowT (HQ1.out _))))
                  refine wpQuiet_nil ?_
                  intro wz hwz
                  obtain ⟨x8, rfl⟩ := hwz
                  have hbz := nx hb (nx hbx x8.below)
                  clear y0 y1
                  generalize x8.val = w8 at *
                  go_wp2
                  go_roundw
                  case rel => exact ⟨k + 1, _, by omega, by go_num, rfl, by rw [HTS.out, HSQ.out]; omega, by omega, by omega, hbz, fun j hj => by
                    by_cases e : j = k
                    · subst e; exact HP.out
                    · exact HA.out j (by omega)⟩
                  case measure => simp [intOf]; omega
                · have dJ : decide (0 ≤ J) = true := by simp; omega
                  have HP := Lib.hid (HBAD.out (by rw [HPA.out, decide_eq_false hJ]; rfl))
                  refine wp_region_quietB (W := W2) (by kernel_rfl) (by kernel_rfl) (Below.refl _ _) ?_
                  repeat (go_big_quiet_step (first
                    | (go_at_call 30; exact calls_belowT (HS1.out _))
                    | (go_at_call 31; exact calls_belowT ((HT1.out _).mono (by rintro e w5 ⟨rfl, rfl⟩; exact ⟨rfl, Below.refl _ _⟩)))
                    | (go_at_call 32; exact calls_belowT (HF1.out _ (nx hbA (BelowT.below _))))))
                  refine wpQuiet_nil ?_
                  intro wz hwz
                  obtain ⟨x9, rfl⟩ := hwz
                  have hbx := nx hb (nx hbA x9.below)
                  clear y0 y1 z2
                  generalize x9.val = w9 at *
                  go_wp2
                  go_ret
                  exact ⟨ret_bool (by rw [HV.out, HP.out]; rfl), nx hb0 (nx hb02 hbx)⟩
          · have HP := Lib.hid (parsOk_good (ps := xs) (fun j hj => HA.out j (by have := HLEN.out; omega)))
            have HF : Hid (R = decide (S ≤ 150)) := by
              show _ = _
              rw [HV.out, HP.out, HSQ.out, List.take_of_length_le (by rw [HLEN.out]; omega)]; rfl
            go_wp2
            go_ret
            exact ⟨ret_bool HF.out.symm, nx hb0 (nx hb02 hb)⟩
end Go.Proofs.YtfheajfcepcepaaDoor
end

section
namespace Go.Proofs.YtfheajfcepcepaaDoor
open Go.RowKit

/-- One field appended to a row of the call's own, as an operation. -/
theorem wp_append_F {o : Oper} {Q : Exit → Act → World → Prop} {K : Act → World → Prop} {a : Act} {w : World} (s x : Operand)
    (ho : o.op = .call { callee := .builtin .append, args := #[s, x], argTypes := #[23, 23] })
    (B : Nat) (v : Value) (xs : List Fld) (f : Fld) (g : Nat) (hs : a.eval s = v) (hx : a.eval x = .slice (some ⟨g, 0, none⟩) 1 1) (hown : OwnF B v xs w)
    (hy0 : w.cell? ⟨g, 0, none⟩ = some (.string (str f.name))) (hy1 : w.cell? ⟨g, 1, none⟩ = some (.string (str f.val))) (hB : B ≤ w.heap.size) (hl : xs.length ≤ 1000000)
    (h : ∀ v' w', OwnF B v' (xs ++ [f]) w' → Below B w w' → K (a.put o.dst v') w') : Oper.wp Tryd.prog o a w K Q := by
  obtain ⟨i0, hi, hz0, hz1, hz2⟩ := info_parts fInfo
  have hown1 := hown
  unfold OwnF OwnR at hown1
  refine wp_append_own w s x 23 ho B 45 i0 (.agg #[.string ⟨#[]⟩, .string ⟨#[]⟩]) 2 32 Tryd.underlying23 hi hz0 hz1 hz2 rfl (by decide) v xs.length (xs.flatMap fldC) hs hown1 ⟨g, 0, none⟩ 1 1 (fldC f) hx rfl ?_ ?_ ?_ ?_ hB ?_
  · intro j u hj
    rw [add0]
    match j, hj with
    | 0, hj => simp [fldC] at hj; subst hj; exact hy0
    | 1, hj => simp [fldC] at hj; subst hj; exact hy1
  · intro u hu; simp [fldC] at hu; rcases hu with rfl | rfl <;> rfl
  · unfold maxLen; omega
  · omega
  · intro v' w' h2 h3 _
    exact h v' w' (OwnR.snoc h2) ((Below.refl _ _).grown h3 hB (fun k hk => (World.ownsRow.lt hown1 k hk).1))
/-- What a cut leaves, and how it stands to the parts. -/
def CutP (s : ByteArray) (c : UInt8) (w : World) (e : Ending) (w' : World) : Prop := ∃ (p r : List UInt8) (more : Bool), e = .returned (.tuple #[.string (str p), .string (str r), .bool more]) ∧ partsU c s.data.toList = restU c more p r ∧ (cutU c s.data.toList = if more then some (p, r) else none) ∧ p.length ≤ s.size ∧ r.length ≤ s.size ∧ (more = true → r.length < s.size) ∧ Below w.heap.size w w'
theorem cutP_of {s : ByteArray} {c : UInt8} {w : World} {e : Ending} {w' : World} (h : CutRetS s c w e w') : CutP s c w e w' := by
  obtain ⟨h1, h2, q, h3⟩ := h
  have hb : Below w.heap.size w w' := by rw [h3]; exact below_drewN (Below.refl _ _) q
  cases hc : cutU c s.data.toList with
  | none =>
    refine ⟨s.data.toList, [], false, ?_, restU_last hc [], by simp [hc], by rw [size_list]; exact Nat.le_refl _, by simp, (fun h => by cases h), hb⟩
    rw [h2 hc, str_of]; rfl
  | some y =>
    obtain ⟨a, d⟩ := y
    have hbd := cutU_bound hc
    rw [size_list] at hbd
    exact ⟨a, d, true, h1 a d hc, restU_cut hc, by simp [hc], by omega, by omega, fun _ => by omega, hb⟩
theorem readPS_cut {l n v : List UInt8} (h : cutU 61 (trimS l) = some (n, v)) : readPS l = match splitW (trimS v) with | some [t] => some ⟨low (trimS n), t⟩ | _ => none := by unfold readPS; rw [h]; rfl
theorem readPS_uncut {l : List UInt8} (h : cutU 61 (trimS l) = none) : readPS l = none := by unfold readPS; rw [h]
theorem okS_cut {h a b : List UInt8} (fs : List Fld) (hc : cutU 47 (trimS h) = some (a, b)) : okS h fs = okK ⟨low a, low b, fs⟩ := by unfold okS headS; rw [hc]; rfl
theorem okS_uncut {h : List UInt8} (fs : List Fld) (hc : cutU 47 (trimS h) = none) : okS h fs = none := by unfold okS headS; rw [hc]; rfl
theorem restU_head {c : UInt8} {m : Bool} {p r : List UInt8} : restU c m p r = p :: (restU c m p r).tail := by cases m <;> rfl
set_option maxRecDepth 100000 in
set_option maxHeartbeats 4000000 in
theorem parseKindS_any (s : ByteArray) (w : World) (hs : s.size ≤ 1073741824) :
    Calls Tryd.prog 17 #[.string s] w (PKRet (parseK s.data.toList) w) := by
  have hb0 : Below w.heap.size w (w.alloc (.cells #[.string ⟨#[]⟩, .string ⟨#[]⟩, .slice none 0 0] 25)) := (Below.refl _ _).alloc (Nat.le_refl _) _
  cases htx : isText s.data.toList
  · have HX := Lib.hid htx
    have HN := Lib.hid (parseK_no htx)
    clear htx
    go_enter Tryd.func17, Tryd.ntmps17
    go_wp2_with fail
    refine (textValidS_any s _ (by unfold maxLen; omega)).mono ?_
    rintro e w1 ⟨rfl, rfl⟩
    rw [HX.out]
    go_wp2
    exact bodyPost_ret (v := .tuple #[.agg #[.string ⟨#[]⟩, .string ⟨#[]⟩, .slice none 0 0], .bool false]) (by simp [results, Tryd.results17, go_sem]) rfl (pkRet_none HN.out hb0)
  · have HX := Lib.hid htx
    have hs2 : s.size ≤ 200 := by have := text_len htx; rw [size_list] at this; exact this
    have HPK := Lib.hid (parseK_textS htx)
    clear htx
    go_enter Tryd.func17, Tryd.ntmps17
    go_wp2_with fail
    refine (textValidS_any s _ (by unfold maxLen; omega)).mono ?_
    rintro e w1 ⟨rfl, rfl⟩
    rw [HX.out]
    go_wp2_with fail
    refine (l2Cut_any s 59 _ (by decide) (by omega)).mono ?_
    intro e w1 hret
    obtain ⟨h, r0, m0, rfl, hpu, _, hpl, hrl, hml, hb1⟩ := cutP_of hret
    have HRS : Hid (∀ fs, mapPS (restU 59 m0 h r0).tail = some fs → parseK s.data.toList = okS h fs) := fun fs hf => by
      rw [HPK.out, readKS_parts (h := h) (ps := (restU 59 m0 h r0).tail) (by rw [hpu]; exact restU_head), hf]; rfl
    have HRN : Hid (mapPS (restU 59 m0 h r0).tail = none → parseK s.data.toList = none) := fun hf => by
      rw [HPK.out, readKS_parts (h := h) (ps := (restU 59 m0 h r0).tail) (by rw [hpu]; exact restU_head), hf]; rfl
    have HST : Hid (goesK (restU 59 m0 h r0).tail [] m0 r0) := goesK_start
    clear hpu hret
    generalize (restU 59 m0 h r0).tail = ps at *
    have hzh : (str h).size ≤ 200 := by rw [str_size]; omega
    have hzr : (str r0).size ≤ 200 := by rw [str_size]; omega
    have htl := trimS_len h
    have hzt : (str (trimS h)).size ≤ 200 := by rw [str_size]; omega
    have HTR : Hid (∀ u : World, Calls Tryd.prog 47 #[.string (str h)] u fun e w' => e = .returned (.string (str (trimS h))) ∧ Below u.heap.size u w') := fun u => by
      have := l2Trim_any (str h) u (by omega)
      rw [str_list] at this
      exact this.mono fun _ _ ⟨h1, h2⟩ => ⟨h1, by rw [← h2]; exact Below.refl _ _⟩
    have HTL : Hid ((str (trimS h)).data.toList = trimS h) := str_list _
    have hb01 := nx hb0 hb1
    have hl1 : w.heap.size < w1.heap.size := by have := hb1.size; simp at this; omega
    have HZ1 : Hid ((∀ i, w1.cell? ⟨w.heap.size, i, none⟩ = #[Value.string ⟨#[]⟩, .string ⟨#[]⟩, .slice none 0 0][i]?) ∧ ∀ i, w1.frozen? ⟨w.heap.size, i, none⟩ = false) := by
      obtain ⟨q1, q2, _⟩ := fresh1 hb1
      exact ⟨q1, q2⟩
    clear htl
    generalize hHS : str h = HS at *
    generalize hTT : str (trimS h) = TT at *
    clear hHS hTT
    go_wp2_with fail
    refine (HTR.out _).mono ?_
    rintro e w2 ⟨rfl, hb2⟩
    go_wp2_with fail
    refine (l2Cut_any TT 47 _ (by decide) (by omega)).mono ?_
    intro e w3 hret
    obtain ⟨ma, su, ok, rfl, _, hcu, hpl2, hrl2, _, hb3⟩ := cutP_of hret
    rw [HTL.out] at hcu
    have HCU := Lib.hid hcu
    clear hret hcu
    have hzm : (str ma).size ≤ 200 := by rw [str_size]; omega
    have hzs : (str su).size ≤ 200 := by rw [str_size]; omega
    have HL1 : Hid (∀ u : World, Calls Tryd.prog 48 #[.string (str ma)] u fun e w' => e = .returned (.string (str (low ma))) ∧ Below u.heap.size u w') := fun u => by
      have := lowerTextS_any (str ma) u (by omega)
      rw [lowS_str] at this; exact this
    have HL2 : Hid (∀ u : World, Calls Tryd.prog 48 #[.string (str su)] u fun e w' => e = .returned (.string (str (low su))) ∧ Below u.heap.size u w') := fun u => by
      have := lowerTextS_any (str su) u (by omega)
      rw [lowS_str] at this; exact this
    have hm1 : (str (low ma)).size ≤ 200 := by rw [str_size, low_len]; omega
    have hm2 : (str (low su)).size ≤ 200 := by rw [str_size, low_len]; omega
    have HM1 : Hid ((str (low ma)).data.toList = low ma ∧ (str (low su)).data.toList = low su) := ⟨str_list _, str_list _⟩
    generalize hMM : str (low ma) = MM at *
    generalize hSS : str (low su) = SS at *
    have HMM := Lib.hid hMM
    have HSS := Lib.hid hSS
    clear hMM hSS
    generalize str ma = m9 at *
    generalize str su = s9 at *
    go_wp2_with fail
    refine (HL1.out _).mono ?_
    rintro e w4 ⟨rfl, hb4⟩
    go_wp2_with fail
    refine (HL2.out _).mono ?_
    rintro e w5 ⟨rfl, hb5⟩
    have hb15 := nx (nx (nx hb2 hb3) hb4) hb5
    have hl5 : w.heap.size < w5.heap.size := Nat.lt_of_lt_of_le hl1 hb15.size
    have hA5 : Below w5.heap.size w5 (w5.alloc (.cells #[.string MM, .string SS, .slice none 0 0] 25)) := (Below.refl _ _).alloc (Nat.le_refl _) _
    go_wp2_with fail
    have hbA0 := nx hb01 (nx hb15 hA5)
    generalize hWK : w5.alloc (.cells #[.string MM, .string SS, .slice none 0 0] 25) = WK at *
    have cK : ∀ i, WK.cell? ⟨w5.heap.size, i, none⟩ = #[Value.string MM, .string SS, .slice none 0 0][i]? := fun i => by
      rw [← hWK, World.cell?_alloc_at _ _ _ _ rfl]
    have fK : ∀ i, WK.frozen? ⟨w5.heap.size, i, none⟩ = false := fun i => by
      rw [← hWK, World.frozen?_alloc_at _ _ _ _ rfl]
    have hlK : w5.heap.size < WK.heap.size := by rw [← hWK]; simp
    obtain ⟨K, hK⟩ : ∃ K, K = w5.heap.size := ⟨_, rfl⟩
    rw [← hK] at cK fK hlK hl5 hA5
    have HCW : Hid (∀ u, Below K WK u → (∀ i, u.cell? ⟨w.heap.size, i, none⟩ = #[Value.string ⟨#[]⟩, .string ⟨#[]⟩, .slice none 0 0][i]?) ∧ (∀ i, u.frozen? ⟨w.heap.size, i, none⟩ = false) ∧ Below w.heap.size w u) := fun u hu => by
      have h4K : Below w1.heap.size w1 WK := nx hb15 (by rw [hK] at hA5; exact hA5)
      refine ⟨fun i => ?_, fun i => ?_, ?_⟩
      · rw [below_at hu hl5, below_at h4K hl1]; exact HZ1.out.1 i
      · rw [below_fz hu hl5, below_fz h4K hl1]; exact HZ1.out.2 i
      · exact hbA0.trans (hu.mono (Nat.le_of_lt hl5))
    rw [← hK]
    have hKw := hl5
    clear hWK hK hb2 hb3 hb4 hb5 hb15 hA5 HZ1 hbA0 hb01 hb1 hb0 hl5
    have HRP := Lib.hid hrl
    have HMI := Lib.hid hml
    clear hml hrl
    go_loopw [5, 6] (fun r m wr => ∃ (rl : List UInt8) (mb : Bool) (acc : List Fld) (a : Option Addr) (d : Nat), r = .string (str rl) ∧ m = .bool mb ∧ rl.length ≤ s.size ∧ (mb = true → acc.length + rl.length + 1 ≤ s.size) ∧ acc.length ≤ s.size ∧ goesK ps acc mb rl ∧ (∀ x ∈ acc, SmallF 200 x) ∧ OwnF (K + 1) (.slice a acc.length d) acc wr ∧ wr.cell? ⟨K, 0, none⟩ = some (.string MM) ∧ wr.cell? ⟨K, 1, none⟩ = some (.string SS) ∧ wr.cell? ⟨K, 2, none⟩ = some (.slice a acc.length d) ∧ wr.frozen? ⟨K, 2, none⟩ = false ∧ Below K WK wr ∧ K < wr.heap.size) (fun r m _ => match m with | .bool true => Lib.strSize r + 1 | _ => 0)
    case atStart => exact ⟨r0, m0, [], none, 0, rfl, rfl, HRP.out, (fun h => by have := HMI.out h; simp; omega), by simp, HST.out, (fun x hx => by cases hx), OwnR.nil _ _ _ _ _, cK 0, cK 1, cK 2, fK 2, Below.refl _ _, hlK⟩
    case round =>
      obtain ⟨rl, mb, acc, a, d, rfl, rfl, hrl, hmb, hal, hg, hsm, hown, k0, k1, k2, kf, hb, hKr⟩ := hrel
      have HG := Lib.hid hg
      have HSM := Lib.hid hsm
      clear hg hsm cK fK
      cases mb
      · have HMP := Lib.hid (goesK_end HG.out)
        have HKK := Lib.hid (HRS.out acc HMP.out)
        have HOWN := Lib.hid hown
        obtain ⟨a0, d0, hv0, hrd, _, hcap⟩ := hown.read fldC_len
        injection hv0 with e1 _ e3
        subst e1 e3
        have HRD := Lib.hid hrd
        have hKV : Hid (∀ u, Below K WK u → RdF u a acc.length acc → Calls Tryd.prog 13 #[.agg #[.string MM, .string SS, .slice a acc.length d]] u fun e w' => e = .returned (.bool (isKnd ⟨low ma, low su, acc⟩)) ∧ Below u.heap.size u w') := fun u _ hr => by
          have := kindValidS_any MM SS a acc.length d acc u (by omega) (by omega) hr hcap (by omega) (fun x hx => (HSM.out x hx).up (by omega))
          rw [HM1.out.1, HM1.out.2] at this; exact this
        obtain ⟨cZ, fZ, hBZ⟩ := HCW.out _ hb
        have hlz : w.heap.size < wr.heap.size := Nat.lt_trans hKw hKr
        have HMK : Hid (MM = str (Knd.mk (low ma) (low su) acc).main ∧ SS = str (Knd.mk (low ma) (low su) acc).sub) := ⟨HMM.out.symm, HSS.out.symm⟩
        clear hown hrd hmb hrl
        cases ok
        · have HN : Hid (parseK s.data.toList = none) := by show _ = _; rw [HKK.out]; exact okS_uncut acc HCU.out
          clear HKK hKV
          go_wp2
          refine bodyPost_ret (v := .tuple #[.agg #[.string ⟨#[]⟩, .string ⟨#[]⟩, .slice none 0 0], .bool false]) (by simp [results, Tryd.results17, go_sem, cZ]) rfl (pkRet_none HN.out ?_)
          exact (((hBZ.setCell (by simp) _).setCell (by simp) _).setCell (by simp) _)
        · have HKL : Hid (parseK s.data.toList = okK ⟨low ma, low su, acc⟩) := by show _ = _; rw [HKK.out]; exact okS_cut acc HCU.out
          clear HKK
          cases hkn : isKnd ⟨low ma, low su, acc⟩
          · have HN : Hid (parseK s.data.toList = none) := by show _ = _; rw [HKL.out]; exact okK_no hkn
            rw [hkn] at hKV
            clear hkn
            go_wp2_with fail
            refine (hKV.out _ hb HRD.out).mono ?_
            rintro e w8 ⟨rfl, hb8⟩
            have cZ8 : ∀ i, w8.cell? ⟨w.heap.size, i, none⟩ = #[Value.string ⟨#[]⟩, .string ⟨#[]⟩, .slice none 0 0][i]? := fun i => (below_at hb8 hlz).trans (cZ i)
            have fZ8 : ∀ i, w8.frozen? ⟨w.heap.size, i, none⟩ = false := fun i => (below_fz hb8 hlz).trans (fZ i)
            clear cZ fZ
            go_wp2
            refine bodyPost_ret (v := .tuple #[.agg #[.string ⟨#[]⟩, .string ⟨#[]⟩, .slice none 0 0], .bool false]) (by simp [results, Tryd.results17, go_sem, cZ8]) rfl (pkRet_none HN.out ?_)
            exact ((((hBZ.trans (hb8.mono (Nat.le_of_lt hlz))).setCell (by simp) _).setCell (by simp) _).setCell (by simp) _)
          · have HN : Hid (parseK s.data.toList = some ⟨low ma, low su, acc⟩) := by show _ = _; rw [HKL.out]; exact okK_yes hkn
            rw [hkn] at hKV
            clear hkn
            go_wp2_with fail
            refine (hKV.out _ hb HRD.out).mono ?_
            rintro e w8 ⟨rfl, hb8⟩
            have cZ8 : ∀ i, w8.cell? ⟨w.heap.size, i, none⟩ = #[Value.string ⟨#[]⟩, .string ⟨#[]⟩, .slice none 0 0][i]? := fun i => (below_at hb8 hlz).trans (cZ i)
            have fZ8 : ∀ i, w8.frozen? ⟨w.heap.size, i, none⟩ = false := fun i => (below_fz hb8 hlz).trans (fZ i)
            have k08 := (below_at hb8 hKr).trans k0
            have k18 := (below_at hb8 hKr).trans k1
            have k28 := (below_at hb8 hKr).trans k2
            have HO8 := Lib.hid (HOWN.out.keep hb8)
            have hlz8 : w.heap.size < w8.heap.size := Nat.lt_of_lt_of_le hlz hb8.size
            clear cZ fZ k0 k1 k2
            go_wp2
            refine bodyPost_ret (v := .tuple #[.agg #[.string MM, .string SS, .slice a acc.length d], .bool true]) (by simp [results, Tryd.results17, go_sem, cZ8]) rfl (pkRet_some HN.out HMK.out.1 HMK.out.2 ?_ ?_)
            · exact OwnR.base (ownF_offG (ownF_offG (ownF_offG HO8.out (by omega) 0 _) (by omega) 1 _) (by omega) 2 _) (by omega)
            · exact ((((hBZ.trans (hb8.mono (Nat.le_of_lt hlz))).setCell (by simp) _).setCell (by simp) _).setCell (by simp) _)
      · have hmb' := hmb rfl
        have hzl : (str rl).size ≤ 200 := by rw [str_size]; omega
        have HRL : Hid ((str rl).data.toList = rl ∧ (str rl).size = rl.length) := ⟨str_list _, str_size _⟩
        have HRZ : Hid (Lib.strSize (.string (str rl)) = (str rl).size) := rfl
        clear hmb
        generalize str rl = RL at *
        go_wp2_with fail
        refine (l2Cut_any RL 59 _ (by decide) (by omega)).mono ?_
        intro e w6 hret
        obtain ⟨pl, r1, m1, rfl, hpu, _, hpl3, hrl3, hml3, hb6⟩ := cutP_of hret
        rw [HRL.out.1] at hpu
        have HPU := Lib.hid hpu
        have hzp : (str pl).size ≤ 200 := by rw [str_size]; omega
        have HPS : Hid (readPS pl = none → parseK s.data.toList = none) := fun h => HRN.out (goesK_bad HG.out HPU.out h)
        have HPN : Hid (∀ f, readPS pl = some f → goesK ps (acc ++ [f]) m1 r1 ∧ SmallF 200 f) := fun f h => ⟨goesK_next HG.out HPU.out h, (readPS_small h).up (by rw [str_size] at hzp; exact hzp)⟩
        have hb06 : Below K WK w6 := hb.trans (hb6.mono (Nat.le_of_lt hKr))
        have hzt6 : (str (trimS pl)).size ≤ 200 := by rw [str_size] at hzp ⊢; have := trimS_len pl; omega
        have HTP : Hid (∀ u : World, Calls Tryd.prog 47 #[.string (str pl)] u fun e w' => e = .returned (.string (str (trimS pl))) ∧ Below u.heap.size u w') := fun u => by
          have := l2Trim_any (str pl) u (by omega)
          rw [str_list] at this
          exact this.mono fun _ _ ⟨h1, h2⟩ => ⟨h1, by rw [← h2]; exact Below.refl _ _⟩
        have HTL6 : Hid ((str (trimS pl)).data.toList = trimS pl) := str_list _
        clear hret hpu
        generalize str pl = PL at *
        generalize str (trimS pl) = TP at *
        go_wp2_with fail
        refine (HTP.out _).mono ?_
        rintro e w7 ⟨rfl, hb7⟩
        go_wp2_with fail
        refine (l2Cut_any TP 61 _ (by decide) (by omega)).mono ?_
        intro e w8 hret
        obtain ⟨na, va, fi, rfl, _, hcu, hpl4, hrl4, _, hb8⟩ := cutP_of hret
        rw [HTL6.out] at hcu
        have HCP := Lib.hid hcu
        clear hret hcu
        have hzn : (str na).size ≤ 200 := by rw [str_size]; omega
        have hzv : (str va).size ≤ 200 := by rw [str_size]; omega
        have HTV : Hid (∀ u : World, Calls Tryd.prog 47 #[.string (str va)] u fun e w' => e = .returned (.string (str (trimS va))) ∧ Below u.heap.size u w') := fun u => by
          have := l2Trim_any (str va) u (by omega)
          rw [str_list] at this
          exact this.mono fun _ _ ⟨h1, h2⟩ => ⟨h1, by rw [← h2]; exact Below.refl _ _⟩
        have hzw : (str (trimS va)).size ≤ 200 := by rw [str_size] at hzv ⊢; have := trimS_len va; omega
        have HWV : Hid (∀ u : World, Calls Tryd.prog 49 #[.string (str (trimS va))] u fun e w' => ∃ v, e = .returned (.tuple #[v, .bool (splitW (trimS va)).isSome]) ∧ OwnL u.heap.size v ((splitW (trimS va)).getD []) w' ∧ Below u.heap.size u w') := fun u => by
          have := l1Words_any (str (trimS va)) u (by omega)
          unfold WordsRet at this
          rw [str_list] at this; exact this
        have HTN : Hid (∀ u : World, Calls Tryd.prog 47 #[.string (str na)] u fun e w' => e = .returned (.string (str (trimS na))) ∧ Below u.heap.size u w') := fun u => by
          have := l2Trim_any (str na) u (by omega)
          rw [str_list] at this
          exact this.mono fun _ _ ⟨h1, h2⟩ => ⟨h1, by rw [← h2]; exact Below.refl _ _⟩
        have HLN : Hid (∀ u : World, Calls Tryd.prog 48 #[.string (str (trimS na))] u fun e w' => e = .returned (.string (str (low (trimS na)))) ∧ Below u.heap.size u w') := fun u => by
          have := lowerTextS_any (str (trimS na)) u (by rw [str_size] at hzn ⊢; have := trimS_len na; omega)
          rw [lowS_str] at this; exact this
        generalize str va = VA at *
        generalize str (trimS va) = VT at *
        go_wp2_with fail
        refine (HTV.out _).mono ?_
        rintro e w9 ⟨rfl, hb9⟩
        go_wp2_with fail
        refine (HWV.out _).mono ?_
        rintro e w10 ⟨v10, rfl, ho10, hb10⟩
        have hbr := nx (nx (nx (nx hb6 hb7) hb8) hb9) hb10
        have hBr : Below K WK w10 := hb.trans (hbr.mono (Nat.le_of_lt hKr))
        obtain ⟨cZ, fZ, hBZ⟩ := HCW.out _ hBr
        have hK10 : K < w10.heap.size := Nat.lt_of_lt_of_le hKr hbr.size
        have hlz : w.heap.size < w10.heap.size := Nat.lt_trans hKw hK10
        obtain ⟨a10, d10, rfl, hr10, hm10⟩ := ho10.read
        have HR10 := Lib.hid hr10
        clear hb6 hb7 hb8 hb9 hb10 ho10 hr10
        cases fi
        · have HN : Hid (parseK s.data.toList = none) := HPS.out (readPS_uncut HCP.out)
          clear HWV HTN HLN HPN
          go_wp2
          refine bodyPost_ret (v := .tuple #[.agg #[.string ⟨#[]⟩, .string ⟨#[]⟩, .slice none 0 0], .bool false]) (by simp [results, Tryd.results17, go_sem, cZ]) rfl (pkRet_none HN.out ?_)
          exact (((hBZ.setCell (by simp) _).setCell (by simp) _).setCell (by simp) _)
        · have HRD := Lib.hid (readPS_cut HCP.out)
          cases hsw : splitW (trimS va) with
          | none =>
            have HN : Hid (parseK s.data.toList = none) := HPS.out (by rw [HRD.out, hsw])
            simp only [Option.getD_none, Option.isSome_none, List.length_nil]
            clear hsw
            clear HWV HTN HLN HPN
            go_wp2
            refine bodyPost_ret (v := .tuple #[.agg #[.string ⟨#[]⟩, .string ⟨#[]⟩, .slice none 0 0], .bool false]) (by simp [results, Tryd.results17, go_sem, cZ]) rfl (pkRet_none HN.out ?_)
            exact (((hBZ.setCell (by simp) _).setCell (by simp) _).setCell (by simp) _)
          | some xs =>
            rw [hsw] at HR10 hm10
            simp only [Option.getD_some, Option.isSome_some]
            have HR11 : Hid (RdL w10 a10 xs.length xs) := HR10.out
            by_cases h1 : xs.length = 1
            · match xs, h1 with
              | [t], _ =>
              have HSP : Hid (readPS pl = some ⟨low (trimS na), t⟩) := by show _ = _; rw [HRD.out, hsw]
              obtain ⟨hgn, hsf⟩ := HPN.out _ HSP.out
              have HGN := Lib.hid hgn
              have HSF := Lib.hid hsf
              obtain ⟨b, off, rfl, hbl, hcell⟩ := HR11.out.2.resolve_left (by simp)
              have hq := hcell 0 (by simp)
              rw [Nat.add_zero] at hq
              replace hq : w10.cell? ⟨b, off, none⟩ = some (.string (str t)) := hq
              have k010 := (below_at hbr hKr).trans k0
              have k110 := (below_at hbr hKr).trans k1
              have k210 := (below_at hbr hKr).trans k2
              have kf10 := (below_fz hbr hKr).trans kf
              have HO10 := Lib.hid (hown.keep hbr)
              have HFE : Hid (str (low (trimS na)) = str (Fld.mk (low (trimS na)) t).name ∧ str t = str (Fld.mk (low (trimS na)) t).val) := ⟨rfl, rfl⟩
              obtain ⟨f, hf⟩ : ∃ f, f = Fld.mk (low (trimS na)) t := ⟨_, rfl⟩
              rw [← hf] at HFE HGN HSF
              have HFA := Lib.hid HFE.out.1
              have HFB := Lib.hid HFE.out.2
              clear HFE hf
              generalize hLN : str (low (trimS na)) = LN at *
              generalize hTV : str t = TV at *
              generalize str (trimS na) = TN at *
              generalize str na = NA at *
              have HB : Hid (∀ u, Below w10.heap.size w10 u → u.cell? ⟨K, 2, none⟩ = some (.slice a acc.length d) ∧ u.cell? ⟨b, off, none⟩ = some (.string TV)) := fun u hu => ⟨(below_at hu hK10).trans k210, (below_at hu hbl).trans hq⟩
              clear hcell hgn hsf k0 k1 k2 kf hown hsw hLN hTV cZ fZ
              go_wp2_with fail
              refine wp_region_tail (by kernel_rfl) ?_
              refine wpAny_tail (fuel := 10) (tf := 3) [10, 11, 12] (by kernel_rfl) ?_
              refine wpAnyZ_take (fuel := 1) [true, true, true, true, true, true, true, true, true] (by kernel_rfl) (by kernel_rfl) (by rfl) (by kernel_rfl) (by kernel_rfl) (by kernel_rfl) ?_
              apply Exists.intro
              refine ⟨fun x => ?_, ?_⟩
              · have y0 := fun (y : BelowT x.val) => (HB.out y.val (nx ((Below.refl _ _).drew) (nx x.below y.below))).1
                have y1 := fun (y : BelowT x.val) => (HB.out y.val (nx ((Below.refl _ _).drew) (nx x.below y.below))).2
                simp only [pickL]
                repeat (go_big_quiet_step (first
                  | (go_at_call 47; exact calls_belowT (HTN.out _))
                  | (go_at_call 48; exact calls_belowT (HLN.out _))))
                exact wpQuiet_nil rfl
              refine wpAnyZ_one (m := 9) (by kernel_rfl) (fun u1 g1 => ?_)
              refine wpOp_at (o := _) (by rfl) (by rfl) ?_
              go_simp
              refine ⟨(Below.refl _ _).alloc (Nat.le_refl _) _, ?_⟩
              try simp only [Act.put, List.setIfInBounds_toArray, List.set_cons_zero, List.set_cons_succ]
              have hg1 : Below w10.heap.size w10 u1 := nx ((Below.refl _ _).drew) g1
              have HA1 : Hid (Below w10.heap.size w10 (u1.alloc (.cells #[.string LN, .string TV] 45))) := nx hg1 ((Below.refl _ _).alloc (Nat.le_refl _) _)
              have hnew0 : (u1.alloc (.cells #[.string LN, .string TV] 45)).cell? ⟨u1.heap.size, 0, none⟩ = some (.string LN) := by rw [World.cell?_alloc_at _ _ _ _ rfl]; rfl
              have hnew1 : (u1.alloc (.cells #[.string LN, .string TV] 45)).cell? ⟨u1.heap.size, 1, none⟩ = some (.string TV) := by rw [World.cell?_alloc_at _ _ _ _ rfl]; rfl
              have hnl : u1.heap.size < (u1.alloc (.cells #[.string LN, .string TV] 45)).heap.size := by simp
              generalize hU : u1.alloc (.cells #[.string LN, .string TV] 45) = U1 at *
              clear hU
              refine wpAnyZ_rest (by kernel_rfl) (fun u2 g2 => ?_)
              have HB2 : Hid (Below w10.heap.size w10 u2) := nx HA1.out g2
              have hB2 : Below K WK u2 := hBr.trans (HB2.out.mono (Nat.le_of_lt hK10))
              have k02 := (below_at HB2.out hK10).trans k010
              have k12 := (below_at HB2.out hK10).trans k110
              have k22 := (below_at HB2.out hK10).trans k210
              have kf2 := (below_fz HB2.out hK10).trans kf10
              have hK2 : K < u2.heap.size := Nat.lt_of_lt_of_le hK10 HB2.out.size
              have hO2 := HO10.out.keep HB2.out
              refine wpAny_one (m := 10) (by kernel_rfl) ?_
              refine wpOp_at (o := _) (by rfl) (by rfl) ?_
              refine wp_append_F _ _ rfl (K + 1) _ acc f u1.heap.size rfl rfl hO2 (by rw [below_at g2 hnl, hnew0, HFA.out]) (by rw [below_at g2 hnl, hnew1, HFB.out]) hK2 (by omega) ?_
              intro v3 u3 hO3 hb3
              have hB3 : Below K WK u3 := hB2.trans (hb3.mono (by omega))
              have k03 := (below_at hb3 (by omega)).trans k02
              have k13 := (below_at hb3 (by omega)).trans k12
              have k23 := (below_at hb3 (by omega)).trans k22
              have kf3 := (below_fz hb3 (by omega)).trans kf2
              have hK3 : K < u3.heap.size := Nat.lt_of_lt_of_le hK2 hb3.size
              obtain ⟨ys, hys⟩ : ∃ ys, ys = acc ++ [f] := ⟨_, rfl⟩
              have hyl : ys.length = acc.length + 1 := by rw [hys]; simp
              have HYL := Lib.hid hyl
              have HYS : Hid (∀ x ∈ ys, SmallF 200 x) := fun x hx => by
                rw [hys] at hx
                rcases List.mem_append.1 hx with h | h
                · exact HSM.out x h
                · rw [List.mem_singleton.1 h]; exact HSF.out
              rw [← hys] at hO3 HGN
              have HO3 := Lib.hid hO3
              obtain ⟨a', d', rfl, _, _, _⟩ := hO3.read fldC_len
              have HO4 := Lib.hid (ownF_off HO3.out 2 (.slice a' ys.length d'))
              clear hys hO3 hyl k010 k110 k210 kf10 k02 k12 k22 kf2 hO2 hb3 hB2 hnew0 hnew1
              try simp only [Act.put, List.setIfInBounds_toArray]
              refine wpAny_one (m := 11) (by kernel_rfl) ?_
              refine wpOp_at (o := _) (by rfl) (by rfl) ?_
              go_simp
              try simp only [Act.put, List.setIfInBounds_toArray, List.set_cons_zero, List.set_cons_succ]
              refine wpAny_one (m := 12) (by kernel_rfl) ?_
              refine wpOp_at (o := _) (by rfl) (by rfl) ?_
              go_simp
              try simp only [Act.put]
              refine wpAny_end (by kernel_rfl) ?_ _
              have hz1 : (str r1).size = r1.length := str_size r1
              have hz2 := HRL.out.2
              go_wp2
              go_roundw
              case rel => exact ⟨r1, m1, ys, a', d', rfl, rfl, by omega, (fun h => by have := hml3 h; have := HYL.out; omega), by have := HYL.out; omega, HGN.out, HYS.out, HO4.out, (cell_off (by omega) _).trans k03, (cell_off (by omega) _).trans k13, cell_same k23 _, (World.frozen?_setCell _ _ _ _).trans kf3, hB3.setCell (Nat.le_refl _) _, by simpa using hK3⟩
              case measure =>
                cases m1
                · simp
                · have := hml3 rfl
                  show Lib.strSize (.string (str r1)) + 1 < Lib.strSize (.string RL) + 1
                  rw [Lib.strSize_string, Lib.strSize_string, str_size]; omega
            · have hne : ((xs.length : Int) != 1) = true := by rw [bne_iff_ne]; omega
              have HN : Hid (parseK s.data.toList = none) := HPS.out (by
                rw [HRD.out, hsw]
                match xs, h1 with
                | [], _ => rfl
                | _ :: _ :: _, _ => rfl)
              clear hsw
              clear HWV HTN HLN HPN
              go_wp2
              refine bodyPost_ret (v := .tuple #[.agg #[.string ⟨#[]⟩, .string ⟨#[]⟩, .slice none 0 0], .bool false]) (by simp [results, Tryd.results17, go_sem, cZ]) rfl (pkRet_none HN.out ?_)
              exact (((hBZ.setCell (by simp) _).setCell (by simp) _).setCell (by simp) _)
end Go.Proofs.YtfheajfcepcepaaDoor
end

section
namespace Go.Proofs.YtfheajfcepcepaaDoor
open Go.RowKit

theorem part_strS (T N Q : ByteArray) (l : List UInt8) (f : Fld) (hT : T = str l) (hN : N = str f.name) (hQ : Q = str (quoteW f.val)) : T ++ (⟨#[59, 32]⟩ : ByteArray) ++ N ++ (⟨#[61]⟩ : ByteArray) ++ Q = str (l ++ parT f) := by
  subst hT hN hQ
  apply bytes_ext
  rw [str_list]
  simp only [Joins.data_append, str_list]
  unfold parT; simp
set_option maxRecDepth 100000 in
set_option maxHeartbeats 1000000 in
theorem formatKindS_any (m s : ByteArray) (a : Option Addr) (n c : Nat) (xs : List Fld) (w : World) (hm : m.size ≤ 1073741824) (hs : s.size ≤ 1073741824) (hr : RdF w a n xs) (hnc : n ≤ c) (hn : n ≤ 1073741824) (hx : ∀ x ∈ xs, SmallF 1048576 x) :
    Calls Tryd.prog 11 #[.agg #[.string m, .string s, .slice a n c]] w fun e w' => e = .returned (.string (str (fmtK ⟨m.data.toList, s.data.toList, xs⟩))) ∧ Below w.heap.size w w' := by
  have hb0 : Below w.heap.size w (w.alloc (.cells #[.string m, .string s, .slice a n c] 25)) := (Below.refl _ _).alloc (Nat.le_refl _) _
  have HK0 := Lib.hid (KK3.new w (.string m) (.string s) (.slice a n c) 25)
  have HV := Lib.hid (kindValidS_any m s a n c xs _ hm hs (hr.below hb0) hnc hn hx)
  cases hv : isKnd ⟨m.data.toList, s.data.toList, xs⟩
  · have HF : Hid (str (fmtK ⟨m.data.toList, s.data.toList, xs⟩) = ⟨#[]⟩) := by show _ = _; rw [fmtK_no hv]; rfl
    rw [hv] at HV
    clear hv
    go_enter Tryd.func11, Tryd.ntmps11
    go_wp2_with fail
    refine (HV.out).mono ?_
    rintro e w1 ⟨rfl, hb1⟩
    go_wp2
    go_ret
    exact ⟨ret_str HF.out.symm, nx hb0 hb1⟩
  · have HFT : Hid (str (fmtK ⟨m.data.toList, s.data.toList, xs⟩) = str (textK ⟨m.data.toList, s.data.toList, xs⟩)) := by show _ = _; rw [fmtK_val hv]
    obtain ⟨h1, h2, h3, h4, h5⟩ := isKnd_iff.1 hv
    have hm1 := small_size h1
    have hs1 := small_size h2
    have hn4 : n ≤ 4 := by have := hr.1; have : xs.length ≤ 4 := h3; omega
    have HX := Lib.hid (parsOk_small h4)
    rw [hv] at HV
    have HR := Lib.hid (hr.below hb0)
    have HLEN := Lib.hid hr.1
    have HD : Hid (m ++ ⟨#[47]⟩ ++ s = str (m.data.toList ++ 47 :: s.data.toList)) := by
      show _ = _
      apply bytes_ext
      rw [str_list]
      simp only [Joins.data_append]
      simp
    have HTX : Hid (textK ⟨m.data.toList, s.data.toList, xs⟩ = (m.data.toList ++ 47 :: s.data.toList) ++ parsT xs) := textK_split _
    have hz1 : (⟨#[47]⟩ : ByteArray).size = 1 := rfl
    have hz2 : (⟨#[59, 32]⟩ : ByteArray).size = 2 := rfl
    have hz3 : (⟨#[61]⟩ : ByteArray).size = 1 := rfl
    clear hv h1 h2 h3 h4 h5 hr hx hm hs
    generalize hl : m.data.toList ++ 47 :: s.data.toList = l0 at *
    have HLL := Lib.hid hl
    clear hl
    go_enter Tryd.func11, Tryd.ntmps11
    go_wp2_with fail
    generalize hW : w.alloc (.cells #[.string m, .string s, .slice a n c] 25) = W0 at *
    clear hW
    refine (HV.out).mono ?_
    rintro e w1 ⟨rfl, hb1⟩
    have HK1 := Lib.hid (HK0.out.below hb1)
    obtain ⟨k0, k1, k2⟩ := HK1.out
    go_wp2_with fail
    clear k0 k1 k2
    go_loopw [3, 4] (fun t i wr => ∃ (k : Nat) (T : ByteArray), k ≤ n ∧ i = .int .i64 k ∧ t = .string T ∧ T = str (l0 ++ parsT (xs.take k)) ∧ T.size ≤ 2001 + 1405 * k ∧ Below w1.heap.size w1 wr) (fun _ i _ => n - (intOf i).toNat)
    case atStart => exact ⟨0, _, Nat.zero_le _, rfl, rfl, by rw [List.take_zero]; show m ++ ⟨#[47]⟩ ++ s = str (l0 ++ []); rw [List.append_nil]; exact HD.out, by show (m ++ (⟨#[47]⟩ : ByteArray) ++ s).size ≤ _; rw [ByteArray.size_append, ByteArray.size_append, hz1]; omega, Below.refl _ _⟩
    case round =>
      obtain ⟨k, T, hk, rfl, rfl, hT, hTz, hb⟩ := hrel
      have HT := Lib.hid hT
      clear hT
      have HK2 := Lib.hid (HK1.out.below hb)
      obtain ⟨k0, k1, k2⟩ := HK2.out
      by_cases hlt : k < n
      · have hkx : k < xs.length := by rw [HLEN.out]; exact hlt
        obtain ⟨b, off, rfl, hbl, hcell⟩ := HR.out.2.resolve_left (by omega)
        obtain ⟨q0, q1⟩ := RdR.fld hcell hkx
        have hbW := nx hb1 hb
        rw [← below_at hbW hbl] at q0 q1
        have HQ0 : Hid (∀ u, Below wr.heap.size wr u → u.cell? ⟨b, off + k * 2, none⟩ = some (.string (str xs[k].name)) ∧ u.cell? ⟨b, off + k * 2 + 1, none⟩ = some (.string (str xs[k].val))) := fun u h => by
          have hbl2 := Nat.lt_of_lt_of_le hbl hbW.size
          exact ⟨by rw [below_at h hbl2]; exact q0, by rw [below_at h hbl2]; exact q1⟩
        have hsz := HX.out _ (List.getElem_mem hkx)
        have hpl := parT_len xs[k] hsz
        have hz0 : (str xs[k].name).size ≤ 1000 := by rw [str_size]; exact hsz.1
        have hzv : (str xs[k].val).size ≤ 1000 := by rw [str_size]; exact hsz.2
        have hql : (str (quoteW xs[k].val)).size ≤ 402 := by rw [str_size]; exact quoteW_len _
        have HNX : Hid (T ++ (⟨#[59, 32]⟩ : ByteArray) ++ str xs[k].name ++ (⟨#[61]⟩ : ByteArray) ++ str (quoteW xs[k].val) = str (l0 ++ parsT (xs.take (k + 1)))) := by
          show _ = _
          rw [part_strS T _ _ _ xs[k] HT.out rfl rfl, parsT_take xs k hkx, List.append_assoc]
        have HQ : Hid (∀ u, Calls Tryd.prog 27 #[.string (str xs[k].val)] u fun e w' => e = .returned (.string (str (quoteW xs[k].val))) ∧ Below u.heap.size u w') := fun u => by
          have := quoteWordS_any (str xs[k].val) u (by omega)
          rw [str_list] at this; exact this
        have hsum : (T ++ (⟨#[59, 32]⟩ : ByteArray) ++ str xs[k].name ++ (⟨#[61]⟩ : ByteArray) ++ str (quoteW xs[k].val)).size ≤ 2001 + 1405 * (k + 1) := by
          rw [ByteArray.size_append, ByteArray.size_append, ByteArray.size_append, ByteArray.size_append, hz2, hz3]; omega
        clear hcell hsz hpl q0 q1
        generalize str (quoteW xs[k].val) = Q at *
        generalize str xs[k].name = N at *
        generalize str xs[k].val = V at *
        go_wp2_with fail
        clear k0 k1 k2
        have z2 := fun (y : BelowT wr) => (HK2.out.below y.below).2.2
        have y0 := fun (y : BelowT wr) => (HQ0.out y.val y.below).1
        have y1 := fun (y : BelowT wr) => (HQ0.out y.val y.below).2
        refine wp_region_quietB (W := wr) (by kernel_rfl) (by kernel_rfl) (Below.refl _ _) ?_
        repeat (go_big_quiet_step (first
          | (go_at_call 27; exact calls_belowT (HQ.out _))))
        refine wpQuiet_nil ?_
        intro wz hwz
        obtain ⟨x9, rfl⟩ := hwz
        have hbx := nx hb x9.below
        clear y0 y1 z2
        generalize x9.val = w9 at *
        go_wp2
        go_roundw
        case rel => exact ⟨k + 1, _, by omega, by go_num, rfl, HNX.out, hsum, hbx⟩
        case measure => simp [intOf]; omega
      · have HF : Hid (T = str (textK ⟨m.data.toList, s.data.toList, xs⟩)) := by
          show _ = _
          rw [HT.out, HTX.out, List.take_of_length_le (by rw [HLEN.out]; omega)]
        go_wp2
        go_ret
        exact ⟨ret_str (by rw [HFT.out]; exact HF.out), nx hb0 (nx hb1 hb)⟩
end Go.Proofs.YtfheajfcepcepaaDoor
end

section
namespace Go.Proofs.YtfheajfcepcepaaDoor
open Go.RowKit

set_option maxRecDepth 100000 in
set_option maxHeartbeats 1000000 in
theorem slicesEqual_any (a1 a2 : Option Addr) (n1 c1 n2 c2 : Nat) (xs ys : List Fld) (w : World) (h1 : RdF w a1 n1 xs) (h2 : RdF w a2 n2 ys) (hn1 : n1 ≤ maxLen) (hn2 : n2 ≤ maxLen) :
    Calls Tryd.prog 75 #[.slice a1 n1 c1, .slice a2 n2 c2] w fun e w' => e = .returned (.bool (decide (xs = ys))) ∧ Below w.heap.size w w' := by
  unfold maxLen at hn1 hn2
  obtain ⟨l1, r1⟩ := h1
  obtain ⟨l2, r2⟩ := h2
  have L1 := Lib.hid l1
  have L2 := Lib.hid l2
  by_cases hn : n1 = n2
  · subst hn
    have e1 : ((n1 : Int) != (n1 : Int)) = false := by simp
    by_cases h0 : n1 = 0
    · have hxy : Hid (xs = ys) := by show xs = ys; rw [List.length_eq_zero_iff.1 (l1.trans h0), List.length_eq_zero_iff.1 (l2.trans h0)]
      subst h0
      clear l1 l2 r1 r2
      go_enter Tryd.func75, Tryd.ntmps75
      go_wp2_with fail
      go_loop [13] (fun i => i = .int .i64 0) (fun _ => 0)
      case atStart => rfl
      case round =>
        subst hrel
        go_wp2
        go_ret
        exact ⟨ret_bool (decide_eq_true hxy.out).symm, Below.refl _ _⟩
    · obtain ⟨b1, o1, rfl, hb1, x1⟩ := r1.resolve_left h0
      obtain ⟨b2, o2, rfl, hb2, x2⟩ := r2.resolve_left h0
      have X1 := Lib.hid x1
      have X2 := Lib.hid x2
      clear l1 l2 r1 r2 x1 x2 h0
      go_enter Tryd.func75, Tryd.ntmps75
      go_wp2_with fail
      go_loopw [13] (fun i wr => ∃ k : Nat, k ≤ n1 ∧ i = .int .i64 k ∧ Below w.heap.size w wr ∧ xs.take k = ys.take k) (fun i _ => n1 - (intOf i).toNat)
      case atStart => exact ⟨0, Nat.zero_le _, rfl, Below.refl _ _, rfl⟩
      case round =>
        obtain ⟨k, hk, rfl, hb, htk⟩ := hrel
        have HTK := Lib.hid htk
        clear htk
        by_cases hlt : k < n1
        · have k1 : k < xs.length := by rw [L1.out]; exact hlt
          have k2 : k < ys.length := by rw [L2.out]; exact hlt
          obtain ⟨q0, q1⟩ := RdR.fld X1.out k1
          obtain ⟨p0, p1⟩ := RdR.fld X2.out k2
          rw [← below_at hb hb1] at q0 q1
          rw [← below_at hb hb2] at p0 p1
          have HDE := Lib.hid (fld_beq xs[k] ys[k])
          have HT1 := Lib.hid (List.take_succ_eq_append_getElem k1)
          have HT2 := Lib.hid (List.take_succ_eq_append_getElem k2)
          have HXY : Hid (xs[k] ≠ ys[k] → xs ≠ ys) := fun h e => h (by subst e; rfl)
          have hkz : (0 : Int) ≤ (k : Int) := by omega
          have hkn : (k : Int) < (n1 : Int) := by omega
          generalize xs[k] = x at *
          generalize ys[k] = y at *
          generalize str x.name = s0 at *
          generalize str x.val = s1 at *
          generalize str y.name = t0 at *
          generalize str y.val = t1 at *
          have d0 := beq_dec s0 t0
          have d1 := beq_dec s1 t1
          generalize decide (s0 = t0) = g0 at *
          generalize decide (s1 = t1) = g1 at *
          cases g0 <;> cases g1
          all_goals
            first
              | (have HD : Hid (x = y) := by
                   show x = y
                   exact of_decide_eq_true HDE.out
                 have HN : Hid (xs.take (k + 1) = ys.take (k + 1)) := by show _ = _; rw [HT1.out, HT2.out, HTK.out, HD.out]
                 go_wp2
                 go_quiet (fail)
                 go_wp2
                 go_roundw
                 case rel => exact ⟨k + 1, by omega, by go_num, (hb.trans ⟨rfl, rfl, rfl, Nat.le_refl _, fun _ _ => rfl⟩), HN.out⟩
                 case measure => simp [intOf]; omega)
              | (have HN : Hid (xs ≠ ys) := HXY.out (of_decide_eq_false HDE.out)
                 go_wp2
                 go_quiet (fail)
                 go_wp2
                 go_ret
                 exact ⟨ret_bool (decide_eq_false HN.out).symm, (hb.trans ⟨rfl, rfl, rfl, Nat.le_refl _, fun _ _ => rfl⟩)⟩)
        · have HN : Hid (xs = ys) := by
            show xs = ys
            have h := HTK.out
            rw [List.take_of_length_le (by rw [L1.out]; omega), List.take_of_length_le (by rw [L2.out]; omega)] at h
            exact h
          go_wp2
          go_ret
          exact ⟨ret_bool (decide_eq_true HN.out).symm, hb⟩
  · have e1 : ((n1 : Int) != (n2 : Int)) = true := by rw [bne_iff_ne]; omega
    have HN : Hid (xs ≠ ys) := by show _ ≠ _; intro e; exact hn (by rw [← l1, ← l2, e])
    clear l1 l2 r1 r2
    go_enter Tryd.func75, Tryd.ntmps75
    go_wp2
    go_ret
    exact ⟨ret_bool (decide_eq_false HN.out).symm, Below.refl _ _⟩
set_option maxRecDepth 100000 in
set_option maxHeartbeats 1000000 in
theorem fieldsSameS_any (a1 a2 : Option Addr) (n1 c1 n2 c2 : Nat) (xs ys : List Fld) (w : World) (h1 : RdF w a1 n1 xs) (h2 : RdF w a2 n2 ys) (hn1 : n1 ≤ maxLen) (hn2 : n2 ≤ maxLen) :
    Calls Tryd.prog 57 #[.slice a1 n1 c1, .slice a2 n2 c2] w fun e w' => e = .returned (.bool (decide (xs = ys))) ∧ Below w.heap.size w w' := by
  unfold maxLen at hn1 hn2
  obtain ⟨l1, r1⟩ := h1
  obtain ⟨l2, r2⟩ := h2
  have L1 := Lib.hid l1
  have L2 := Lib.hid l2
  by_cases hn : n1 = n2
  · subst hn
    have e1 : ((n1 : Int) != (n1 : Int)) = false := by simp
    by_cases h0 : n1 = 0
    · have hxy : Hid (xs = ys) := by show xs = ys; rw [List.length_eq_zero_iff.1 (l1.trans h0), List.length_eq_zero_iff.1 (l2.trans h0)]
      subst h0
      clear l1 l2 r1 r2
      go_enter Tryd.func57, Tryd.ntmps57
      go_wp2_with fail
      go_loop [5] (fun i => i = .int .i64 0) (fun _ => 0)
      case atStart => rfl
      case round =>
        subst hrel
        go_wp2
        go_ret
        exact ⟨ret_bool (decide_eq_true hxy.out).symm, Below.refl _ _⟩
    · obtain ⟨b1, o1, rfl, hb1, x1⟩ := r1.resolve_left h0
      obtain ⟨b2, o2, rfl, hb2, x2⟩ := r2.resolve_left h0
      have X1 := Lib.hid x1
      have X2 := Lib.hid x2
      clear l1 l2 r1 r2 x1 x2 h0
      go_enter Tryd.func57, Tryd.ntmps57
      go_wp2_with fail
      go_loopw [5] (fun i wr => ∃ k : Nat, k ≤ n1 ∧ i = .int .i64 k ∧ Below w.heap.size w wr ∧ xs.take k = ys.take k) (fun i _ => n1 - (intOf i).toNat)
      case atStart => exact ⟨0, Nat.zero_le _, rfl, Below.refl _ _, rfl⟩
      case round =>
        obtain ⟨k, hk, rfl, hb, htk⟩ := hrel
        have HTK := Lib.hid htk
        clear htk
        by_cases hlt : k < n1
        · have k1 : k < xs.length := by rw [L1.out]; exact hlt
          have k2 : k < ys.length := by rw [L2.out]; exact hlt
          obtain ⟨q0, q1⟩ := RdR.fld X1.out k1
          obtain ⟨p0, p1⟩ := RdR.fld X2.out k2
          rw [← below_at hb hb1] at q0 q1
          rw [← below_at hb hb2] at p0 p1
          have HDE := Lib.hid (fld_beq xs[k] ys[k])
          have HT1 := Lib.hid (List.take_succ_eq_append_getElem k1)
          have HT2 := Lib.hid (List.take_succ_eq_append_getElem k2)
          have HXY : Hid (xs[k] ≠ ys[k] → xs ≠ ys) := fun h e => h (by subst e; rfl)
          have hkz : (0 : Int) ≤ (k : Int) := by omega
          have hkn : (k : Int) < (n1 : Int) := by omega
          generalize xs[k] = x at *
          generalize ys[k] = y at *
          generalize str x.name = s0 at *
          generalize str x.val = s1 at *
          generalize str y.name = t0 at *
          generalize str y.val = t1 at *
          have d0 := beq_dec s0 t0
          have d1 := beq_dec s1 t1
          generalize decide (s0 = t0) = g0 at *
          generalize decide (s1 = t1) = g1 at *
          cases g0 <;> cases g1
          all_goals
            first
              | (have HD : Hid (x = y) := by
                   show x = y
                   exact of_decide_eq_true HDE.out
                 have HN : Hid (xs.take (k + 1) = ys.take (k + 1)) := by show _ = _; rw [HT1.out, HT2.out, HTK.out, HD.out]
                 go_wp2
                 go_quiet (fail)
                 go_wp2
                 go_roundw
                 case rel => exact ⟨k + 1, by omega, by go_num, (hb.trans ⟨rfl, rfl, rfl, Nat.le_refl _, fun _ _ => rfl⟩), HN.out⟩
                 case measure => simp [intOf]; omega)
              | (have HN : Hid (xs ≠ ys) := HXY.out (of_decide_eq_false HDE.out)
                 go_wp2
                 go_quiet (fail)
                 go_wp2
                 go_ret
                 exact ⟨ret_bool (decide_eq_false HN.out).symm, (hb.trans ⟨rfl, rfl, rfl, Nat.le_refl _, fun _ _ => rfl⟩)⟩)
        · have HN : Hid (xs = ys) := by
            show xs = ys
            have h := HTK.out
            rw [List.take_of_length_le (by rw [L1.out]; omega), List.take_of_length_le (by rw [L2.out]; omega)] at h
            exact h
          go_wp2
          go_ret
          exact ⟨ret_bool (decide_eq_true HN.out).symm, hb⟩
  · have e1 : ((n1 : Int) != (n2 : Int)) = true := by rw [bne_iff_ne]; omega
    have HN : Hid (xs ≠ ys) := by show _ ≠ _; intro e; exact hn (by rw [← l1, ← l2, e])
    clear l1 l2 r1 r2
    go_enter Tryd.func57, Tryd.ntmps57
    go_wp2
    go_ret
    exact ⟨ret_bool (decide_eq_false HN.out).symm, Below.refl _ _⟩
theorem fieldsSame_any (a1 a2 : Option Addr) (n1 c1 n2 c2 : Nat) (xs ys : List Fld) (w : World) (h1 : RdF w a1 n1 xs) (h2 : RdF w a2 n2 ys) (hn1 : n1 ≤ maxLen) (hn2 : n2 ≤ maxLen) :
    Calls Tryd.prog 39 #[.slice a1 n1 c1, .slice a2 n2 c2] w fun e w' => e = .returned (.bool (decide (xs = ys))) ∧ Below w.heap.size w w' := by
  go_enter Tryd.func39, Tryd.ntmps39
  go_wp2_with fail
  refine (slicesEqual_any a1 a2 n1 c1 n2 c2 xs ys _ h1 h2 hn1 hn2).mono ?_
  rintro e w1 ⟨rfl, hb1⟩
  go_wp2
  go_ret
  exact ⟨rfl, hb1⟩
end Go.Proofs.YtfheajfcepcepaaDoor
end

section
namespace Go.Proofs.YtfheajfcepcepaaDoor
open Go.ChangeShapes Go.WideShapes Go.ChangeAt Go.RowKit
open Go.ChangeMaps (open_string shut_string)

end Go.Proofs.YtfheajfcepcepaaDoor
end

section
namespace Go.Proofs.YtfheajfcepcepaaDoor
open Go.RowKit

theorem joinAll_succ (xs : List (List UInt8)) (k : Nat) (h : k < xs.length) : joinAll (xs.take (k + 1)) = if k = 0 then quoteW xs[k] else joinAll (xs.take k) ++ 32 :: quoteW xs[k] := by
  rw [List.take_succ_eq_append_getElem h, joinAll_snoc]
  by_cases hk : k = 0
  · subst hk; simp
  · rw [if_neg hk, if_neg (by intro e; have h2 : (xs.take k).length = 0 := (by rw [e]; rfl); rw [List.length_take] at h2; omega)]
theorem joinW_bad {xs : List (List UInt8)} {k : Nat} (h : k < xs.length) (hx : isText xs[k] = false) : joinW xs = [] := by
  unfold joinW
  rw [if_neg]
  rw [Bool.and_eq_true, List.all_eq_true]
  intro hc
  have := hc.1 _ (List.getElem_mem h)
  rw [hx] at this; cases this
theorem joinW_long {xs : List (List UInt8)} {k : Nat} (h : 200 < (joinAll (xs.take k)).length) : joinW xs = [] := by
  unfold joinW
  rw [if_neg]
  rw [Bool.and_eq_true, decide_eq_true_eq]
  intro hc
  have := joinAll_take xs k
  omega
theorem joinW_all {xs : List (List UInt8)} (h : ∀ j, (hj : j < xs.length) → isText xs[j] = true) (hl : (joinAll xs).length ≤ 200) : joinW xs = joinAll xs := by
  unfold joinW
  rw [if_pos]
  rw [Bool.and_eq_true, decide_eq_true_eq, List.all_eq_true]
  refine ⟨fun x hx => ?_, hl⟩
  obtain ⟨j, hj, rfl⟩ := List.getElem_of_mem hx
  exact h j hj
theorem take_full {α : Type} (xs : List α) : xs.take xs.length = xs := List.take_length
end Go.Proofs.YtfheajfcepcepaaDoor
end

section
namespace Go.Proofs.YtfheajfcepcepaaDoor
open Go.RowKit

theorem OwnL.touch {B R : Nat} {v : Value} {xs : List (List UInt8)} {w w' : World} (h : OwnL B v xs w) (t : Touch R w w') (hR : R < B) : OwnL B v xs w' := by
  refine ⟨h.1, ?_⟩
  rcases h.2 with hn | ⟨g, cap, cur, hv, hg1, hg2, rest⟩
  · exact .inl hn
  · refine .inr ⟨g, cap, cur, hv, hg1, ?_, rest⟩
    have hglt : g < w.heap.size := by
      rcases Nat.lt_or_ge g w.heap.size with h' | h'
      · exact h'
      · simp [Array.getElem?_eq_none h'] at hg2
    rw [t.block g hglt (by omega), hg2]
end Go.Proofs.YtfheajfcepcepaaDoor
end

section
namespace Go.Proofs.YtfheajfcepcepaaDoor
open Go.RowKit

end Go.Proofs.YtfheajfcepcepaaDoor
end

section
namespace Go.Proofs.YtfheajfcepcepaaDoor
open Go.ChangeShapes Go.WideShapes Go.RowKit Go.Deep

theorem set2 {L : List Value} {k : Nat} (hk : k * 2 + 1 < L.length) (a b : Value) :
    ((L.set (k * 2) a).set (k * 2 + 1) b)[k * 2]? = some a ∧ ((L.set (k * 2) a).set (k * 2 + 1) b)[k * 2 + 1]? = some b ∧ ∀ i, i < k * 2 → ((L.set (k * 2) a).set (k * 2 + 1) b)[i]? = L[i]? := by
  refine ⟨?_, ?_, fun i hi => ?_⟩
  · rw [List.getElem?_set_ne (by omega), List.getElem?_set_self (by omega)]
  · rw [List.getElem?_set_self (by simp; omega)]
  · rw [List.getElem?_set_ne (by omega), List.getElem?_set_ne (by omega)]
theorem set2_row {L : List Value} {k : Nat} {xs : List Fld} (x : Fld) (hk : k * 2 + 1 < L.length) (hx : ∀ (hj : k < xs.length), xs[k] = x)
    (h : ∀ j, j < k → (hj : j < xs.length) → ∀ d, d < 2 → L[j * 2 + d]? = (fldC xs[j])[d]?) :
    ∀ j, j < k + 1 → (hj : j < xs.length) → ∀ d, d < 2 → ((L.set (k * 2) (.string (str x.name))).set (k * 2 + 1) (.string (str x.val)))[j * 2 + d]? = (fldC xs[j])[d]? := by
  intro j hj hjx d hd
  obtain ⟨g0, g1, g3⟩ := set2 hk (.string (str x.name)) (.string (str x.val))
  by_cases e : j = k
  · subst e
    rw [hx hjx]
    rcases (by omega : d = 0 ∨ d = 1) with rfl | rfl
    · exact g0
    · exact g1
  · rw [g3 _ (by omega)]; exact h j (by omega) hjx d hd
end Go.Proofs.YtfheajfcepcepaaDoor
end

section
namespace Go.Proofs.YtfheajfcepcepaaDoor
open Go.ChangeShapes Go.WideShapes Go.RowKit Go.Deep

theorem cells2 {H : Type} {enc : TypeId × Value → H} {P : Program} {W : World} {base : Nat} {spare : Nat → Bool} {held : Bool} {T : TypeId} {f0 f1 : Field} {f : Nat} {cs : List Value} {x : DataW H × List MemPlace} (hs : P.underlying T = some (.struct #[f0, f1])) (hone : oneCellFields P #[f0, f1] = true)
    (h : DataW.trod enc P W base spare held f T cs = some x) (hl : cs.length = 2) :
    ∃ c0 c1 y0 y1 n, cs = [c0, c1] ∧ DataW.trod enc P W base spare held n f0.type [c0] = some y0 ∧ DataW.trod enc P W base spare held n f1.type [c1] = some y1 := by
  obtain ⟨ys, n', hn', hy, hlen, hyl, hf⟩ := DataW.trod_struct hs h
  match cs, hl with
  | [c0, c1], _ =>
    have g0 := hf 0 f0 rfl
    have g1 := hf 1 f1 rfl
    obtain ⟨o0, k0⟩ := hone_of hone 0 f0 rfl
    obtain ⟨o1, k1⟩ := hone_of hone 1 f1 rfl
    rw [o0, k0] at g0
    rw [o1, k1] at g1
    match ys, hyl with
    | [y0, y1], _ => exact ⟨c0, c1, y0, y1, n', rfl, g0, g1⟩
theorem addr_noneF (b o j : Nat) : (⟨b, o, none⟩ : Addr).add j = ⟨b, o + j, none⟩ := by unfold Addr.add; split <;> simp_all
end Go.Proofs.YtfheajfcepcepaaDoor
end

section
namespace Go.Proofs.YtfheajfcepcepaaDoor
open Go.ChangeShapes Go.WideShapes Go.ChangeAt Go.RowKit
open Go.ChangeMaps (open_string shut_string)

set_option maxRecDepth 100000 in
set_option maxHeartbeats 1000000 in
theorem kindSame_any (m1 s1 m2 s2 : ByteArray) (a1 a2 : Option Addr) (n1 c1 n2 c2 : Nat) (xs ys : List Fld) (w : World) (h1 : RdF w a1 n1 xs) (h2 : RdF w a2 n2 ys) (hn1 : n1 ≤ maxLen) (hn2 : n2 ≤ maxLen) :
    Calls Tryd.prog 15 #[.agg #[.string m1, .string s1, .slice a1 n1 c1], .agg #[.string m2, .string s2, .slice a2 n2 c2]] w fun e w' => e = .returned (.bool (decide (m1 = m2) && (decide (s1 = s2) && decide (xs = ys)))) ∧ Below w.heap.size w w' := by
  have hb0 : Below w.heap.size w ((w.alloc (.cells #[.string m1, .string s1, .slice a1 n1 c1] 25)).alloc (.cells #[.string m2, .string s2, .slice a2 n2 c2] 25)) := ((Below.refl _ _).alloc (Nat.le_refl _) _).alloc (by simp) _
  have HC := Lib.hid (fun u (k1 : RdF u a1 n1 xs) (k2 : RdF u a2 n2 ys) => fieldsSame_any a1 a2 n1 c1 n2 c2 xs ys u k1 k2 hn1 hn2)
  have H1 := Lib.hid (h1.below hb0)
  have H2 := Lib.hid (h2.below hb0)
  have d0 := beq_dec m1 m2
  have d1 := beq_dec s1 s2
  generalize decide (m1 = m2) = g0 at *
  generalize decide (s1 = s2) = g1 at *
  generalize decide (xs = ys) = g2 at *
  clear h1 h2 hn1 hn2
  cases g0 <;> cases g1
  all_goals
    go_enter Tryd.func15, Tryd.ntmps15
    first
      | (go_wp2
         go_ret
         exact ⟨rfl, hb0⟩)
      | (go_wp2_with fail
         refine (HC.out _ H1.out H2.out).mono ?_
         rintro e w1 ⟨rfl, hb1⟩
         go_wp2
         go_ret
         exact ⟨rfl, nx hb0 hb1⟩)
set_option maxRecDepth 100000 in
set_option maxHeartbeats 1000000 in
theorem kindSameS_any (m1 s1 m2 s2 : ByteArray) (a1 a2 : Option Addr) (n1 c1 n2 c2 : Nat) (xs ys : List Fld) (w : World) (h1 : RdF w a1 n1 xs) (h2 : RdF w a2 n2 ys) (hn1 : n1 ≤ maxLen) (hn2 : n2 ≤ maxLen) :
    Calls Tryd.prog 24 #[.agg #[.string m1, .string s1, .slice a1 n1 c1], .agg #[.string m2, .string s2, .slice a2 n2 c2]] w fun e w' => e = .returned (.bool (decide (m1 = m2) && (decide (s1 = s2) && decide (xs = ys)))) ∧ Below w.heap.size w w' := by
  have hb0 : Below w.heap.size w ((w.alloc (.cells #[.string m1, .string s1, .slice a1 n1 c1] 25)).alloc (.cells #[.string m2, .string s2, .slice a2 n2 c2] 25)) := ((Below.refl _ _).alloc (Nat.le_refl _) _).alloc (by simp) _
  have HC := Lib.hid (fun u (k1 : RdF u a1 n1 xs) (k2 : RdF u a2 n2 ys) => fieldsSameS_any a1 a2 n1 c1 n2 c2 xs ys u k1 k2 hn1 hn2)
  have H1 := Lib.hid (h1.below hb0)
  have H2 := Lib.hid (h2.below hb0)
  have d0 := beq_dec m1 m2
  have d1 := beq_dec s1 s2
  generalize decide (m1 = m2) = g0 at *
  generalize decide (s1 = s2) = g1 at *
  generalize decide (xs = ys) = g2 at *
  clear h1 h2 hn1 hn2
  cases g0 <;> cases g1
  all_goals
    go_enter Tryd.func24, Tryd.ntmps24
    first
      | (go_wp2
         go_ret
         exact ⟨rfl, hb0⟩)
      | (go_wp2_with fail
         refine (HC.out _ H1.out H2.out).mono ?_
         rintro e w1 ⟨rfl, hb1⟩
         go_wp2
         go_ret
         exact ⟨rfl, nx hb0 hb1⟩)
end Go.Proofs.YtfheajfcepcepaaDoor
end

section
namespace Go.Proofs.YtfheajfcepcepaaDoor
open Go.RowKit

/-! Boundaries. -/
def isBnd (b : List UInt8) : Bool := b.all alnumB && (decide (1 ≤ b.length) && decide (b.length ≤ 20))
/-- The line that begins a part, and the one that ends all of them. -/
def begL (b : List UInt8) : List UInt8 := 45 :: 45 :: b
def endL (b : List UInt8) : List UInt8 := 45 :: 45 :: (b ++ [45, 45])
theorem beg_ne_end (b : List UInt8) : begL b ≠ endL b := by
  intro h
  have := congrArg List.length h
  simp [begL, endL] at this
def looksB (b l : List UInt8) : Bool := decide (l = begL b) || decide (l = endL b)
theorem looks_f {b l : List UInt8} : looksB b l = false ↔ l ≠ begL b ∧ l ≠ endL b := by unfold looksB; simp
/-- The parts from a line on behind the beginning of a part of which some lines are read. -/
def splG (b : List UInt8) : List (List UInt8) → List (List UInt8) → Option (List (List (List UInt8)))
  | _, [] => none
  | cur, l :: ls => if l = begL b then (splG b [] ls).map (cur :: ·) else if l = endL b then some [cur] else splG b (cur ++ [l]) ls
def splB (b : List UInt8) : List (List UInt8) → Option (List (List (List UInt8)))
  | [] => none
  | l :: ls => if l = begL b then splG b [] ls else splB b ls
def splitP (ls : List (List UInt8)) (b : List UInt8) : Option (List (List (List UInt8))) := if isBnd b then splB b ls else none
def joinsP (ps : List (List (List UInt8))) (b : List UInt8) : List (List UInt8) := ps.flatMap (begL b :: ·) ++ [endL b]
def okParts (ps : List (List (List UInt8))) (b : List UInt8) : Bool := ps.all fun p => p.all fun l => !looksB b l
def joinP (ps : List (List (List UInt8))) (b : List UInt8) : Option (List (List UInt8)) := if isBnd b = true ∧ ps ≠ [] ∧ okParts ps b = true then some (joinsP ps b) else none
theorem splG_lines (b : List UInt8) : ∀ (p cur ls : List (List UInt8)), (∀ l ∈ p, looksB b l = false) → splG b cur (p ++ ls) = splG b (cur ++ p) ls
  | [], cur, ls, _ => by simp
  | l :: p, cur, ls, h => by
    obtain ⟨h1, h2⟩ := looks_f.1 (h l (by simp))
    rw [List.cons_append, splG, if_neg h1, if_neg h2, splG_lines b p (cur ++ [l]) ls (fun x hx => h x (by simp [hx]))]
    simp
theorem splG_join (b : List UInt8) : ∀ (ps : List (List (List UInt8))) (cur : List (List UInt8)), okParts ps b = true → splG b cur (joinsP ps b) = some (cur :: ps)
  | [], cur, _ => by
    unfold joinsP
    rw [List.flatMap_nil, List.nil_append, splG, if_neg (fun h => beg_ne_end b h.symm), if_pos rfl]
  | p :: ps, cur, h => by
    unfold okParts at h
    rw [List.all_cons, Bool.and_eq_true] at h
    have hp : ∀ l ∈ p, looksB b l = false := fun l hl => by have := List.all_eq_true.1 h.1 l hl; simpa using this
    have ih := splG_join b ps p h.2
    have e : joinsP (p :: ps) b = begL b :: (p ++ joinsP ps b) := by unfold joinsP; simp
    rw [e, splG, if_pos rfl, splG_lines b p [] _ hp, List.nil_append, ih]; rfl
theorem joinP_some {ps : List (List (List UInt8))} {b : List UInt8} {ls : List (List UInt8)} (h : joinP ps b = some ls) : isBnd b = true ∧ ps ≠ [] ∧ okParts ps b = true ∧ ls = joinsP ps b := by
  unfold joinP at h
  split at h
  · rename_i c; injection h with h; exact ⟨c.1, c.2.1, c.2.2, h.symm⟩
  · cases h
/-- Parts are split again. -/
theorem split_joinP {ps : List (List (List UInt8))} {b : List UInt8} {ls : List (List UInt8)} (h : joinP ps b = some ls) : splitP ls b = some ps := by
  obtain ⟨hb, hne, hok, rfl⟩ := joinP_some h
  match ps, hne with
  | p :: ps, _ =>
    unfold okParts at hok
    rw [List.all_cons, Bool.and_eq_true] at hok
    have hp : ∀ l ∈ p, looksB b l = false := fun l hl => by have := List.all_eq_true.1 hok.1 l hl; simpa using this
    have e : joinsP (p :: ps) b = begL b :: (p ++ joinsP ps b) := by unfold joinsP; simp
    unfold splitP
    rw [if_pos hb, e, splB, if_pos rfl, splG_lines b p [] _ hp, List.nil_append]
    exact splG_join b ps p hok.2
theorem splG_ok (b : List UInt8) : ∀ (ls cur : List (List UInt8)) (ps : List (List (List UInt8))), (∀ l ∈ cur, looksB b l = false) → splG b cur ls = some ps → ps ≠ [] ∧ okParts ps b = true
  | [], cur, ps, _, h => by simp [splG] at h
  | l :: ls, cur, ps, hc, h => by
    rw [splG] at h
    by_cases h1 : l = begL b
    · rw [if_pos h1] at h
      obtain ⟨qs, hq, rfl⟩ := Option.map_eq_some_iff.1 h
      obtain ⟨_, h2⟩ := splG_ok b ls [] qs (fun x hx => by cases hx) hq
      refine ⟨by simp, ?_⟩
      unfold okParts at h2 ⊢
      rw [List.all_cons, Bool.and_eq_true]
      exact ⟨List.all_eq_true.2 fun x hx => by simp [hc x hx], h2⟩
    · rw [if_neg h1] at h
      by_cases h2 : l = endL b
      · rw [if_pos h2] at h
        injection h with h
        subst h
        refine ⟨by simp, ?_⟩
        unfold okParts
        rw [List.all_cons, List.all_nil, Bool.and_true]
        exact List.all_eq_true.2 fun x hx => by simp [hc x hx]
      · rw [if_neg h2] at h
        refine splG_ok b ls (cur ++ [l]) ps (fun x hx => ?_) h
        rcases List.mem_append.1 hx with hx | hx
        · exact hc x hx
        · rw [List.mem_singleton.1 hx]; exact looks_f.2 ⟨h1, h2⟩
theorem splB_ok (b : List UInt8) : ∀ (ls : List (List UInt8)) (ps : List (List (List UInt8))), splB b ls = some ps → ps ≠ [] ∧ okParts ps b = true
  | [], ps, h => by simp [splB] at h
  | l :: ls, ps, h => by
    rw [splB] at h
    by_cases h1 : l = begL b
    · rw [if_pos h1] at h; exact splG_ok b ls [] ps (fun x hx => by cases hx) h
    · rw [if_neg h1] at h; exact splB_ok b ls ps h
/-- Splitting is settled: what is split is joined, and split again. -/
theorem join_splitP {ps : List (List (List UInt8))} {b : List UInt8} {ls : List (List UInt8)} (h : splitP ls b = some ps) : joinP ps b = some (joinsP ps b) := by
  unfold splitP at h
  split at h
  · rename_i hb
    obtain ⟨h1, h2⟩ := splB_ok b ls ps h
    unfold joinP; rw [if_pos ⟨hb, h1, h2⟩]
  · cases h
/-- Lines ahead of the first beginning are left out. -/
theorem splB_skip (b : List UInt8) : ∀ (p ls : List (List UInt8)), (∀ l ∈ p, l ≠ begL b) → splB b (p ++ ls) = splB b ls
  | [], ls, _ => rfl
  | l :: p, ls, h => by rw [List.cons_append, splB, if_neg (h l (by simp)), splB_skip b p ls (fun x hx => h x (by simp [hx]))]
theorem joinsP_len (ps : List (List (List UInt8))) (b : List UInt8) : (joinsP ps b).length = (ps.map fun p => p.length + 1).sum + 1 := by
  unfold joinsP
  rw [List.length_append, List.length_singleton, List.length_flatMap]
  simp
end Go.Proofs.YtfheajfcepcepaaDoor
end

section
namespace Go.Proofs.YtfheajfcepcepaaDoor
open Go.RowKit

/-! Splitting line by line: k lines are read, ps are the parts that have been begun (the last one is open). -/
def goesP (b : List UInt8) (ls : List (List UInt8)) (k : Nat) (ps : List (List (List UInt8))) : Prop :=
  (ps = [] ∧ splB b ls = splB b (ls.drop k)) ∨ ∃ qs cur, ps = qs ++ [cur] ∧ splB b ls = (splG b cur (ls.drop k)).map (qs ++ ·)
theorem goesP_start (b : List UInt8) (ls : List (List UInt8)) : goesP b ls 0 [] := .inl ⟨rfl, rfl⟩
theorem goesP_beg {b : List UInt8} {ls : List (List UInt8)} {k : Nat} {ps : List (List (List UInt8))} (h : goesP b ls k ps) (hk : k < ls.length) (hb : ls[k] = begL b) : goesP b ls (k + 1) (ps ++ [[]]) := by
  have hd : ls.drop k = ls[k] :: ls.drop (k + 1) := List.drop_eq_getElem_cons hk
  refine .inr ⟨ps, [], rfl, ?_⟩
  rcases h with ⟨rfl, h⟩ | ⟨qs, cur, rfl, h⟩
  · rw [h, hd, splB, if_pos hb]
    simp
  · rw [h, hd, splG, if_pos hb, Option.map_map]
    congr 1
    funext x
    simp
theorem goesP_skip {b : List UInt8} {ls : List (List UInt8)} {k : Nat} (h : goesP b ls k []) (hk : k < ls.length) (hb : ls[k] ≠ begL b) : goesP b ls (k + 1) [] := by
  have hd : ls.drop k = ls[k] :: ls.drop (k + 1) := List.drop_eq_getElem_cons hk
  rcases h with ⟨_, h⟩ | ⟨qs, cur, hq, _⟩
  · exact .inl ⟨rfl, by rw [h, hd, splB, if_neg hb]⟩
  · simp at hq
theorem goesP_end {b : List UInt8} {ls : List (List UInt8)} {k : Nat} {ps : List (List (List UInt8))} (h : goesP b ls k ps) (hn : ps ≠ []) (hk : k < ls.length) (he : ls[k] = endL b) : splB b ls = some ps := by
  have hd : ls.drop k = ls[k] :: ls.drop (k + 1) := List.drop_eq_getElem_cons hk
  rcases h with ⟨rfl, _⟩ | ⟨qs, cur, rfl, h⟩
  · exact absurd rfl hn
  · rw [h, hd, splG, if_neg (by rw [he]; exact fun e => beg_ne_end b e.symm), if_pos he]; rfl
theorem goesP_line {b : List UInt8} {ls : List (List UInt8)} {k : Nat} {qs : List (List (List UInt8))} {cur : List (List UInt8)} (h : goesP b ls k (qs ++ [cur])) (hk : k < ls.length) (hb : ls[k] ≠ begL b) (he : ls[k] ≠ endL b) : goesP b ls (k + 1) (qs ++ [cur ++ [ls[k]]]) := by
  have hd : ls.drop k = ls[k] :: ls.drop (k + 1) := List.drop_eq_getElem_cons hk
  rcases h with ⟨h0, _⟩ | ⟨qs', cur', hq, h⟩
  · simp at h0
  · obtain ⟨rfl, hc⟩ := List.append_inj' hq rfl
    obtain rfl : cur = cur' := by simpa using hc
    exact .inr ⟨qs, _, rfl, by rw [h, hd, splG, if_neg hb, if_neg he]⟩
theorem goesP_out {b : List UInt8} {ls : List (List UInt8)} {k : Nat} {ps : List (List (List UInt8))} (h : goesP b ls k ps) (hk : ls.length ≤ k) : splB b ls = none := by
  rcases h with ⟨_, h⟩ | ⟨qs, cur, _, h⟩
  · rw [h, List.drop_eq_nil_of_le hk]; rfl
  · rw [h, List.drop_eq_nil_of_le hk]; rfl
theorem splG_app (b : List UInt8) : ∀ (ls m cur : List (List UInt8)) (ps : List (List (List UInt8))), splG b cur ls = some ps → splG b cur (ls ++ m) = some ps
  | [], m, cur, ps, h => by simp [splG] at h
  | l :: ls, m, cur, ps, h => by
    rw [splG] at h
    rw [List.cons_append, splG]
    by_cases h1 : l = begL b
    · rw [if_pos h1] at h ⊢
      obtain ⟨qs, hq, rfl⟩ := Option.map_eq_some_iff.1 h
      rw [splG_app b ls m [] qs hq]; rfl
    · rw [if_neg h1] at h ⊢
      by_cases h2 : l = endL b
      · rw [if_pos h2] at h ⊢; exact h
      · rw [if_neg h2] at h ⊢; exact splG_app b ls m _ ps h
theorem splB_app (b : List UInt8) : ∀ (ls m : List (List UInt8)) (ps : List (List (List UInt8))), splB b ls = some ps → splB b (ls ++ m) = some ps
  | [], m, ps, h => by simp [splB] at h
  | l :: ls, m, ps, h => by
    rw [splB] at h
    rw [List.cons_append, splB]
    by_cases h1 : l = begL b
    · rw [if_pos h1] at h ⊢; exact splG_app b ls m [] ps h
    · rw [if_neg h1] at h ⊢; exact splB_app b ls m ps h
/-- How many lines parts have, with one more for each of them. -/
def sumP (ps : List (List (List UInt8))) : Nat := (ps.map fun p => p.length + 1).sum
theorem sumP_nil : sumP [] = 0 := rfl
theorem sumP_cons (p : List (List UInt8)) (ps : List (List (List UInt8))) : sumP (p :: ps) = p.length + 1 + sumP ps := rfl
theorem sumP_app (ps qs : List (List (List UInt8))) : sumP (ps ++ qs) = sumP ps + sumP qs := by unfold sumP; simp
theorem sumP_len (ps : List (List (List UInt8))) : ps.length ≤ sumP ps := by
  induction ps with
  | nil => exact Nat.le_refl _
  | cons p ps ih => rw [sumP_cons, List.length_cons]; omega
theorem sumP_mem {ps : List (List (List UInt8))} {p : List (List UInt8)} (h : p ∈ ps) : p.length + 1 ≤ sumP ps := by
  induction ps with
  | nil => cases h
  | cons q ps ih =>
    rw [sumP_cons]
    rcases List.mem_cons.1 h with rfl | h
    · omega
    · have := ih h; omega
theorem sumP_take (ps : List (List (List UInt8))) (k : Nat) : sumP (ps.take k) ≤ sumP ps := by
  have := sumP_app (ps.take k) (ps.drop k)
  rw [List.take_append_drop] at this; omega
theorem sumP_succ (ps : List (List (List UInt8))) (k : Nat) (h : k < ps.length) : sumP (ps.take (k + 1)) = sumP (ps.take k) + (ps[k].length + 1) := by
  rw [List.take_succ_eq_append_getElem h, sumP_app]; rfl
theorem splG_len (b : List UInt8) : ∀ (ls cur : List (List UInt8)) (ps : List (List (List UInt8))), splG b cur ls = some ps → sumP ps ≤ ls.length + cur.length
  | [], cur, ps, h => by simp [splG] at h
  | l :: ls, cur, ps, h => by
    rw [splG] at h
    by_cases h1 : l = begL b
    · rw [if_pos h1] at h
      obtain ⟨qs, hq, rfl⟩ := Option.map_eq_some_iff.1 h
      have := splG_len b ls [] qs hq
      rw [List.length_nil] at this
      rw [sumP_cons, List.length_cons]; omega
    · rw [if_neg h1] at h
      by_cases h2 : l = endL b
      · rw [if_pos h2] at h
        injection h with h
        subst h
        rw [sumP_cons, sumP_nil, List.length_cons]; omega
      · rw [if_neg h2] at h
        have := splG_len b ls _ ps h
        rw [List.length_append, List.length_singleton] at this
        rw [List.length_cons]; omega
/-- Parts have no more lines than there are. -/
theorem splB_len (b : List UInt8) : ∀ (ls : List (List UInt8)) (ps : List (List (List UInt8))), splB b ls = some ps → sumP ps + 1 ≤ ls.length
  | [], ps, h => by simp [splB] at h
  | l :: ls, ps, h => by
    rw [splB] at h
    rw [List.length_cons]
    by_cases h1 : l = begL b
    · rw [if_pos h1] at h
      have := splG_len b ls [] ps h
      rw [List.length_nil] at this; omega
    · rw [if_neg h1] at h
      have := splB_len b ls ps h; omega
theorem splitP_some {ls : List (List UInt8)} {b : List UInt8} {ps : List (List (List UInt8))} (h : splitP ls b = some ps) : isBnd b = true ∧ splB b ls = some ps := by
  unfold splitP at h
  split at h
  · rename_i hb; exact ⟨hb, h⟩
  · cases h
theorem splitP_no {ls : List (List UInt8)} {b : List UInt8} (h : isBnd b = false) : splitP ls b = none := by unfold splitP; rw [if_neg (by simp [h])]
theorem splitP_yes {ls : List (List UInt8)} {b : List UInt8} (h : isBnd b = true) : splitP ls b = splB b ls := by unfold splitP; rw [if_pos h]
theorem splitP_line {ls : List (List UInt8)} {b : List UInt8} {ps : List (List (List UInt8))} (h : splitP ls b = some ps) {p : List (List UInt8)} (hp : p ∈ ps) {l : List UInt8} (hl : l ∈ p) : l ≠ begL b ∧ l ≠ endL b := by
  obtain ⟨hb, h⟩ := splitP_some h
  have := (splB_ok b ls ps h).2
  unfold okParts at this
  have h1 := List.all_eq_true.1 (List.all_eq_true.1 this p hp) l hl
  exact looks_f.1 (by simpa using h1)
/-- What stands before and behind does not matter. -/
theorem splitP_before {ls pre post : List (List UInt8)} {b : List UInt8} {ps : List (List (List UInt8))} (h : splitP ls b = some ps) (hp : ∀ l ∈ pre, l ≠ begL b) : splitP (pre ++ ls ++ post) b = some ps := by
  obtain ⟨hb, h⟩ := splitP_some h
  rw [splitP_yes hb, List.append_assoc, splB_skip b pre _ hp]
  exact splB_app b ls post ps h
/-! Joining line by line. -/
theorem joinsP_eq (ps : List (List (List UInt8))) (b : List UInt8) : joinsP ps b = ps.flatMap (begL b :: ·) ++ [endL b] := rfl
def partsL (b : List UInt8) (ps : List (List (List UInt8))) : List (List UInt8) := ps.flatMap (begL b :: ·)
theorem partsL_nil (b : List UInt8) : partsL b [] = [] := rfl
theorem partsL_snoc (b : List UInt8) (ps : List (List (List UInt8))) (p : List (List UInt8)) : partsL b (ps ++ [p]) = partsL b ps ++ begL b :: p := by unfold partsL; simp
theorem partsL_succ (b : List UInt8) (ps : List (List (List UInt8))) (k : Nat) (h : k < ps.length) : partsL b (ps.take (k + 1)) = (partsL b (ps.take k) ++ [begL b]) ++ ps[k] := by
  rw [List.take_succ_eq_append_getElem h, partsL_snoc]; simp
theorem partsL_len (b : List UInt8) (ps : List (List (List UInt8))) : (partsL b ps).length = sumP ps := by
  unfold partsL sumP; rw [List.length_flatMap]; simp
theorem joinsP_sum (ps : List (List (List UInt8))) (b : List UInt8) : (joinsP ps b).length = sumP ps + 1 := joinsP_len ps b
def freeB (b : List UInt8) (ls : List (List UInt8)) : Bool := ls.all fun l => !looksB b l
theorem freeB_f {b : List UInt8} {ls : List (List UInt8)} {k : Nat} (hk : k < ls.length) (h : looksB b ls[k] = true) : freeB b ls = false := by
  unfold freeB; rw [List.all_eq_false]; exact ⟨_, List.getElem_mem hk, by simp [h]⟩
theorem freeB_t {b : List UInt8} {ls : List (List UInt8)} (h : ∀ k, (hk : k < ls.length) → looksB b ls[k] = false) : freeB b ls = true := by
  unfold freeB; rw [List.all_eq_true]; intro x hx
  obtain ⟨j, hj, rfl⟩ := List.getElem_of_mem hx
  simp [h j hj]
theorem freeB_mem {b : List UInt8} {ls : List (List UInt8)} (h : freeB b ls = true) : ∀ l ∈ ls, looksB b l = false := fun l hl => by
  have := List.all_eq_true.1 h l hl; simpa using this
theorem freeB_any (b : List UInt8) (ls : List (List UInt8)) : freeB b ls = !(ls.contains (begL b) || ls.contains (endL b)) := by
  rw [Bool.eq_iff_iff]
  unfold freeB
  rw [List.all_eq_true, Bool.not_eq_true', Bool.or_eq_false_iff]
  constructor
  · intro h
    refine ⟨?_, ?_⟩
    · rw [← Bool.not_eq_true, List.contains_iff_mem]; intro hm
      have := h _ hm; simp [looksB] at this
    · rw [← Bool.not_eq_true, List.contains_iff_mem]; intro hm
      have := h _ hm; simp [looksB] at this
  · rintro ⟨h1, h2⟩ l hl
    rw [← Bool.not_eq_true, List.contains_iff_mem] at h1 h2
    simp only [Bool.not_eq_true']
    exact looks_f.2 ⟨fun e => h1 (e ▸ hl), fun e => h2 (e ▸ hl)⟩
theorem okParts_bad {ps : List (List (List UInt8))} {b : List UInt8} {k : Nat} (hk : k < ps.length) (h : freeB b ps[k] = false) : okParts ps b = false := by
  unfold okParts; rw [List.all_eq_false]; exact ⟨_, List.getElem_mem hk, by unfold freeB at h; simp [h]⟩
theorem okParts_good {ps : List (List (List UInt8))} {b : List UInt8} (h : ∀ k, (hk : k < ps.length) → freeB b ps[k] = true) : okParts ps b = true := by
  unfold okParts; rw [List.all_eq_true]; intro x hx
  obtain ⟨j, hj, rfl⟩ := List.getElem_of_mem hx
  exact h j hj
theorem joinP_bad {ps : List (List (List UInt8))} {b : List UInt8} (h : okParts ps b = false) : joinP ps b = none := by unfold joinP; rw [if_neg (fun c => by rw [h] at c; cases c.2.2)]
theorem joinP_no {ps : List (List (List UInt8))} {b : List UInt8} (h : isBnd b = false) : joinP ps b = none := by unfold joinP; rw [if_neg (fun c => by rw [h] at c; cases c.1)]
theorem joinP_nil (b : List UInt8) : joinP [] b = none := by unfold joinP; rw [if_neg (fun c => c.2.1 rfl)]
theorem joinP_yes {ps : List (List (List UInt8))} {b : List UInt8} (h : isBnd b = true) (hn : ps ≠ []) (h2 : okParts ps b = true) : joinP ps b = some (joinsP ps b) := by unfold joinP; rw [if_pos ⟨h, hn, h2⟩]
/-! Fresh boundaries. -/
def bName (n : Nat) : List UInt8 := 98 :: Lib.decDigits n
def freshB (ls : List (List UInt8)) : Option (List UInt8) := ((List.range 100).find? fun n => freeB (bName n) ls).map bName
theorem freshB_at {ls : List (List UInt8)} {k : Nat} (hk : k < 100) (h : freeB (bName k) ls = true) (h2 : ∀ j, j < k → freeB (bName j) ls = false) : freshB ls = some (bName k) := by
  unfold freshB
  have : (List.range 100).find? (fun n => freeB (bName n) ls) = some k := by
    rw [List.find?_range_eq_some]
    exact ⟨h, List.mem_range.2 hk, fun j hj => by simp [h2 j hj]⟩
  rw [this]; rfl
theorem freshB_none {ls : List (List UInt8)} (h : ∀ j, j < 100 → freeB (bName j) ls = false) : freshB ls = none := by
  unfold freshB
  have : (List.range 100).find? (fun n => freeB (bName n) ls) = none := by
    rw [List.find?_eq_none]
    intro x hx
    simp [h x (List.mem_range.1 hx)]
  rw [this]; rfl
theorem freshB_some {ls : List (List UInt8)} {b : List UInt8} (h : freshB ls = some b) : ∃ k, k < 100 ∧ b = bName k ∧ freeB b ls = true ∧ ∀ j, j < k → freeB (bName j) ls = false := by
  unfold freshB at h
  obtain ⟨k, hk, rfl⟩ := Option.map_eq_some_iff.1 h
  rw [List.find?_range_eq_some] at hk
  obtain ⟨h1, h2, h3⟩ := hk
  exact ⟨k, List.mem_range.1 h2, rfl, h1, fun j hj => by have := h3 j hj; simpa using this⟩
def digN (n : Nat) : UInt8 := UInt8.ofNat (48 + n)
theorem digN_alnum : ∀ n, n < 10 → alnumB (digN n) = true := by decide +kernel
theorem decN_one {n : Nat} (h : n < 10) : Lib.decDigits n = [digN n] := Lib.decDigits_one h
theorem decN_two {n : Nat} (h : ¬ n < 10) (h1 : n < 100) : Lib.decDigits n = [digN (n / 10), digN (n % 10)] := Lib.decDigits_two h h1
theorem bName_bnd {n : Nat} (h : n < 100) : isBnd (bName n) = true := by
  unfold bName
  by_cases h1 : n < 10
  · rw [decN_one h1]; unfold isBnd
    simp only [List.all_cons, List.all_nil, digN_alnum n h1, List.length_cons, List.length_nil]; rfl
  · rw [decN_two h1 h]; unfold isBnd
    simp only [List.all_cons, List.all_nil, digN_alnum (n / 10) (by omega), digN_alnum (n % 10) (by omega), List.length_cons, List.length_nil]; rfl
theorem bName_len {n : Nat} (h : n < 100) : (bName n).length = (if n < 10 then 2 else 3) := by
  unfold bName
  split
  · rename_i h1; rw [decN_one h1]; rfl
  · rename_i h1; rw [decN_two h1 h]; rfl
/-- With a fresh boundary all lines can be a part, twice. -/
theorem fresh_join {ls : List (List UInt8)} {b : List UInt8} (h : freshB ls = some b) : joinP [ls, ls] b = some (joinsP [ls, ls] b) ∧ splitP (joinsP [ls, ls] b) b = some [ls, ls] := by
  obtain ⟨k, hk, rfl, h1, _⟩ := freshB_some h
  have hj : joinP [ls, ls] (bName k) = some (joinsP [ls, ls] (bName k)) := joinP_yes (bName_bnd hk) (by simp) (okParts_good fun i hi => by
    match i, hi with
    | 0, _ => exact h1
    | 1, _ => exact h1)
  exact ⟨hj, split_joinP hj⟩
end Go.Proofs.YtfheajfcepcepaaDoor
end

section
namespace Go.Proofs.YtfheajfcepcepaaDoor
open Go.RowKit

theorem OwnL.grown {B : Nat} {v : Value} {xs : List (List UInt8)} {w w' : World} {row : Option Nat} (h : OwnL B v xs w) (hg : w.grownBy w' row) (hne : ∀ g, v.ownBlock = some g → row ≠ some g) : OwnL B v xs w' := by
  unfold OwnL at h ⊢
  refine World.ownsRow.kept h hg ?_
  cases hv : v.ownBlock with
  | none => exact .inl rfl
  | some g => exact .inr (fun e => hne g hv e.symm)
theorem OwnL.readc {B : Nat} {v : Value} {xs : List (List UInt8)} {w : World} (h : OwnL B v xs w) : ∃ a c, v = .slice a xs.length c ∧ RdL w a xs.length xs ∧ xs.length ≤ maxLen ∧ (a = none → c = 0) ∧ xs.length ≤ c := by
  obtain ⟨a, c, hv, hr, hl⟩ := h.read
  refine ⟨a, c, hv, hr, hl, ?_⟩
  unfold OwnL at h
  rcases h.2 with ⟨hn, h0⟩ | ⟨g, cap, cur, hv', _, _, hnc, _⟩
  · rw [hn] at hv; injection hv with h1 h2 h3
    exact ⟨fun _ => h3.symm, by omega⟩
  · rw [hv'] at hv; injection hv with h1 h2 h3
    exact ⟨fun e => (by rw [e] at h1; cases h1), by omega⟩
theorem addr_add (b off i : Nat) : (⟨b, off, none⟩ : Addr).add i = ⟨b, off + i, none⟩ := by unfold Addr.add; split <;> simp_all
set_option maxRecDepth 100000 in
set_option maxHeartbeats 400000 in
theorem wpList_append_RL {ops : Array Oper} {rest : List Oper} {o : Oper} {Q : Exit → Act → World → Prop} {a : Act} {w : World} (hw : Region.wanted o (yielded ops a.tmps) = true) (s x : Operand)
    (ho : o.op = .call { callee := .builtin .append, args := #[s, x], argTypes := #[37, 37] })
    (B : Nat) (v : Value) (xs ys : List (List UInt8)) (ad : Option Addr) (n c : Nat) (hs : a.eval s = v) (hx : a.eval x = .slice ad n c) (hown : OwnL B v xs w) (hy : RdL w ad n ys) (hac : ad = none → c = 0) (hB : B ≤ w.heap.size) (hl : xs.length + ys.length ≤ 10000000)
    (h : ∀ v' w', OwnL B v' (xs ++ ys) w' → w.grownBy w' v.ownBlock → (v'.ownBlock = v.ownBlock ∨ v'.ownBlock = some w.heap.size) → wpList Tryd.prog ops Q rest (a.put o.dst v') w') : wpList Tryd.prog ops Q (o :: rest) a w := by
  obtain ⟨i0, hi, hz0, hz1, hz2⟩ := info_parts sInfo
  refine wpList_unguardL hw ?_
  have hn := hy.1
  unfold OwnL at hown
  cases ad with
  | none =>
    have h0 : n = 0 := by
      rcases hy.2 with e | ⟨b, off, e, _⟩
      · exact e
      · cases e
    obtain rfl := hac rfl
    subst h0
    have hn0 : ys = [] := List.length_eq_zero_iff.1 hn
    refine wpList_append_own_none rfl s x 37 ho B 9 i0 1 Tryd.underlying37 hi v xs.length (xs.map strV) hs hown hx ?_
    refine h v w ?_ ⟨rfl, rfl, rfl, Nat.le_refl _, fun _ _ _ => rfl⟩ (.inl rfl)
    subst hn0
    rw [List.append_nil]; exact hown
  | some q =>
    refine wpList_append_own_at w rfl s x 37 ho B 9 i0 (.string ⟨#[]⟩) 1 16 Tryd.underlying37 hi hz0 hz1 hz2 rfl (by decide) v xs.length (xs.map strV) hs hown q n c (ys.map strV) hx (by simp [hn]) ?_ ?_ ?_ ?_ hB ?_
    · intro j z hj
      have hjl : j < ys.length := by
        have := (List.getElem?_eq_some_iff.1 hj).1
        simpa using this
      rcases hy.2 with e | ⟨b, off, e, _, hc⟩
      · omega
      · injection e with e
        subst e
        rw [addr_add, hc j hjl]
        rw [List.getElem?_map, List.getElem?_eq_getElem hjl] at hj
        exact hj
    · intro z hz
      obtain ⟨q, _, rfl⟩ := List.mem_map.1 hz
      rfl
    · unfold maxLen; omega
    · omega
    · intro v' w' ho' hgr _ hat
      refine h v' w' ?_ hgr hat
      unfold OwnL; rw [List.length_append, List.map_append, hn]; exact ho'
set_option maxRecDepth 100000 in
set_option maxHeartbeats 400000 in
/-- One string behind a row of the call's own. -/
theorem wpList_append_1L {ops : Array Oper} {rest : List Oper} {o : Oper} {Q : Exit → Act → World → Prop} {a : Act} {w : World} (hw : Region.wanted o (yielded ops a.tmps) = true) (s x : Operand)
    (ho : o.op = .call { callee := .builtin .append, args := #[s, x], argTypes := #[37, 37] })
    (B : Nat) (v : Value) (xs : List (List UInt8)) (y : ByteArray) (b : Nat) (hs : a.eval s = v) (hx : a.eval x = .slice (some ⟨b, 0, none⟩) 1 1) (hc : w.cell? ⟨b, 0, none⟩ = some (.string y)) (hown : OwnL B v xs w) (hB : B ≤ w.heap.size) (hl : xs.length ≤ 9000000)
    (h : ∀ v' w', OwnL B v' (xs ++ [y.data.toList]) w' → w.grownBy w' v.ownBlock → (v'.ownBlock = v.ownBlock ∨ v'.ownBlock = some w.heap.size) → wpList Tryd.prog ops Q rest (a.put o.dst v') w') : wpList Tryd.prog ops Q (o :: rest) a w :=
  wpList_append_RL hw s x ho B v xs [y.data.toList] (some ⟨b, 0, none⟩) 1 1 hs hx hown ⟨rfl, .inr ⟨b, 0, rfl, lt_of_cell hc, fun i hi => by
    obtain rfl : i = 0 := by simpa using hi
    rw [Nat.add_zero, hc]; simp [str_of]⟩⟩ (fun e => by cases e) hB (by rw [List.length_singleton]; omega) h
theorem below_grown {B : Nat} {w w1 w' : World} {row : Option Nat} (hb : Below B w w1) (hg : w1.grownBy w' row) (hB : B ≤ w1.heap.size) (hr : ∀ g, row = some g → B ≤ g) : Below B w w' := hb.grown hg hB hr
theorem ssInfo : (Tryd.prog.info? 37).map (fun i => (i.zero, i.size, i.bytes)) = some (some (.slice none 0 0), 1, 24) := by kernel_rfl
/-- A row of rows that the call has made: v, its rows us, of the lists ps, all in blocks of their own from block B on. -/
structure OwnSS (B : Nat) (v : Value) (us : List Value) (ps : List (List (List UInt8))) (w : World) : Prop where
  row : w.ownsRow B 37 1 v ps.length us
  each : ∀ (i : Nat) u p, us[i]? = some u → ps[i]? = some p → OwnL B u p w
  off : ∀ (i : Nat) u g, us[i]? = some u → u.ownBlock = some g → v.ownBlock ≠ some g
  apart : ∀ (i j : Nat) u z g, us[i]? = some u → us[j]? = some z → i ≠ j → u.ownBlock = some g → z.ownBlock ≠ some g
theorem OwnSS.len {B : Nat} {v : Value} {us : List Value} {ps : List (List (List UInt8))} {w : World} (h : OwnSS B v us ps w) : us.length = ps.length := by have := h.row.1; omega
theorem OwnSS.nil (B : Nat) (w : World) : OwnSS B (.slice none 0 0) [] [] w :=
  ⟨⟨rfl, .inl ⟨rfl, rfl⟩⟩, fun i u p h => by simp at h, fun i u g h => by simp at h, fun i j u z g h => by simp at h⟩
theorem OwnSS.empty (w : World) : OwnSS w.heap.size (.slice (some ⟨w.heap.size, 0, none⟩) 0 0) [] [] (w.alloc (.cells #[] 37)) :=
  ⟨⟨rfl, .inr ⟨w.heap.size, 0, #[], rfl, Nat.le_refl _, by show (w.heap.push _)[w.heap.size]? = _; simp, Nat.le_refl _, by unfold maxLen; omega, rfl, rfl⟩⟩, fun i u p h => by simp at h, fun i u g h => by simp at h, fun i j u z g h => by simp at h⟩
theorem row_keepS {B : Nat} {v : Value} {n : Nat} {us : List Value} {t : TypeId} {w w' : World} (h : w.ownsRow B t 1 v n us) (k : Below w.heap.size w w') : w'.ownsRow B t 1 v n us := by
  refine ⟨h.1, ?_⟩
  rcases h.2 with hn | ⟨g, cap, cur, hv, hg1, hg2, rest⟩
  · exact .inl hn
  · refine .inr ⟨g, cap, cur, hv, hg1, ?_, rest⟩
    have hglt : g < w.heap.size := by
      rcases Nat.lt_or_ge g w.heap.size with h' | h'
      · exact h'
      · simp [Array.getElem?_eq_none h'] at hg2
    rw [k.block g hglt, hg2]
theorem row_baseS {B B' : Nat} {v : Value} {n : Nat} {us : List Value} {t : TypeId} {w : World} (h : w.ownsRow B t 1 v n us) (hB : B' ≤ B) : w.ownsRow B' t 1 v n us := by
  refine ⟨h.1, ?_⟩
  rcases h.2 with hn | ⟨g, cap, cur, hv, hg1, rest⟩
  · exact .inl hn
  · exact .inr ⟨g, cap, cur, hv, Nat.le_trans hB hg1, rest⟩
theorem OwnSS.keep {B : Nat} {v : Value} {us : List Value} {ps : List (List (List UInt8))} {w w' : World} (h : OwnSS B v us ps w) (k : Below w.heap.size w w') : OwnSS B v us ps w' :=
  ⟨row_keepS h.row k, fun i u p hu hp => (h.each i u p hu hp).keep k, h.off, h.apart⟩
theorem OwnSS.base {B B' : Nat} {v : Value} {us : List Value} {ps : List (List (List UInt8))} {w : World} (h : OwnSS B v us ps w) (hB : B' ≤ B) : OwnSS B' v us ps w :=
  ⟨row_baseS h.row hB, fun i u p hu hp => (h.each i u p hu hp).base hB, h.off, h.apart⟩
theorem OwnSS.mem {B : Nat} {v : Value} {us : List Value} {ps : List (List (List UInt8))} {w : World} (h : OwnSS B v us ps w) {i : Nat} {u : Value} (hu : us[i]? = some u) : ∃ p, ps[i]? = some p ∧ OwnL B u p w := by
  have hi := (List.getElem?_eq_some_iff.1 hu).1
  have hp : i < ps.length := by rw [← h.len]; exact hi
  exact ⟨ps[i], List.getElem?_eq_getElem hp, h.each i u _ hu (List.getElem?_eq_getElem hp)⟩
theorem OwnSS.lt {B : Nat} {v : Value} {us : List Value} {ps : List (List (List UInt8))} {w : World} (h : OwnSS B v us ps w) : (∀ g, v.ownBlock = some g → B ≤ g ∧ g < w.heap.size) ∧ ∀ (i : Nat) u g, us[i]? = some u → u.ownBlock = some g → B ≤ g ∧ g < w.heap.size :=
  ⟨World.ownsRow.lt h.row, fun i u g hu hg => by obtain ⟨p, _, ho⟩ := h.mem hu; exact ho.lt g hg⟩
theorem OwnSS.grown {B : Nat} {v : Value} {us : List Value} {ps : List (List (List UInt8))} {w w' : World} {row : Option Nat} (h : OwnSS B v us ps w) (hg : w.grownBy w' row) (hv : ∀ g, v.ownBlock = some g → row ≠ some g) (hus : ∀ (i : Nat) u g, us[i]? = some u → u.ownBlock = some g → row ≠ some g) : OwnSS B v us ps w' :=
  ⟨World.ownsRow.kept h.row hg (by
    cases hvb : v.ownBlock with
    | none => exact .inl rfl
    | some g => exact .inr (fun e => hv g hvb e.symm)), fun i u p hu hp => (h.each i u p hu hp).grown hg (fun g hg' => hus i u g hu hg'), h.off, h.apart⟩
theorem oneCell_slice (a : Option Addr) (n c : Nat) : (Value.slice a n c).oneCell' = true := rfl
/-- A slice that reads as the lists ps. -/
def RdSS (w : World) (a : Option Addr) (n : Nat) (ps : List (List (List UInt8))) : Prop :=
  ps.length = n ∧ (n = 0 ∨ ∃ b off, a = some ⟨b, off, none⟩ ∧ b < w.heap.size ∧ ∀ i, (h : i < ps.length) → ∃ a' c', w.cell? ⟨b, off + i, none⟩ = some (.slice a' ps[i].length c') ∧ RdL w a' ps[i].length ps[i] ∧ (a' = none → c' = 0) ∧ ps[i].length ≤ c')
theorem RdSS.below {w w' : World} {a : Option Addr} {n : Nat} {ps : List (List (List UInt8))} (h : RdSS w a n ps) (k : Below w.heap.size w w') : RdSS w' a n ps := by
  refine ⟨h.1, ?_⟩
  rcases h.2 with e | ⟨b, off, ha, hb, hx⟩
  · exact .inl e
  · refine .inr ⟨b, off, ha, Nat.lt_of_lt_of_le hb k.size, fun i hi => ?_⟩
    obtain ⟨a', c', h1, h2, h3, h4⟩ := hx i hi
    exact ⟨a', c', by rw [below_at k hb, h1], h2.below k, h3, h4⟩
theorem OwnSS.read {B : Nat} {v : Value} {us : List Value} {ps : List (List (List UInt8))} {w : World} (h : OwnSS B v us ps w) : ∃ a c, v = .slice a ps.length c ∧ RdSS w a ps.length ps ∧ ps.length ≤ maxLen ∧ (a = none → c = 0) ∧ ps.length ≤ c := by
  rcases h.row.2 with ⟨hv, h0⟩ | ⟨g, cap, cur, hv, hg1, hg2, hn, hc, hsz, htk⟩
  · exact ⟨none, 0, by rw [hv, h0], ⟨rfl, .inl h0⟩, by omega, fun _ => rfl, by omega⟩
  · refine ⟨some ⟨g, 0, none⟩, cap, hv, ⟨rfl, .inr ⟨g, 0, rfl, ?_, fun i hi => ?_⟩⟩, by omega, (fun e => by cases e), hn⟩
    · rcases Nat.lt_or_ge g w.heap.size with h' | h'
      · exact h'
      · simp [Array.getElem?_eq_none h'] at hg2
    · have hiu : i < us.length := by rw [h.len]; exact hi
      have ho := h.each i us[i] ps[i] (List.getElem?_eq_getElem hiu) (List.getElem?_eq_getElem hi)
      obtain ⟨a', c', e, hr, _, h3, h4⟩ := ho.readc
      refine ⟨a', c', ?_, hr, h3, h4⟩
      have := h.row.cells (g := g) (by rw [hv]; rfl) i us[i] (List.getElem?_eq_getElem hiu)
      rw [add0] at this
      rw [Nat.zero_add, this, e]
set_option maxRecDepth 100000 in
set_option maxHeartbeats 400000 in
/-- One row more behind a row of rows. -/
theorem wpList_append_SS {ops : Array Oper} {rest : List Oper} {o : Oper} {Q : Exit → Act → World → Prop} {a : Act} {w : World} (hw : Region.wanted o (yielded ops a.tmps) = true) (s x : Operand)
    (ho : o.op = .call { callee := .builtin .append, args := #[s, x], argTypes := #[40, 40] })
    (B : Nat) (v u : Value) (us : List Value) (ps : List (List (List UInt8))) (p : List (List UInt8)) (b : Nat) (hs : a.eval s = v) (hx : a.eval x = .slice (some ⟨b, 0, none⟩) 1 1) (hc : w.cell? ⟨b, 0, none⟩ = some u) (h1 : u.oneCell' = true)
    (hown : OwnSS B v us ps w) (hu : OwnL B u p w) (hv : ∀ g, u.ownBlock = some g → v.ownBlock ≠ some g) (hus : ∀ (i : Nat) z g, us[i]? = some z → u.ownBlock = some g → z.ownBlock ≠ some g) (hB : B ≤ w.heap.size) (hl : ps.length ≤ 2000000)
    (h : ∀ v' w', OwnSS B v' (us ++ [u]) (ps ++ [p]) w' → w.grownBy w' v.ownBlock → (v'.ownBlock = v.ownBlock ∨ v'.ownBlock = some w.heap.size) → wpList Tryd.prog ops Q rest (a.put o.dst v') w') : wpList Tryd.prog ops Q (o :: rest) a w := by
  obtain ⟨i0, hi, hz0, hz1, hz2⟩ := info_parts ssInfo
  refine wpList_unguardL hw ?_
  refine wpList_append_own_at w rfl s x 40 ho B 37 i0 (.slice none 0 0) 1 24 Tryd.underlying40 hi hz0 hz1 hz2 rfl (by decide) v ps.length us hs hown.row ⟨b, 0, none⟩ 1 1 [u] hx rfl ?_ ?_ ?_ ?_ hB ?_
  · intro j z hj
    have hj0 : j = 0 := by
      have := (List.getElem?_eq_some_iff.1 hj).1
      simpa using this
    subst hj0
    simp at hj
    rw [addr_add, hc, hj]
  · intro z hz
    rw [List.mem_singleton.1 hz]; exact h1
  · unfold maxLen; omega
  · omega
  · intro v' w' ho' hgr _ hat
    have hlen := hown.len
    have hlt := hown.lt
    have hul := hu.lt
    have hbig : ∀ g, (us ++ [u])[us.length]? = some g → g = u := fun g hg => by simpa using hg.symm
    have get : ∀ (i : Nat) (z : Value), (us ++ [u])[i]? = some z → (us[i]? = some z ∧ i < us.length) ∨ (i = us.length ∧ z = u) := by
      intro i z hz
      rcases Nat.lt_trichotomy i us.length with hi | hi | hi
      · rw [List.getElem?_append_left hi] at hz; exact .inl ⟨hz, hi⟩
      · subst hi; exact .inr ⟨rfl, hbig z hz⟩
      · rw [List.getElem?_eq_none (by simp; omega)] at hz; cases hz
    have blk : ∀ (z : Value) g, z.ownBlock = some g → g < w.heap.size → v.ownBlock ≠ some g → v'.ownBlock ≠ some g := by
      intro z g _ hg hne
      rcases hat with e | e
      · rw [e]; exact hne
      · rw [e]; intro e2; injection e2 with e2; omega
    refine h v' w' ⟨?_, ?_, ?_, ?_⟩ hgr hat
    · rw [List.length_append, List.length_singleton]; exact ho'
    · intro i z q hz hq
      rcases get i z hz with ⟨hz', hi'⟩ | ⟨rfl, rfl⟩
      · rw [List.getElem?_append_left (by omega)] at hq
        exact (hown.each i z q hz' hq).grown hgr (fun g hg => hown.off i z g hz' hg)
      · rw [hlen, List.getElem?_append_right (Nat.le_refl _)] at hq
        simp at hq
        subst hq
        exact hu.grown hgr hv
    · intro i z g hz hg
      rcases get i z hz with ⟨hz', _⟩ | ⟨_, rfl⟩
      · exact blk z g hg (hlt.2 i z g hz' hg).2 (hown.off i z g hz' hg)
      · exact blk z g hg (hul g hg).2 (hv g hg)
    · intro i j z y g hz hy hij hg
      rcases get i z hz with ⟨hz', _⟩ | ⟨hi', rfl⟩
      · rcases get j y hy with ⟨hy', _⟩ | ⟨_, rfl⟩
        · exact hown.apart i j z y g hz' hy' hij hg
        · intro e; exact hus i z g hz' e hg
      · rcases get j y hy with ⟨hy', _⟩ | ⟨hj', rfl⟩
        · exact hus j y g hy' hg
        · omega
/-- A row of rows in which one of them has grown, and is stored in its place. -/
theorem OwnSS.store {B : Nat} {v u u' : Value} {us : List Value} {ps : List (List (List UInt8))} {p' : List (List UInt8)} {w w2 : World} {k gv n c m : Nat} (h : OwnSS B v us ps w) (hv : v = .slice (some ⟨gv, 0, none⟩) n c) (hu : us[k]? = some u) (hg : w.grownBy w2 u.ownBlock) (hu' : OwnL B u' p' w2)
    (hat : u'.ownBlock = u.ownBlock ∨ u'.ownBlock = some m) (hm : w.heap.size ≤ m) :
    w2.cell? ⟨gv, k, none⟩ = some u ∧ w2.frozen? ⟨gv, k, none⟩ = false ∧ OwnSS B v (us.set k u') (ps.set k p') (w2.setCell ⟨gv, k, none⟩ u') := by
  have hk := (List.getElem?_eq_some_iff.1 hu).1
  have hlt := h.lt
  have hvb : v.ownBlock = some gv := by rw [hv]; rfl
  have hvn : v = .slice (some ⟨gv, 0, none⟩) ps.length c := by
    rcases h.row.2 with ⟨hn, _⟩ | ⟨g', cap', cur', hv', _⟩
    · rw [hn] at hv; cases hv
    · rw [hv] at hv'; injection hv' with e1 e2 e3
      rw [hv, e2]
  have huv : ∀ g, v.ownBlock = some g → u.ownBlock ≠ some g := fun g hg' hug => h.off k u g hu hug hg'
  have hrow2 : w2.ownsRow B 37 1 (.slice (some ⟨gv, 0, none⟩) ps.length c) ps.length us := by
    have := World.ownsRow.kept h.row hg (.inr (fun e => huv gv hvb (by rw [← e, hvb])))
    rw [hvn] at this; exact this
  have hst := hrow2.stored k u'
  have hgu' : u'.ownBlock ≠ some gv := by
    rcases hat with e | e
    · rw [e]; exact huv gv hvb
    · rw [e]; intro e2; injection e2 with e2
      have := (hlt.1 gv hvb).2; omega
  have get : ∀ (i : Nat) (z : Value), (us.set k u')[i]? = some z → (i ≠ k ∧ us[i]? = some z) ∨ (i = k ∧ z = u') := by
    intro i z hz
    by_cases hi : i = k
    · subst hi
      rw [List.getElem?_set_self hk] at hz
      injection hz with hz
      exact .inr ⟨rfl, hz.symm⟩
    · rw [List.getElem?_set_ne (fun e => hi e.symm)] at hz
      exact .inl ⟨hi, hz⟩
  have far : ∀ (i : Nat) z g, i ≠ k → us[i]? = some z → z.ownBlock = some g → u'.ownBlock ≠ some g := by
    intro i z g hi hz hzg
    rcases hat with e | e
    · rw [e]; exact h.apart i k z u g hz hu hi hzg
    · rw [e]; intro e2; injection e2 with e2
      have := (hlt.2 i z g hz hzg).2; omega
  refine ⟨?_, hrow2.frozenAt k, ⟨?_, ?_, ?_, ?_⟩⟩
  · have := hrow2.cells (g := gv) rfl k u hu
    rw [add0] at this; exact this
  · rw [List.length_set, hvn]; exact hst.1
  · intro i z q hz hq
    rcases get i z hz with ⟨hi, hz'⟩ | ⟨rfl, rfl⟩
    · rw [List.getElem?_set_ne (fun e => hi e.symm)] at hq
      have h1 := (h.each i z q hz' hq).grown hg (fun g hg' e => h.apart i k z u g hz' hu hi hg' e)
      exact h1.grown hst.2 (fun g hg' e => by
        injection e with e; subst e; exact h.off i z gv hz' hg' hvb)
    · rw [List.getElem?_set_self (by rw [← h.len]; exact hk)] at hq
      injection hq with hq
      subst hq
      exact hu'.grown hst.2 (fun g hg' e => by injection e with e; subst e; exact hgu' hg')
  · intro i z g hz hg'
    rcases get i z hz with ⟨hi, hz'⟩ | ⟨rfl, rfl⟩
    · exact h.off i z g hz' hg'
    · rw [hvb]; intro e; injection e with e; subst e; exact hgu' hg'
  · intro i j z y g hz hy hij hg'
    rcases get i z hz with ⟨hi, hz'⟩ | ⟨hi, rfl⟩
    · rcases get j y hy with ⟨hj, hy'⟩ | ⟨hj, rfl⟩
      · exact h.apart i j z y g hz' hy' hij hg'
      · exact far i z g hi hz' hg'
    · rcases get j y hy with ⟨hj, hy'⟩ | ⟨hj, rfl⟩
      · intro e; exact far j y g hj hy' e hg'
      · omega
theorem OwnSS.cases {B : Nat} {v : Value} {us : List Value} {ps : List (List (List UInt8))} {w : World} (h : OwnSS B v us ps w) (h0 : ps.length ≠ 0) : ∃ g cap, v = .slice (some ⟨g, 0, none⟩) ps.length cap ∧ B ≤ g ∧ g < w.heap.size ∧ ps.length ≤ cap := by
  rcases h.row.2 with ⟨_, h0'⟩ | ⟨g, cap, cur, rfl, hBg, hg2, hn, _⟩
  · exact absurd h0' h0
  · exact ⟨g, cap, rfl, hBg, (h.lt.1 g rfl).2, hn⟩
theorem OwnSS.cellAt {B g n cap : Nat} {us : List Value} {ps : List (List (List UInt8))} {w : World} (h : OwnSS B (.slice (some ⟨g, 0, none⟩) n cap) us ps w) {k : Nat} {u : Value} (hu : us[k]? = some u) : w.cell? ⟨g, k, none⟩ = some u := by
  have := h.row.cells (g := g) rfl k u hu
  rw [add0] at this; exact this
/-- What the model holds while it splits: the parts that are whole, the one that is open, and whether one is. -/
structure SplitSt (B : Nat) (v u : Value) (us : List Value) (qs : List (List (List UInt8))) (cur : List (List UInt8)) (w : World) : Prop where
  out : OwnSS B v us qs w
  part : OwnL B u cur w
  off : ∀ g, u.ownBlock = some g → v.ownBlock ≠ some g
  apart : ∀ (i : Nat) z g, us[i]? = some z → u.ownBlock = some g → z.ownBlock ≠ some g
theorem SplitSt.keep {B : Nat} {v u : Value} {us : List Value} {qs : List (List (List UInt8))} {cur : List (List UInt8)} {w w' : World} (h : SplitSt B v u us qs cur w) (k : Below w.heap.size w w') : SplitSt B v u us qs cur w' :=
  ⟨h.out.keep k, h.part.keep k, h.off, h.apart⟩
theorem SplitSt.fresh {B : Nat} {v : Value} {us : List Value} {qs : List (List (List UInt8))} {w : World} (h : OwnSS B v us qs w) (hB : B ≤ w.heap.size) : SplitSt B v (.slice (some ⟨w.heap.size, 0, none⟩) 0 0) us qs [] (w.alloc (.cells #[] 9)) :=
  ⟨h.keep ((Below.refl _ _).alloc (Nat.le_refl _) _), (OwnL.empty w).base hB, fun g hg e => by
    have hg : some w.heap.size = some g := hg
    injection hg with hg
    have := (h.lt.1 g e).2; omega, fun i z g hz hg e => by
    have hg : some w.heap.size = some g := hg
    injection hg with hg
    have := (h.lt.2 i z g hz e).2; omega⟩
theorem SplitSt.more {B m : Nat} {v u u' : Value} {us : List Value} {qs : List (List (List UInt8))} {cur cur' : List (List UInt8)} {w w' : World} (h : SplitSt B v u us qs cur w) (hg : w.grownBy w' u.ownBlock) (ho : OwnL B u' cur' w') (hat : u'.ownBlock = u.ownBlock ∨ u'.ownBlock = some m) (hm : w.heap.size ≤ m) : SplitSt B v u' us qs cur' w' :=
  ⟨h.out.grown hg (fun g hv hu => h.off g hu hv) (fun i z g hz hzg hu => h.apart i z g hz hu hzg), ho, fun g hg' e => by
    rcases hat with a | a
    · exact h.off g (a ▸ hg') e
    · rw [a] at hg'; injection hg' with hg'
      have := (h.out.lt.1 g e).2; omega, fun i z g hz hg' e => by
    rcases hat with a | a
    · exact h.apart i z g hz (a ▸ hg') e
    · rw [a] at hg'; injection hg' with hg'
      have := (h.out.lt.2 i z g hz e).2; omega⟩
theorem grown_touch {R : Nat} {w w' : World} (t : Touch R w w') : w.grownBy w' (some R) := ⟨t.os, t.tape, t.output, t.size, fun k hk hne => t.block k hk (fun e => hne (by rw [e]))⟩
theorem OwnSS.touch {B R : Nat} {v : Value} {us : List Value} {ps : List (List (List UInt8))} {w w' : World} (h : OwnSS B v us ps w) (t : Touch R w w') (hR : R < B) : OwnSS B v us ps w' :=
  h.grown (grown_touch t) (fun g hg e => by injection e with e; have := (h.lt.1 g hg).1; omega) (fun i u g hu hg e => by injection e with e; have := (h.lt.2 i u g hu hg).1; omega)
theorem SplitSt.touch {B R : Nat} {v u : Value} {us : List Value} {qs : List (List (List UInt8))} {cur : List (List UInt8)} {w w' : World} (h : SplitSt B v u us qs cur w) (t : Touch R w w') (hR : R < B) : SplitSt B v u us qs cur w' :=
  ⟨h.out.touch t hR, h.part.grown (grown_touch t) (fun g hg e => by injection e with e; have := (h.part.lt g hg).1; omega), h.off, h.apart⟩
end Go.Proofs.YtfheajfcepcepaaDoor
end

section
namespace Go.Proofs.YtfheajfcepcepaaDoor
open Go.RowKit

theorem str_appP (l k : List UInt8) : str l ++ str k = str (l ++ k) := by
  apply bytes_ext; rw [str_list]; simp [str]
theorem beg_str (s : ByteArray) : (⟨#[45, 45]⟩ : ByteArray) ++ s = str (begL s.data.toList) := by
  apply bytes_ext; rw [str_list, Joins.data_append]; rfl
theorem end_str (s : ByteArray) : str (begL s.data.toList) ++ (⟨#[45, 45]⟩ : ByteArray) = str (endL s.data.toList) := by
  apply bytes_ext; rw [Joins.data_append, str_list, str_list]; unfold begL endL; simp
theorem beg_size (b : List UInt8) : (str (begL b)).size = b.length + 2 := by rw [str_size]; simp [begL]
theorem end_size (b : List UInt8) : (str (endL b)).size = b.length + 4 := by rw [str_size]; simp [endL]
theorem last_cases {α : Type} (l : List α) : l = [] ∨ ∃ r c, l = r ++ [c] := by
  rcases List.eq_nil_or_concat l with h | ⟨r, c, h⟩
  · exact .inl h
  · exact .inr ⟨r, c, by simpa using h⟩
theorem str_ne_iff {x : List UInt8} {Y : ByteArray} {y : List UInt8} (h : Y = str y) : (str x = Y) ↔ x = y := by
  subst h; exact ⟨fun e => by rw [← str_list x, e, str_list], fun e => by rw [e]⟩
theorem sb_t {x : List UInt8} {Y : ByteArray} {y : List UInt8} (h : Y = str y) (e : x = y) : ((str x).toList == Y.toList) = true := by rw [beq_dec, decide_eq_true_iff]; exact (str_ne_iff h).2 e
theorem sb_f {x : List UInt8} {Y : ByteArray} {y : List UInt8} (h : Y = str y) (e : x ≠ y) : ((str x).toList == Y.toList) = false := by rw [beq_dec, decide_eq_false_iff_not]; exact fun c => e ((str_ne_iff h).1 c)
theorem isBnd_iff {b : List UInt8} : isBnd b = true ↔ (∀ x ∈ b, alnumB x = true) ∧ 1 ≤ b.length ∧ b.length ≤ 20 := by
  unfold isBnd; simp only [Bool.and_eq_true, decide_eq_true_eq, List.all_eq_true]
theorem isBnd_bad (s : ByteArray) (k : Nat) (hk : k < s.size) (h : alnumB s[k] = false) : isBnd s.data.toList = false := by
  have hm : s[k] ∈ s.data.toList := by simp [ByteArray.getElem_eq_getElem_data]
  have : s.data.toList.all alnumB = false := by rw [List.all_eq_false]; exact ⟨_, hm, by simp [h]⟩
  unfold isBnd; rw [this]; rfl
theorem isBnd_len (s : ByteArray) (h : s.size < 1 ∨ 20 < s.size) : isBnd s.data.toList = false := by
  unfold isBnd; rw [size_list]
  rcases h with h | h
  · rw [decide_eq_false (by omega)]; simp
  · rw [decide_eq_false (p := s.size ≤ 20) (by omega)]; simp
theorem isBnd_good (s : ByteArray) (h1 : 1 ≤ s.size) (h2 : s.size ≤ 20) (h : ∀ j, (h' : j < s.size) → alnumB s[j] = true) : isBnd s.data.toList = true := by
  refine isBnd_iff.2 ⟨fun x hx => ?_, by rw [size_list]; exact h1, by rw [size_list]; exact h2⟩
  obtain ⟨j, hj, rfl⟩ := List.getElem_of_mem hx
  exact h j hj
theorem bnd_size {s : ByteArray} (h : isBnd s.data.toList = true) : 1 ≤ s.size ∧ s.size ≤ 20 := by
  have := isBnd_iff.1 h; rw [size_list] at this; exact this.2
def FreshRet (o : Option (List UInt8)) (w : World) (e : Ending) (w' : World) : Prop := e = .returned (.tuple #[.string (str (o.getD [])), .bool o.isSome]) ∧ Below w.heap.size w w'
theorem freshRet_none {o : Option (List UInt8)} {w w' : World} (h : o = none) (hb : Below w.heap.size w w') : FreshRet o w (.returned (.tuple #[.string ⟨#[]⟩, .bool false])) w' := by
  subst h; exact ⟨rfl, hb⟩
theorem freshRet_some {o : Option (List UInt8)} {b : List UInt8} {X : ByteArray} {w w' : World} (h : o = some b) (hX : X = str b) (hb : Below w.heap.size w w') : FreshRet o w (.returned (.tuple #[.string X, .bool true])) w' := by
  subst h hX; exact ⟨rfl, hb⟩
theorem bName_strP (n : Nat) : (⟨#[98]⟩ : ByteArray) ++ str (Lib.decDigits n) = str (bName n) := by
  apply bytes_ext; rw [str_list, Joins.data_append, str_list]; rfl
theorem decD_smallP {n : Nat} (h : n < 100) : (str (Lib.decDigits n)).size ≤ 2 := by
  have := bName_len h
  unfold bName at this
  rw [str_size]
  rw [List.length_cons] at this
  split at this <;> omega
set_option maxRecDepth 100000 in
set_option maxHeartbeats 2000000 in
theorem boundaryValid_any (s : ByteArray) (w : World) (hs : s.size ≤ 1073741824) :
    Calls Tryd.prog 51 #[.string s] w fun e w' => e = .returned (.bool (isBnd s.data.toList)) ∧ w = w' := by
  go_enter Tryd.func51, Tryd.ntmps51
  go_wp2_with fail
  go_loop [3] (fun i => ∃ k : Nat, k ≤ s.size ∧ i = .int .i64 k ∧ ∀ j, (h : j < k) → (h' : j < s.size) → alnumB s[j] = true) (fun i => s.size - (intOf i).toNat)
  case atStart => exact ⟨0, Nat.zero_le _, rfl, fun j h => by omega⟩
  case round =>
    obtain ⟨k, hk, rfl, hall⟩ := hrel
    have H := Lib.hid hall
    clear hall
    by_cases hlt : k < s.size
    · cases h1 : letB s[k]
      · cases h2 : digB s[k]
        · have HN := Lib.hid (isBnd_bad s k hlt (by rw [alnum_eq, h1, h2]; rfl))
          have H1 := Lib.hid h1
          have H2 := Lib.hid h2
          clear h1 h2
          go_wp2_with fail
          refine (isLetter_any _ _).mono ?_
          rintro e w1 ⟨rfl, rfl⟩
          rw [H1.out]
          go_wp2_with fail
          refine (isDigit_any _ _).mono ?_
          rintro e w1 ⟨rfl, rfl⟩
          rw [H2.out]
          go_wp2
          go_ret
          exact ⟨ret_bool HN.out.symm, rfl⟩
        · have HN : Hid (alnumB s[k] = true) := by show _ = _; rw [alnum_eq, h2]; simp
          have H1 := Lib.hid h1
          have H2 := Lib.hid h2
          clear h1 h2
          go_wp2_with fail
          refine (isLetter_any _ _).mono ?_
          rintro e w1 ⟨rfl, rfl⟩
          rw [H1.out]
          go_wp2_with fail
          refine (isDigit_any _ _).mono ?_
          rintro e w1 ⟨rfl, rfl⟩
          rw [H2.out]
          go_wp2
          go_round
          case rel => exact ⟨k + 1, by omega, by go_num, fun j h h' => by
            by_cases e : j = k
            · subst e; exact HN.out
            · exact H.out j (by omega) h'⟩
          case measure => simp [intOf]; omega
      · have HN : Hid (alnumB s[k] = true) := by show _ = _; rw [alnum_eq, h1]; simp
        have H1 := Lib.hid h1
        clear h1
        go_wp2_with fail
        refine (isLetter_any _ _).mono ?_
        rintro e w1 ⟨rfl, rfl⟩
        rw [H1.out]
        go_wp2
        go_round
        case rel => exact ⟨k + 1, by omega, by go_num, fun j h h' => by
          by_cases e : j = k
          · subst e; exact HN.out
          · exact H.out j (by omega) h'⟩
        case measure => simp [intOf]; omega
    · by_cases h0 : s.size = 0
      · have HN := Lib.hid (isBnd_len s (.inl (by omega)))
        have he := empty_t h0
        have H0 := Lib.hid h0
        clear h0
        go_wp2
        go_ret
        exact ⟨ret_bool HN.out.symm, rfl⟩
      · have he := empty_f (s := s) (by omega)
        by_cases h20 : s.size ≤ 20
        · have HN := Lib.hid (isBnd_good s (by omega) h20 (fun j h' => H.out j (by omega) h'))
          have d1 : decide ((s.size : Int) ≤ 20) = true := by simp; omega
          go_wp2
          go_ret
          exact ⟨ret_bool HN.out.symm, rfl⟩
        · have HN := Lib.hid (isBnd_len s (.inr (by omega)))
          have d1 : decide ((s.size : Int) ≤ 20) = false := by simp; omega
          go_wp2
          go_ret
          exact ⟨ret_bool HN.out.symm, rfl⟩
set_option maxRecDepth 100000 in
set_option maxHeartbeats 400000 in
theorem marksOf_any (s : ByteArray) (w : World) (hs : s.size ≤ 1000000) :
    Calls Tryd.prog 55 #[.string s] w fun e w' => e = .returned (.tuple #[.string (str (begL s.data.toList)), .string (str (endL s.data.toList))]) ∧ w = w' := by
  have HB := Lib.hid (beg_str s)
  have HE := Lib.hid (end_str s)
  have hz := beg_size s.data.toList
  rw [size_list] at hz
  have HB2 : Hid ((⟨#[45, 45]⟩ : ByteArray) ++ s ++ ⟨#[45, 45]⟩ = str (endL s.data.toList)) := by show _ = _; rw [HB.out, HE.out]
  have z2 : (⟨#[45, 45]⟩ : ByteArray).size = 2 := rfl
  clear hz
  go_enter Tryd.func55, Tryd.ntmps55
  go_wp2
  go_ret2
  exact ⟨rfl, rfl⟩
def idxS (xs : List (List UInt8)) (y : List UInt8) : Int := if xs.contains y then ((xs.takeWhile (· != y)).length : Int) else -1
theorem idxS_at {xs : List (List UInt8)} {y : List UInt8} {k : Nat} (hk : k < xs.length) (h : xs[k] = y) (h2 : ∀ j, j < k → (hj : j < xs.length) → xs[j] ≠ y) : idxS xs y = (k : Int) := by
  unfold idxS
  have hm : xs.contains y = true := by rw [List.contains_iff_mem, ← h]; exact List.getElem_mem hk
  rw [if_pos hm]
  have key : ∀ (xs : List (List UInt8)) (k : Nat) (hk : k < xs.length), xs[k] = y → (∀ j, j < k → (hj : j < xs.length) → xs[j] ≠ y) → (xs.takeWhile (· != y)).length = k := by
    intro xs
    induction xs with
    | nil => intro k hk; simp at hk
    | cons x xs ih =>
      intro k hk h h2
      match k, hk, h, h2 with
      | 0, _, h, _ =>
        have h : x = y := h
        rw [List.takeWhile_cons_of_neg (by simp [h])]; rfl
      | k + 1, hk, h, h2 =>
        have h0 : x ≠ y := h2 0 (by omega) (by omega)
        rw [List.takeWhile_cons_of_pos (by simpa using h0), List.length_cons, ih k (by simpa using hk) h (fun j hj hl => h2 (j + 1) (by omega) (by simpa using hl))]
  rw [key xs k hk h h2]
theorem idxS_none {xs : List (List UInt8)} {y : List UInt8} (h2 : ∀ j, (hj : j < xs.length) → xs[j] ≠ y) : idxS xs y = -1 := by
  unfold idxS
  rw [if_neg]
  rw [List.contains_iff_mem]; intro hm
  obtain ⟨j, hj, h⟩ := List.getElem_of_mem hm
  exact h2 j hj h
theorem idxS_has (xs : List (List UInt8)) (y : List UInt8) : decide (0 ≤ idxS xs y) = xs.contains y := by
  unfold idxS
  split
  · rename_i h; rw [h]; simp
  · rename_i h; simp only [Bool.not_eq_true] at h; rw [h]; decide
set_option maxRecDepth 100000 in
set_option maxHeartbeats 1000000 in
theorem indexS_any (a : Option Addr) (n c : Nat) (xs : List (List UInt8)) (y : List UInt8) (w : World) (hr : RdL w a n xs) (hn : n ≤ 1073741824) :
    Calls Tryd.prog 98 #[.slice a n c, .string (str y)] w fun e w' => e = .returned (.int .i64 (idxS xs y)) ∧ Below w.heap.size w w' := by
  obtain ⟨hl, hr2⟩ := hr
  have HLEN := Lib.hid hl
  have HR := Lib.hid hr2
  clear hl hr2
  obtain ⟨Y, hY⟩ : ∃ Y, Y = str y := ⟨_, rfl⟩
  have HY := Lib.hid hY
  rw [← hY]
  clear hY
  go_enter Tryd.func98, Tryd.ntmps98
  go_wp2_with fail
  go_loopw [8] (fun i wr => ∃ (k : Nat), k ≤ n ∧ i = .int .i64 k ∧ Below w.heap.size w wr ∧ ∀ j, j < k → (hj : j < xs.length) → xs[j] ≠ y) (fun i _ => n - (intOf i).toNat)
  case atStart => exact ⟨0, Nat.zero_le _, rfl, Below.refl _ _, fun j h => by omega⟩
  case round =>
    obtain ⟨k, hk, rfl, hb, hall⟩ := hrel
    have HA := Lib.hid hall
    clear hall
    by_cases hlt : k < n
    · have hkx : k < xs.length := by rw [HLEN.out]; exact hlt
      obtain ⟨b, off, rfl, hbl, hcell⟩ := HR.out.resolve_left (by omega)
      have q0 : wr.cell? ⟨b, off + k, none⟩ = some (.string (str xs[k])) := by rw [below_at hb hbl]; exact hcell k hkx
      clear hcell
      have HQ : Hid ((str xs[k] = Y) = (xs[k] = y)) := by
        show _ = _
        rw [HY.out]
        exact propext ⟨fun h => by rw [← str_list xs[k], h, str_list], fun h => by rw [h]⟩
      by_cases hq : xs[k] = y
      · have HF := Lib.hid (idxS_at hkx hq (fun j hj hl => HA.out j hj hl))
        have e1 : (Y.toList == (str xs[k]).toList) = true := by rw [beq_dec, decide_eq_true_iff]; exact (HQ.out.symm ▸ hq : str xs[k] = Y).symm
        have e2 : ((str xs[k]).toList == Y.toList) = true := by rw [beq_dec, decide_eq_true_iff]; exact (HQ.out.symm ▸ hq : str xs[k] = Y)
        clear hq HQ
        generalize str xs[k] = X at *
        go_wp2
        go_ret
        exact ⟨ret_int HF.out.symm, hb⟩
      · have e1 : (Y.toList == (str xs[k]).toList) = false := by rw [beq_dec, decide_eq_false_iff_not]; intro h; exact hq (HQ.out ▸ h.symm)
        have e2 : ((str xs[k]).toList == Y.toList) = false := by rw [beq_dec, decide_eq_false_iff_not]; intro h; exact hq (HQ.out ▸ h)
        have HN := Lib.hid hq
        clear hq HQ
        generalize str xs[k] = X at *
        go_wp2
        go_roundw
        case rel => exact ⟨k + 1, by omega, by go_num, hb, fun j hj hjx => by
          by_cases e : j = k
          · subst e; exact HN.out
          · exact HA.out j (by omega) hjx⟩
        case measure => simp [intOf]; omega
    · have HF := Lib.hid (idxS_none (y := y) (fun j hj => HA.out j (by have := HLEN.out; omega) hj))
      go_wp2
      go_ret
      exact ⟨ret_int HF.out.symm, hb⟩
theorem containsS_any (a : Option Addr) (n c : Nat) (xs : List (List UInt8)) (y : List UInt8) (w : World) (hr : RdL w a n xs) (hn : n ≤ 1073741824) :
    Calls Tryd.prog 85 #[.slice a n c, .string (str y)] w fun e w' => e = .returned (.bool (xs.contains y)) ∧ Below w.heap.size w w' := by
  have HX := Lib.hid (idxS_has xs y)
  have HS : Hid (∀ u, RdL u a n xs → Calls Tryd.prog 98 #[.slice a n c, .string (str y)] u fun e w' => e = .returned (.int .i64 (idxS xs y)) ∧ Below u.heap.size u w') := fun u h => indexS_any a n c xs y u h hn
  generalize idxS xs y = m at *
  generalize xs.contains y = q at *
  generalize str y = Y at *
  have HR := Lib.hid hr
  clear hr
  go_enter Tryd.func85, Tryd.ntmps85
  go_wp2_with fail
  refine (HS.out _ HR.out).mono ?_
  rintro e w1 ⟨rfl, hb1⟩
  go_wp2
  go_ret
  exact ⟨ret_bool HX.out, hb1⟩
set_option maxRecDepth 100000 in
set_option maxHeartbeats 1000000 in
theorem hasMark_any (a : Option Addr) (n c : Nat) (xs : List (List UInt8)) (s : ByteArray) (w : World) (hr : RdL w a n xs) (hn : n ≤ 1073741824) (hs : s.size ≤ 1000000) :
    Calls Tryd.prog 56 #[.slice a n c, .string s] w fun e w' => e = .returned (.bool (!freeB s.data.toList xs)) ∧ Below w.heap.size w w' := by
  have HF : Hid ((!freeB s.data.toList xs) = (xs.contains (begL s.data.toList) || xs.contains (endL s.data.toList))) := by show _ = _; rw [freeB_any, Bool.not_not]
  have H1 : Hid (∀ u, RdL u a n xs → Calls Tryd.prog 85 #[.slice a n c, .string (str (begL s.data.toList))] u fun e w' => e = .returned (.bool (xs.contains (begL s.data.toList))) ∧ Below u.heap.size u w') := fun u h => containsS_any a n c xs _ u h hn
  have H2 : Hid (∀ u, RdL u a n xs → Calls Tryd.prog 85 #[.slice a n c, .string (str (endL s.data.toList))] u fun e w' => e = .returned (.bool (xs.contains (endL s.data.toList))) ∧ Below u.heap.size u w') := fun u h => containsS_any a n c xs _ u h hn
  have HM := Lib.hid (fun u => marksOf_any s u hs)
  generalize xs.contains (begL s.data.toList) = q1 at *
  generalize xs.contains (endL s.data.toList) = q2 at *
  generalize str (begL s.data.toList) = Y1 at *
  generalize str (endL s.data.toList) = Y2 at *
  have HR := Lib.hid hr
  clear hr
  cases q1
  all_goals
    go_enter Tryd.func56, Tryd.ntmps56
    go_wp2_with fail
    refine (HM.out _).mono ?_
    rintro e w1 ⟨rfl, rfl⟩
    go_wp2_with fail
    refine (H1.out _ HR.out).mono ?_
    rintro e w2 ⟨rfl, hb2⟩
    first
      | (go_wp2_with fail
         refine (H2.out _ (HR.out.below hb2)).mono ?_
         rintro e w3 ⟨rfl, hb3⟩
         go_wp2
         go_ret
         exact ⟨ret_bool (by rw [HF.out]; rfl), nx hb2 hb3⟩)
      | (go_wp2
         go_ret
         exact ⟨ret_bool (by rw [HF.out]; rfl), hb2⟩)
/-- What joining leaves: the lines, and whether there are any. -/
def LinesRet (o : Option (List (List UInt8))) (w : World) (e : Ending) (w' : World) : Prop := ∃ v, e = .returned (.tuple #[v, .bool o.isSome]) ∧ OwnL w.heap.size v (o.getD []) w' ∧ Below w.heap.size w w'
theorem linesRet_none {o : Option (List (List UInt8))} {w w' : World} (h : o = none) (hb : Below w.heap.size w w') : LinesRet o w (.returned (.tuple #[.slice none 0 0, .bool false])) w' := by
  subst h; exact ⟨_, rfl, OwnL.nil _ _, hb⟩
theorem linesRet_some {o : Option (List (List UInt8))} {ps : List (List UInt8)} {w w' : World} {v : Value} (h : o = some ps) (ho : OwnL w.heap.size v ps w') (hb : Below w.heap.size w w') : LinesRet o w (.returned (.tuple #[v, .bool true])) w' := by
  subst h; exact ⟨v, rfl, ho, hb⟩
set_option maxRecDepth 100000 in
set_option maxHeartbeats 4000000 in
theorem joinParts_any (a : Option Addr) (n c : Nat) (ps : List (List (List UInt8))) (s : ByteArray) (w : World) (hr : RdSS w a n ps) (hn : n ≤ 1048576) (hps : sumP ps ≤ 4000000) (hs : s.size ≤ 1073741824) :
    Calls Tryd.prog 22 #[.slice a n c, .string s] w (LinesRet (joinP ps s.data.toList) w) := by
  obtain ⟨hl, hr2⟩ := hr
  have HLEN := Lib.hid hl
  have HR := Lib.hid hr2
  clear hl hr2
  cases hv : isBnd s.data.toList
  · have HP := Lib.hid (joinP_no (ps := ps) hv)
    have HV := Lib.hid hv
    clear hv
    go_enter Tryd.func22, Tryd.ntmps22
    go_wp2_with fail
    refine (boundaryValid_any s _ hs).mono ?_
    rintro e w1 ⟨rfl, rfl⟩
    rw [HV.out]
    go_wp2
    go_ret2
    exact linesRet_none HP.out (Below.refl _ _)
  · have hz := bnd_size hv
    have HV := Lib.hid hv
    by_cases h0 : n = 0
    · have HP : Hid (joinP ps s.data.toList = none) := by show _ = _; rw [List.length_eq_zero_iff.1 (HLEN.out.trans h0), joinP_nil]
      subst h0
      clear hv hz
      go_enter Tryd.func22, Tryd.ntmps22
      go_wp2_with fail
      refine (boundaryValid_any s _ hs).mono ?_
      rintro e w1 ⟨rfl, rfl⟩
      rw [HV.out]
      go_wp2
      go_ret2
      exact linesRet_none HP.out (Below.refl _ _)
    have HPN : Hid (ps ≠ []) := by show _ ≠ _; intro e; exact h0 (by rw [← HLEN.out, e]; rfl)
    have e0 : ((n : Int) == 0) = false := by rw [beq_eq_false_iff_ne]; omega
    have HM : Hid (∀ u, Calls Tryd.prog 55 #[.string s] u fun e w' => e = .returned (.tuple #[.string (str (begL s.data.toList)), .string (str (endL s.data.toList))]) ∧ u = w') := fun u => marksOf_any s u (by omega)
    have HS4 := Lib.hid hps
    obtain ⟨Y1, hY1⟩ : ∃ Y, Y = str (begL s.data.toList) := ⟨_, rfl⟩
    obtain ⟨Y2, hY2⟩ : ∃ Y, Y = str (endL s.data.toList) := ⟨_, rfl⟩
    rw [← hY1, ← hY2] at HM
    have HY1 : Hid (Y1.data.toList = begL s.data.toList) := by show _ = _; rw [hY1, str_list]
    have HY2 : Hid (Y2.data.toList = endL s.data.toList) := by show _ = _; rw [hY2, str_list]
    obtain ⟨b, off, rfl, hbl, hcell⟩ := HR.out.resolve_left h0
    have HC := Lib.hid hcell
    have hs6 : s.size ≤ 1000000 := by omega
    clear hv hY1 hY2 hz hps hcell h0
    go_enter Tryd.func22, Tryd.ntmps22
    go_wp2_with fail
    refine (boundaryValid_any s _ hs).mono ?_
    rintro e w1 ⟨rfl, rfl⟩
    rw [HV.out]
    go_wp2_with fail
    refine (HM.out _).mono ?_
    rintro e w2 ⟨rfl, rfl⟩
    go_wp2_with fail
    go_loopw [8, 26] (fun v i wr => ∃ (k : Nat), k ≤ n ∧ i = .int .i64 k ∧ (∀ j, j < k → (hj : j < ps.length) → freeB s.data.toList ps[j] = true) ∧ OwnL w.heap.size v (partsL s.data.toList (ps.take k)) wr ∧ Below w.heap.size w wr) (fun _ i _ => n - (intOf i).toNat)
    case atStart => exact ⟨0, Nat.zero_le _, rfl, (fun j hj => by omega), OwnL.nil _ _, Below.refl _ _⟩
    case round =>
      obtain ⟨k, hk, rfl, hall, ho, hb⟩ := hrel
      have HALL := Lib.hid hall
      have hbs := hb.size
      have hpl := partsL_len s.data.toList (ps.take k)
      have hpt := sumP_take ps k
      have hs4 := HS4.out
      have hlen4 : (partsL s.data.toList (ps.take k)).length ≤ 4000000 := by omega
      clear hall hpl hpt hs4
      by_cases hlt : k < n
      · have hkx : k < ps.length := by rw [HLEN.out]; exact hlt
        obtain ⟨a5, c5, q0, hd5, hac5, hnc5⟩ := HC.out k hkx
        rw [← below_at hb hbl] at q0
        have hpk : ps[k].length ≤ 4000000 := by have := sumP_mem (List.getElem_mem hkx); have := HS4.out; omega
        have HSU := Lib.hid (partsL_succ s.data.toList ps k hkx)
        have HPT : Hid ((partsL s.data.toList (ps.take k)).length + 1 + ps[k].length ≤ 4000000) := by
          have h1 := partsL_len s.data.toList (ps.take (k + 1))
          have h2 := sumP_take ps (k + 1)
          have h3 := HS4.out
          show _ ≤ _
          rw [HSU.out, List.length_append, List.length_append, List.length_singleton] at h1
          omega
        have HD5 := Lib.hid hd5
        have HB0 := Lib.hid hb
        have HAC := Lib.hid hac5
        clear hd5 hac5
        cases hf : freeB s.data.toList ps[k]
        · have HP := Lib.hid (joinP_bad (okParts_bad hkx hf))
          have HF := Lib.hid hf
          clear hf
          have HH : Hid (∀ u, RdL u a5 ps[k].length ps[k] → Calls Tryd.prog 56 #[.slice a5 ps[k].length c5, .string s] u fun e w' => e = .returned (.bool true) ∧ Below u.heap.size u w') := fun u h => by
            have := hasMark_any a5 _ c5 ps[k] s u h (by omega) hs6
            rw [HF.out] at this; exact this
          generalize ps[k].length = m at *
          go_wp2_with fail
          refine (HH.out _ (HD5.out.below HB0.out)).mono ?_
          rintro e w3 ⟨rfl, hb3⟩
          go_wp2
          go_ret2
          exact linesRet_none HP.out (nx hb hb3)
        · have HF := Lib.hid hf
          clear hf
          have HH : Hid (∀ u, RdL u a5 ps[k].length ps[k] → Calls Tryd.prog 56 #[.slice a5 ps[k].length c5, .string s] u fun e w' => e = .returned (.bool false) ∧ Below u.heap.size u w') := fun u h => by
            have := hasMark_any a5 _ c5 ps[k] s u h (by omega) hs6
            rw [HF.out] at this; exact this
          have HO := Lib.hid ho
          have hps1 := HPT.out
          clear ho
          obtain ⟨m, hm⟩ : ∃ m, m = ps[k].length := ⟨_, rfl⟩
          have HMM := Lib.hid hm
          rw [← hm] at HH hpk hnc5 HD5 hps1 q0
          obtain ⟨P, hP⟩ : ∃ P, P = partsL s.data.toList (ps.take k) := ⟨_, rfl⟩
          have HPP := Lib.hid hP
          rw [← hP] at HO hlen4 hps1
          clear hm hP
          go_wp2_with fail
          refine (HH.out _ (HD5.out.below HB0.out)).mono ?_
          rintro e w3 ⟨rfl, hb3⟩
          have hb03 := nx hb hb3
          have hbs3 := hb03.size
          have HO3 := Lib.hid (HO.out.keep hb3)
          obtain ⟨a6, c6, rfl, _, _, _, hnc6⟩ := HO3.out.readc
          have HA : Hid (OwnL w.heap.size (.slice a6 P.length c6) P (w3.alloc (.cells #[.string Y1] 9))) := HO3.out.keep ((Below.refl _ _).alloc (Nat.le_refl _) _)
          go_wp2_with (at_builtin; refine wpList_append_1L rfl _ _ rfl w.heap.size _ P Y1 w3.heap.size rfl rfl ?c1 HA.out ?c2 ?c3 ?_)
          case c1 => rw [World.cell?_alloc_at _ _ _ _ rfl]; rfl
          case c2 => simp; omega
          case c3 => omega
          intro v4 w4 hO4 hgr4 _
          have hb4 : Below w.heap.size w w4 := (hb03.alloc hbs3 _).grown hgr4 (by simp; omega) (fun g hg => (HA.out.lt g hg).1)
          have HO4 := Lib.hid hO4
          have HB4 := Lib.hid hb4
          have hbs4 := hb4.size
          clear hO4 hgr4
          go_wp2_with (at_builtin; refine wpList_append_RL rfl _ _ rfl w.heap.size _ (P ++ [Y1.data.toList]) ps[k] a5 m c5 rfl rfl HO4.out (HD5.out.below HB4.out) HAC.out hbs4 ?d1 ?_)
          case d1 => rw [List.length_append, List.length_singleton, ← HMM.out]; omega
          intro v5 w5 hO5 hgr5 _
          have hb5 : Below w.heap.size w w5 := hb4.grown hgr5 hbs4 (fun g hg => (HO4.out.lt g hg).1)
          have HN : Hid (OwnL w.heap.size v5 (partsL s.data.toList (ps.take (k + 1))) w5) := by
            show OwnL _ _ _ _
            rw [HSU.out, ← HPP.out, ← HY1.out, List.append_assoc]; exact hO5
          clear hO5 hgr5
          go_wp2
          go_roundw
          case rel => exact ⟨k + 1, by omega, by go_num, (fun j hj hjx => by
            by_cases e : j = k
            · subst e; exact HF.out
            · exact HALL.out j (by omega) hjx), HN.out, hb5⟩
          case measure => simp [intOf]; omega
      · have hkn : k = ps.length := by rw [HLEN.out]; omega
        have HT : Hid (ps.take k = ps) := by show _ = _; rw [hkn, List.take_length]
        rw [HT.out] at ho hlen4
        have HP : Hid (joinP ps s.data.toList = some (partsL s.data.toList ps ++ [endL s.data.toList])) := by
          show _ = _
          exact joinP_yes HV.out HPN.out (okParts_good fun j hj => HALL.out j (by omega) hj)
        have HO3 := Lib.hid ho
        clear ho hkn
        obtain ⟨P, hP⟩ : ∃ P, P = partsL s.data.toList ps := ⟨_, rfl⟩
        rw [← hP] at HO3 hlen4 HP
        clear hP
        obtain ⟨a6, c6, rfl, _, _, _, hnc6⟩ := HO3.out.readc
        have HA : Hid (OwnL w.heap.size (.slice a6 P.length c6) P (wr.alloc (.cells #[.string Y2] 9))) := HO3.out.keep ((Below.refl _ _).alloc (Nat.le_refl _) _)
        go_wp2_with (at_builtin; refine wpList_append_1L rfl _ _ rfl w.heap.size _ P Y2 wr.heap.size rfl rfl ?c1 HA.out ?c2 ?c3 ?_)
        case c1 => rw [World.cell?_alloc_at _ _ _ _ rfl]; rfl
        case c2 => simp; omega
        case c3 => omega
        intro v4 w4 hO4 hgr4 _
        have hb4 : Below w.heap.size w w4 := (hb.alloc hbs _).grown hgr4 (by simp; omega) (fun g hg => (HA.out.lt g hg).1)
        go_wp2
        go_ret2
        exact linesRet_some HP.out (by rw [← HY2.out]; exact hO4) hb4
end Go.Proofs.YtfheajfcepcepaaDoor
end

section
namespace Go.Proofs.YtfheajfcepcepaaDoor
open Go.RowKit

set_option maxRecDepth 100000 in
set_option maxHeartbeats 2000000 in
theorem l7Boundary_any (s : ByteArray) (w : World) (hs : s.size ≤ 1073741824) :
    Calls Tryd.prog 53 #[.string s] w fun e w' => e = .returned (.bool (isBnd s.data.toList)) ∧ w = w' := by
  go_enter Tryd.func53, Tryd.ntmps53
  go_wp2_with fail
  go_loop [3] (fun i => ∃ k : Nat, k ≤ s.size ∧ i = .int .i64 k ∧ ∀ j, (h : j < k) → (h' : j < s.size) → alnumB s[j] = true) (fun i => s.size - (intOf i).toNat)
  case atStart => exact ⟨0, Nat.zero_le _, rfl, fun j h => by omega⟩
  case round =>
    obtain ⟨k, hk, rfl, hall⟩ := hrel
    have H := Lib.hid hall
    clear hall
    by_cases hlt : k < s.size
    · by_cases h20 : k ≤ 20
      · have d0 : decide ((k : Int) ≤ 20) = true := by simp; omega
        cases h1 : alnumB s[k]
        · have HN := Lib.hid (isBnd_bad s k hlt h1)
          have H1 := Lib.hid h1
          clear h1
          go_wp2_with fail
          refine (l1Letter_any _ _).mono ?_
          rintro e w1 ⟨rfl, rfl⟩
          rw [H1.out]
          go_wp2
          go_ret
          exact ⟨ret_bool HN.out.symm, rfl⟩
        · have H1 := Lib.hid h1
          clear h1
          go_wp2_with fail
          refine (l1Letter_any _ _).mono ?_
          rintro e w1 ⟨rfl, rfl⟩
          rw [H1.out]
          go_wp2
          go_round
          case rel => exact ⟨k + 1, by omega, by go_num, fun j h h' => by
            by_cases e : j = k
            · subst e; exact H1.out
            · exact H.out j (by omega) h'⟩
          case measure => simp [intOf]; omega
      · have d0 : decide ((k : Int) ≤ 20) = false := by simp; omega
        have HN := Lib.hid (isBnd_len s (.inr (by omega)))
        have d1 : decide ((1 : Int) ≤ (s.size : Int)) = true := by simp; omega
        have d2 : decide ((s.size : Int) ≤ 20) = false := by simp; omega
        go_wp2
        go_ret
        exact ⟨ret_bool HN.out.symm, rfl⟩
    · by_cases h0 : s.size = 0
      · have HN := Lib.hid (isBnd_len s (.inl (by omega)))
        have d1 : decide ((1 : Int) ≤ (s.size : Int)) = false := by simp; omega
        go_wp2
        go_ret
        exact ⟨ret_bool HN.out.symm, rfl⟩
      · have d1 : decide ((1 : Int) ≤ (s.size : Int)) = true := by simp; omega
        by_cases h20 : s.size ≤ 20
        · have HN := Lib.hid (isBnd_good s (by omega) h20 (fun j h' => H.out j (by omega) h'))
          have d2 : decide ((s.size : Int) ≤ 20) = true := by simp; omega
          go_wp2
          go_ret
          exact ⟨ret_bool HN.out.symm, rfl⟩
        · have HN := Lib.hid (isBnd_len s (.inr (by omega)))
          have d2 : decide ((s.size : Int) ≤ 20) = false := by simp; omega
          go_wp2
          go_ret
          exact ⟨ret_bool HN.out.symm, rfl⟩
end Go.Proofs.YtfheajfcepcepaaDoor
end

section
namespace Go.Proofs.YtfheajfcepcepaaDoor
open Go.RowKit

def bndOf (k : Knd) : Option (List UInt8) := if isKnd k = true ∧ k.main = multiL ∧ isBnd (getR k.params bndL) = true then some (getR k.params bndL) else none
theorem bndOf_some {k : Knd} (h1 : isKnd k = true) (h2 : k.main = multiL) (h3 : isBnd (getR k.params bndL) = true) : bndOf k = some (getR k.params bndL) := if_pos ⟨h1, h2, h3⟩
theorem bndOf_no1 {k : Knd} (h1 : isKnd k = false) : bndOf k = none := if_neg fun c => by rw [h1] at c; cases c.1
theorem bndOf_no2 {k : Knd} (h : k.main ≠ multiL) : bndOf k = none := if_neg fun c => h c.2.1
theorem bndOf_no3 {k : Knd} (h : isBnd (getR k.params bndL) = false) : bndOf k = none := if_neg fun c => by rw [h] at c; cases c.2.2
theorem bndOf_no4 {k : Knd} (h : (getF k.params bndL).isSome = false) : bndOf k = none := bndOf_no3 (by
  have : getF k.params bndL = none := by simpa using h
  unfold getR; rw [this]; rfl)
theorem getR_len {xs : List Fld} {n : List UInt8} {M : Nat} (h : ∀ x ∈ xs, SmallF M x) : (getR xs n).length ≤ M := by
  rcases findN_cases xs n with ⟨hq, hall⟩ | ⟨i, hi, hq, h1, h2⟩
  · unfold getR; rw [getF_none hall]; exact Nat.zero_le _
  · unfold getR; rw [getF_at hi h1 h2]; exact (h _ (List.getElem_mem hi)).2
def BndRet (o : Option (List UInt8)) (w : World) (e : Ending) (w' : World) : Prop := e = .returned (.tuple #[.string (str (o.getD [])), .bool o.isSome]) ∧ Below w.heap.size w w'
theorem bndRet_none {o : Option (List UInt8)} {w w' : World} {x : ByteArray} (h : o = none) (hx : x = str []) (hb : Below w.heap.size w w') : BndRet o w (.returned (.tuple #[.string x, .bool false])) w' := by subst h hx; exact ⟨rfl, hb⟩
theorem bndRet_some {o : Option (List UInt8)} {b : List UInt8} {w w' : World} {x : ByteArray} (h : o = some b) (hx : x = str b) (hb : Below w.heap.size w w') : BndRet o w (.returned (.tuple #[.string x, .bool true])) w' := by subst h hx; exact ⟨rfl, hb⟩
theorem lst_ne {s : ByteArray} {l : List UInt8} (h : s.data.toList ≠ l) : (s.toList == l) = false ∧ (s.toList != l) = true := by
  have : (s.toList == l) = false := by rw [ByteArray.toList_eq, beq_eq_false_iff_ne]; exact h
  exact ⟨this, by unfold bne; rw [this]; rfl⟩
theorem lst_eq {s : ByteArray} {l : List UInt8} (h : s.data.toList = l) : (s.toList == l) = true ∧ (s.toList != l) = false := by
  have : (s.toList == l) = true := by rw [ByteArray.toList_eq, h]; simp
  exact ⟨this, by unfold bne; rw [this]; rfl⟩
set_option maxRecDepth 100000 in
set_option maxHeartbeats 1000000 in
theorem boundaryOf_any (m s : ByteArray) (a : Option Addr) (n c : Nat) (xs : List Fld) (w : World) (tab : Tab w) (hm : m.size ≤ 1073741824) (hs : s.size ≤ 1073741824) (hr : RdF w a n xs) (hn : n ≤ 1073741824) (hx : ∀ x ∈ xs, SmallF 1048576 x) :
    Calls Tryd.prog 19 #[.agg #[.string m, .string s, .slice a n c]] w (BndRet (bndOf ⟨m.data.toList, s.data.toList, xs⟩) w) := by
  have hb0 : Below w.heap.size w (w.alloc (.cells #[.string m, .string s, .slice a n c] 25)) := (Below.refl _ _).alloc (Nat.le_refl _) _
  have HK0 := Lib.hid (KK3.new w (.string m) (.string s) (.slice a n c) 25)
  have HV := Lib.hid (kindValid_any m s a n c xs _ (tab.below hb0) hm hs (hr.below hb0) hn hx)
  have HG : Hid (∀ u, Below w.heap.size w u → Calls Tryd.prog 21 #[.slice a n c, .string ⟨#[98, 111, 117, 110, 100, 97, 114, 121]⟩] u fun e w' => e = .returned (.tuple #[.string (str (getR xs bndL)), .bool (getF xs bndL).isSome]) ∧ Below u.heap.size u w') := fun u h => getField_any a n c xs ⟨#[98, 111, 117, 110, 100, 97, 114, 121]⟩ u (hr.below h) hn (fun x hx' => (hx x hx').up (by omega)) (by decide)
  have hgl : (str (getR xs bndL)).size ≤ 1048576 := by rw [str_size]; exact getR_len hx
  have HB : Hid (∀ u, Calls Tryd.prog 51 #[.string (str (getR xs bndL))] u fun e w' => e = .returned (.bool (isBnd (getR xs bndL))) ∧ u = w') := fun u => by
    have := boundaryValid_any (str (getR xs bndL)) u (by omega)
    rw [str_list] at this; exact this
  have HNO : Hid ((⟨#[]⟩ : ByteArray) = str []) := rfl
  clear hr tab
  cases hv : isKnd ⟨m.data.toList, s.data.toList, xs⟩
  · have HN := Lib.hid (bndOf_no1 hv)
    rw [hv] at HV
    clear hv
    go_enter Tryd.func19, Tryd.ntmps19
    go_wp2_with fail
    refine (HV.out).mono ?_
    rintro e w1 ⟨rfl, hb1⟩
    go_wp2
    go_ret2
    exact bndRet_none HN.out HNO.out (nx hb0 hb1)
  · rw [hv] at HV
    by_cases hmn : m.data.toList = multiL
    · obtain ⟨e1, e2⟩ := lst_eq hmn
      unfold multiL at e1 e2
      have HSM : Hid (isBnd (getR xs bndL) = true → bndOf ⟨m.data.toList, s.data.toList, xs⟩ = some (getR xs bndL)) := fun h => bndOf_some hv hmn h
      have HNN : Hid (isBnd (getR xs bndL) = false → bndOf ⟨m.data.toList, s.data.toList, xs⟩ = none) := fun h => bndOf_no3 h
      generalize hGR : getR xs bndL = gr at *
      clear hGR
      generalize (getF xs bndL).isSome = gs at *
      clear hv hmn
      cases hbn : isBnd gr
      · have HN := Lib.hid (HNN.out hbn)
        rw [hbn] at HB
        clear hbn HSM
        generalize str gr = GR at *
        go_enter Tryd.func19, Tryd.ntmps19
        go_wp2_with fail
        refine (HV.out).mono ?_
        rintro e w1 ⟨rfl, hb1⟩
        obtain ⟨k0, k1, k2⟩ := HK0.out.below hb1
        go_wp2_with fail
        refine (HG.out _ (nx hb0 hb1)).mono ?_
        rintro e w2 ⟨rfl, hb2⟩
        clear k0 k1 k2
        go_wp2_with fail
        refine (HB.out _).mono ?_
        rintro e w3 ⟨rfl, rfl⟩
        go_wp2
        go_ret2
        exact bndRet_none HN.out HNO.out (nx hb0 (nx hb1 hb2))
      · have HN := Lib.hid (HSM.out hbn)
        rw [hbn] at HB
        clear hbn HNN
        have HGE : Hid (str gr = str gr) := rfl
        generalize hGR : str gr = GR at HG HB hgl
        have HGR := Lib.hid hGR
        clear hGR
        go_enter Tryd.func19, Tryd.ntmps19
        go_wp2_with fail
        refine (HV.out).mono ?_
        rintro e w1 ⟨rfl, hb1⟩
        obtain ⟨k0, k1, k2⟩ := HK0.out.below hb1
        go_wp2_with fail
        refine (HG.out _ (nx hb0 hb1)).mono ?_
        rintro e w2 ⟨rfl, hb2⟩
        clear k0 k1 k2
        go_wp2_with fail
        refine (HB.out _).mono ?_
        rintro e w3 ⟨rfl, rfl⟩
        go_wp2
        go_ret2
        exact bndRet_some HN.out HGR.out.symm (nx hb0 (nx hb1 hb2))
    · have HN : Hid (bndOf ⟨m.data.toList, s.data.toList, xs⟩ = none) := bndOf_no2 hmn
      obtain ⟨e1, e2⟩ := lst_ne hmn
      unfold multiL at e1 e2
      clear hmn hv
      go_enter Tryd.func19, Tryd.ntmps19
      go_wp2_with fail
      refine (HV.out).mono ?_
      rintro e w1 ⟨rfl, hb1⟩
      obtain ⟨k0, k1, k2⟩ := HK0.out.below hb1
      go_wp2
      go_ret2
      exact bndRet_none HN.out HNO.out (nx hb0 hb1)
set_option maxRecDepth 100000 in
set_option maxHeartbeats 1000000 in
theorem boundaryOfS_any (m s : ByteArray) (a : Option Addr) (n c : Nat) (xs : List Fld) (w : World) (hm : m.size ≤ 1073741824) (hs : s.size ≤ 1073741824) (hr : RdF w a n xs) (hnc : n ≤ c) (hn : n ≤ 1073741824) (hx : ∀ x ∈ xs, SmallF 1048576 x) :
    Calls Tryd.prog 20 #[.agg #[.string m, .string s, .slice a n c]] w (BndRet (bndOf ⟨m.data.toList, s.data.toList, xs⟩) w) := by
  have hb0 : Below w.heap.size w (w.alloc (.cells #[.string m, .string s, .slice a n c] 25)) := (Below.refl _ _).alloc (Nat.le_refl _) _
  have HK0 := Lib.hid (KK3.new w (.string m) (.string s) (.slice a n c) 25)
  have HV : Hid (∀ u, Below w.heap.size w u → Calls Tryd.prog 13 #[.agg #[.string m, .string s, .slice a n c]] u fun e w' => e = .returned (.bool (isKnd ⟨m.data.toList, s.data.toList, xs⟩)) ∧ Below u.heap.size u w') := fun u h => kindValidS_any m s a n c xs u hm hs (hr.below h) hnc hn hx
  have HG : Hid (∀ u, Below w.heap.size w u → Calls Tryd.prog 52 #[.slice a n c, .string ⟨#[98, 111, 117, 110, 100, 97, 114, 121]⟩] u fun e w' => e = .returned (.tuple #[.string (str (getR xs bndL)), .bool (getF xs bndL).isSome]) ∧ Below u.heap.size u w') := fun u h => getFieldS_any a n c xs ⟨#[98, 111, 117, 110, 100, 97, 114, 121]⟩ u (hr.below h) hn (fun x hx' => (hx x hx').up (by omega)) (by decide)
  have hgl : (str (getR xs bndL)).size ≤ 1048576 := by rw [str_size]; exact getR_len hx
  have HB : Hid (∀ u, Calls Tryd.prog 53 #[.string (str (getR xs bndL))] u fun e w' => e = .returned (.bool (isBnd (getR xs bndL))) ∧ u = w') := fun u => by
    have := l7Boundary_any (str (getR xs bndL)) u (by omega)
    rw [str_list] at this; exact this
  have HNO : Hid ((⟨#[]⟩ : ByteArray) = str []) := rfl
  have HN4 : Hid ((getF xs bndL).isSome = false → bndOf ⟨m.data.toList, s.data.toList, xs⟩ = none) := fun h => bndOf_no4 h
  have HN1 : Hid (isKnd ⟨m.data.toList, s.data.toList, xs⟩ = false → bndOf ⟨m.data.toList, s.data.toList, xs⟩ = none) := fun h => bndOf_no1 h
  have HN2 : Hid (m.data.toList ≠ multiL → bndOf ⟨m.data.toList, s.data.toList, xs⟩ = none) := fun h => bndOf_no2 h
  have HN3 : Hid (isBnd (getR xs bndL) = false → bndOf ⟨m.data.toList, s.data.toList, xs⟩ = none) := fun h => bndOf_no3 h
  have HN0 : Hid (isKnd ⟨m.data.toList, s.data.toList, xs⟩ = true → m.data.toList = multiL → isBnd (getR xs bndL) = true → bndOf ⟨m.data.toList, s.data.toList, xs⟩ = some (getR xs bndL)) := fun h1 h2 h3 => bndOf_some h1 h2 h3
  clear hr
  generalize isKnd ⟨m.data.toList, s.data.toList, xs⟩ = q1 at *
  generalize (getF xs bndL).isSome = q4 at *
  generalize getR xs bndL = gr at *
  generalize isBnd gr = q3 at *
  generalize hGR : str gr = GR at HG HB hgl
  have HGR := Lib.hid hGR
  clear hGR
  generalize bndOf ⟨m.data.toList, s.data.toList, xs⟩ = R at *
  cases q1
  · have HN := Lib.hid (HN1.out rfl)
    go_enter Tryd.func20, Tryd.ntmps20
    go_wp2_with fail
    refine (HG.out _ hb0).mono ?_
    rintro e w1 ⟨rfl, hb1⟩
    obtain ⟨k0, k1, k2⟩ := HK0.out.below hb1
    go_wp2_with fail
    refine (HV.out _ (nx hb0 hb1)).mono ?_
    rintro e w2 ⟨rfl, hb2⟩
    go_wp2
    go_ret2
    exact bndRet_none HN.out HNO.out (nx hb0 (nx hb1 hb2))
  · by_cases hmn : m.data.toList = multiL
    · obtain ⟨e1, e2⟩ := lst_eq hmn
      unfold multiL at e1 e2
      cases q4
      · have HN := Lib.hid (HN4.out rfl)
        clear hmn
        go_enter Tryd.func20, Tryd.ntmps20
        go_wp2_with fail
        refine (HG.out _ hb0).mono ?_
        rintro e w1 ⟨rfl, hb1⟩
        have HK1 := Lib.hid (HK0.out.below hb1)
        obtain ⟨k0, k1, k2⟩ := HK1.out
        go_wp2_with fail
        refine (HV.out _ (nx hb0 hb1)).mono ?_
        rintro e w2 ⟨rfl, hb2⟩
        clear k0 k1 k2
        obtain ⟨k0, k1, k2⟩ := HK1.out.below hb2
        go_wp2
        go_ret2
        exact bndRet_none HN.out HNO.out (nx hb0 (nx hb1 hb2))
      · cases q3
        · have HN := Lib.hid (HN3.out rfl)
          clear hmn
          go_enter Tryd.func20, Tryd.ntmps20
          go_wp2_with fail
          refine (HG.out _ hb0).mono ?_
          rintro e w1 ⟨rfl, hb1⟩
          have HK1 := Lib.hid (HK0.out.below hb1)
          obtain ⟨k0, k1, k2⟩ := HK1.out
          go_wp2_with fail
          refine (HV.out _ (nx hb0 hb1)).mono ?_
          rintro e w2 ⟨rfl, hb2⟩
          clear k0 k1 k2
          obtain ⟨k0, k1, k2⟩ := HK1.out.below hb2
          go_wp2_with fail
          refine (HB.out _).mono ?_
          rintro e w3 ⟨rfl, rfl⟩
          go_wp2
          go_ret2
          exact bndRet_none HN.out HNO.out (nx hb0 (nx hb1 hb2))
        · have HN := Lib.hid (HN0.out rfl hmn rfl)
          clear hmn
          go_enter Tryd.func20, Tryd.ntmps20
          go_wp2_with fail
          refine (HG.out _ hb0).mono ?_
          rintro e w1 ⟨rfl, hb1⟩
          have HK1 := Lib.hid (HK0.out.below hb1)
          obtain ⟨k0, k1, k2⟩ := HK1.out
          go_wp2_with fail
          refine (HV.out _ (nx hb0 hb1)).mono ?_
          rintro e w2 ⟨rfl, hb2⟩
          clear k0 k1 k2
          obtain ⟨k0, k1, k2⟩ := HK1.out.below hb2
          go_wp2_with fail
          refine (HB.out _).mono ?_
          rintro e w3 ⟨rfl, rfl⟩
          go_wp2
          go_ret2
          exact bndRet_some HN.out HGR.out.symm (nx hb0 (nx hb1 hb2))
    · have HN := Lib.hid (HN2.out hmn)
      obtain ⟨e1, e2⟩ := lst_ne hmn
      unfold multiL at e1 e2
      clear hmn
      go_enter Tryd.func20, Tryd.ntmps20
      go_wp2_with fail
      refine (HG.out _ hb0).mono ?_
      rintro e w1 ⟨rfl, hb1⟩
      have HK1 := Lib.hid (HK0.out.below hb1)
      obtain ⟨k0, k1, k2⟩ := HK1.out
      go_wp2_with fail
      refine (HV.out _ (nx hb0 hb1)).mono ?_
      rintro e w2 ⟨rfl, hb2⟩
      clear k0 k1 k2
      obtain ⟨k0, k1, k2⟩ := HK1.out.below hb2
      go_wp2
      go_ret2
      exact bndRet_none HN.out HNO.out (nx hb0 (nx hb1 hb2))
end Go.Proofs.YtfheajfcepcepaaDoor
end

section
namespace Go.Proofs.YtfheajfcepcepaaDoor
open Go.RowKit

def SmallK2 (k : Knd) : Prop := k.main.length ≤ 1000 ∧ k.sub.length ≤ 1000 ∧ (∀ x ∈ k.params, SmallF 1000 x) ∧ k.params.length ≤ 1000
/-- A kind that lies in memory: its parameters are read at a. -/
def RdK (u : World) (k : Knd) (a : Option Addr) (d : Nat) : Prop := RdF u a k.params.length k.params ∧ k.params.length ≤ d ∧ SmallK2 k
theorem RdK.below {u u' : World} {k : Knd} {a : Option Addr} {d : Nat} (h : RdK u k a d) (b : Below u.heap.size u u') : RdK u' k a d := ⟨h.1.below b, h.2⟩
theorem RdK.own {B : Nat} {u : World} {k : Knd} {a : Option Addr} {d : Nat} (h : OwnF B (.slice a k.params.length d) k.params u) (hs : SmallK2 k) : RdK u k a d := by
  obtain ⟨a', d', e, h2, _, h4⟩ := OwnR.read h fldC_len
  injection e with e1 _ e3
  subst e1 e3
  exact ⟨h2, h4, hs⟩
theorem smallK2_valid {k : Knd} (h : isKnd k = true) : SmallK2 k := by
  obtain ⟨h1, h2, h3, h4⟩ := isKnd_small h
  exact ⟨by omega, by omega, fun x hx => (h4 x hx).up (by omega), by omega⟩
theorem smallK2_zero : SmallK2 knd0 := ⟨by simp [knd0], by simp [knd0], (fun x hx => by cases hx), by simp [knd0]⟩
theorem smallK2_parse (l : List UInt8) : SmallK2 ((parseK l).getD knd0) := by
  cases h : parseK l with
  | none => exact smallK2_zero
  | some k => exact smallK2_valid (parseK_valid h)
theorem smallK2_of {M : Nat} {k : Knd} (h : SmallK M k) (hn : k.params.length ≤ 1000) (hM : M ≤ 1000) : SmallK2 k := ⟨by have := h.1; omega, by have := h.2.1; omega, fun x hx => (h.2.2 x hx).up hM, hn⟩
theorem kndL_str (k : Knd) : (⟨(str k.main).data.toList, (str k.sub).data.toList, k.params⟩ : Knd) = k := Knd.ext' (str_list _) (str_list _) rfl
/-- A kind's value. -/
def kV (k : Knd) (a : Option Addr) (d : Nat) : Value := .agg #[.string (str k.main), .string (str k.sub), .slice a k.params.length d]
theorem formatKind_k {k : Knd} {a : Option Addr} {d : Nat} (u : World) (tab : Tab u) (h : RdK u k a d) :
    Calls Tryd.prog 10 #[.agg #[.string (str k.main), .string (str k.sub), .slice a k.params.length d]] u fun e w' => e = .returned (.string (str (fmtK k))) ∧ Below u.heap.size u w' := by
  have := formatKind_any (str k.main) (str k.sub) a k.params.length d k.params u tab (by rw [str_size]; have := h.2.2.1; omega) (by rw [str_size]; have := h.2.2.2.1; omega) h.1 (by have := h.2.2.2.2.2; omega) (fun x hx => (h.2.2.2.2.1 x hx).up (by omega))
  rw [kndL_str] at this; exact this
theorem kindValid_k {k : Knd} {a : Option Addr} {d : Nat} (u : World) (tab : Tab u) (h : RdK u k a d) :
    Calls Tryd.prog 12 #[.agg #[.string (str k.main), .string (str k.sub), .slice a k.params.length d]] u fun e w' => e = .returned (.bool (isKnd k)) ∧ Below u.heap.size u w' := by
  have := kindValid_any (str k.main) (str k.sub) a k.params.length d k.params u tab (by rw [str_size]; have := h.2.2.1; omega) (by rw [str_size]; have := h.2.2.2.1; omega) h.1 (by have := h.2.2.2.2.2; omega) (fun x hx => (h.2.2.2.2.1 x hx).up (by omega))
  rw [kndL_str] at this; exact this
theorem formatKindS_k {k : Knd} {a : Option Addr} {d : Nat} (u : World) (h : RdK u k a d) :
    Calls Tryd.prog 11 #[.agg #[.string (str k.main), .string (str k.sub), .slice a k.params.length d]] u fun e w' => e = .returned (.string (str (fmtK k))) ∧ Below u.heap.size u w' := by
  have := formatKindS_any (str k.main) (str k.sub) a k.params.length d k.params u (by rw [str_size]; have := h.2.2.1; omega) (by rw [str_size]; have := h.2.2.2.1; omega) h.1 h.2.1 (by have := h.2.2.2.2.2; omega) (fun x hx => (h.2.2.2.2.1 x hx).up (by omega))
  rw [kndL_str] at this; exact this
theorem kindValidS_k {k : Knd} {a : Option Addr} {d : Nat} (u : World) (h : RdK u k a d) :
    Calls Tryd.prog 13 #[.agg #[.string (str k.main), .string (str k.sub), .slice a k.params.length d]] u fun e w' => e = .returned (.bool (isKnd k)) ∧ Below u.heap.size u w' := by
  have := kindValidS_any (str k.main) (str k.sub) a k.params.length d k.params u (by rw [str_size]; have := h.2.2.1; omega) (by rw [str_size]; have := h.2.2.2.1; omega) h.1 h.2.1 (by have := h.2.2.2.2.2; omega) (fun x hx => (h.2.2.2.2.1 x hx).up (by omega))
  rw [kndL_str] at this; exact this
theorem boundaryOf_k {k : Knd} {a : Option Addr} {d : Nat} (u : World) (tab : Tab u) (h : RdK u k a d) :
    Calls Tryd.prog 19 #[.agg #[.string (str k.main), .string (str k.sub), .slice a k.params.length d]] u fun e w' => e = .returned (.tuple #[.string (str ((bndOf k).getD [])), .bool (bndOf k).isSome]) ∧ Below u.heap.size u w' := by
  have := boundaryOf_any (str k.main) (str k.sub) a k.params.length d k.params u tab (by rw [str_size]; have := h.2.2.1; omega) (by rw [str_size]; have := h.2.2.2.1; omega) h.1 (by have := h.2.2.2.2.2; omega) (fun x hx => (h.2.2.2.2.1 x hx).up (by omega))
  rw [kndL_str] at this; exact this
theorem boundaryOfS_k {k : Knd} {a : Option Addr} {d : Nat} (u : World) (h : RdK u k a d) :
    Calls Tryd.prog 20 #[.agg #[.string (str k.main), .string (str k.sub), .slice a k.params.length d]] u fun e w' => e = .returned (.tuple #[.string (str ((bndOf k).getD [])), .bool (bndOf k).isSome]) ∧ Below u.heap.size u w' := by
  have := boundaryOfS_any (str k.main) (str k.sub) a k.params.length d k.params u (by rw [str_size]; have := h.2.2.1; omega) (by rw [str_size]; have := h.2.2.2.1; omega) h.1 h.2.1 (by have := h.2.2.2.2.2; omega) (fun x hx => (h.2.2.2.2.1 x hx).up (by omega))
  rw [kndL_str] at this; exact this
theorem knd_eq_iff (k q : Knd) : k = q ↔ str k.main = str q.main ∧ str k.sub = str q.sub ∧ k.params = q.params := by
  constructor
  · rintro rfl; exact ⟨rfl, rfl, rfl⟩
  · rintro ⟨h1, h2, h3⟩
    exact Knd.ext' (by rw [← str_list k.main, h1, str_list]) (by rw [← str_list k.sub, h2, str_list]) h3
theorem knd_beq (k q : Knd) : (decide (str k.main = str q.main) && (decide (str k.sub = str q.sub) && decide (k.params = q.params))) = decide (k = q) := by
  rw [← Bool.decide_and, ← Bool.decide_and]; exact decide_eq_decide.2 (knd_eq_iff k q).symm
theorem kindSame_k {k q : Knd} {a b : Option Addr} {d f : Nat} (u : World) (h1 : RdK u k a d) (h2 : RdK u q b f) :
    Calls Tryd.prog 15 #[.agg #[.string (str k.main), .string (str k.sub), .slice a k.params.length d], .agg #[.string (str q.main), .string (str q.sub), .slice b q.params.length f]] u fun e w' => e = .returned (.bool (decide (k = q))) ∧ Below u.heap.size u w' := by
  have := kindSame_any (str k.main) (str k.sub) (str q.main) (str q.sub) a b k.params.length d q.params.length f k.params q.params u h1.1 h2.1 (by have := h1.2.2.2.2.2; unfold maxLen; omega) (by have := h2.2.2.2.2.2; unfold maxLen; omega)
  rw [knd_beq] at this; exact this
theorem kindSameS_k {k q : Knd} {a b : Option Addr} {d f : Nat} (u : World) (h1 : RdK u k a d) (h2 : RdK u q b f) :
    Calls Tryd.prog 24 #[.agg #[.string (str k.main), .string (str k.sub), .slice a k.params.length d], .agg #[.string (str q.main), .string (str q.sub), .slice b q.params.length f]] u fun e w' => e = .returned (.bool (decide (k = q))) ∧ Below u.heap.size u w' := by
  have := kindSameS_any (str k.main) (str k.sub) (str q.main) (str q.sub) a b k.params.length d q.params.length f k.params q.params u h1.1 h2.1 (by have := h1.2.2.2.2.2; unfold maxLen; omega) (by have := h2.2.2.2.2.2; unfold maxLen; omega)
  rw [knd_beq] at this; exact this
def PKL (o : Option Knd) (w : World) (e : Ending) (w' : World) : Prop := ∃ a c, e = .returned (.tuple #[.agg #[.string (str (o.getD knd0).main), .string (str (o.getD knd0).sub), .slice a (o.getD knd0).params.length c], .bool o.isSome]) ∧ RdK w' (o.getD knd0) a c ∧ Below w.heap.size w w'
theorem parseKind_k (s : ByteArray) (u : World) (tab : Tab u) (hs : s.size ≤ 1073741824) : Calls Tryd.prog 14 #[.string s] u (PKL (parseK s.data.toList) u) :=
  (parseKind_any s u tab hs).mono fun _ _ ⟨a, c, h1, h2, h3⟩ => ⟨a, c, h1, RdK.own h2 (smallK2_parse _), h3⟩
theorem parseKindS_k (s : ByteArray) (u : World) (hs : s.size ≤ 1073741824) : Calls Tryd.prog 17 #[.string s] u (PKL (parseK s.data.toList) u) :=
  (parseKindS_any s u hs).mono fun _ _ ⟨a, c, h1, h2, h3⟩ => ⟨a, c, h1, RdK.own h2 (smallK2_parse _), h3⟩
end Go.Proofs.YtfheajfcepcepaaDoor
end

section
namespace Go.Proofs.YtfheajfcepcepaaDoor
open Go.RowKit

theorem OwnR.keepB {α : Type} {T : TypeId} {k : Nat} {f : α → List Value} {B C : Nat} {v : Value} {xs : List α} {w w' : World} (h : OwnR T k f B v xs w) (b : Below C w w') (hl : ∀ g, v.ownBlock = some g → g < C) : OwnR T k f B v xs w' := by
  refine ⟨h.1, ?_⟩
  rcases h.2 with hn | ⟨g, cap, cur, hv, hg1, hg2, rest⟩
  · exact .inl hn
  · exact .inr ⟨g, cap, cur, hv, hg1, by rw [b.block g (hl g (by rw [hv]; rfl)), hg2], rest⟩
theorem wpList_append_F {ops : Array Oper} {rest : List Oper} {o : Oper} {Q : Exit → Act → World → Prop} {a : Act} {w : World} (hg : o.guard = none) (s x : Operand)
    (ho : o.op = .call { callee := .builtin .append, args := #[s, x], argTypes := #[23, 23] })
    (B B2 : Nat) (v u : Value) (xs ys : List Fld) (hs : a.eval s = v) (hx : a.eval x = u) (hown : OwnF B v xs w) (hy : OwnF B2 u ys w) (hB : B ≤ w.heap.size) (hl : xs.length + ys.length ≤ 1000000)
    (h : ∀ v' w', OwnF B v' (xs ++ ys) w' → Below B w w' → wpList Tryd.prog ops Q rest (a.put o.dst v') w') : wpList Tryd.prog ops Q (o :: rest) a w := by
  obtain ⟨i0, hi, hz0, hz1, hz2⟩ := info_parts fInfo
  have hys := hy
  unfold OwnF OwnR at hys hown
  rcases hys.2 with ⟨hv, h0⟩ | ⟨g, cap, cur, hv, _⟩
  · subst hv
    have hn : ys = [] := List.length_eq_zero_iff.1 h0
    refine wpList_append_own_none hg s x 23 ho B 45 i0 2 Tryd.underlying23 hi v xs.length (xs.flatMap fldC) hs hown hx ?_
    refine h v w ?_ (Below.refl _ _)
    subst hn
    rw [List.append_nil]; exact hown
  · subst hv
    refine wpList_append_own w hg s x 23 ho B 45 i0 (.agg #[.string ⟨#[]⟩, .string ⟨#[]⟩]) 2 32 Tryd.underlying23 hi hz0 hz1 hz2 rfl (by decide) v xs.length (xs.flatMap fldC) hs hown ⟨g, 0, none⟩ ys.length cap (ys.flatMap fldC) hx (flat_len fldC 2 fldC_len ys) ?_ ?_ ?_ ?_ hB ?_
    · intro j z hj
      exact hys.cells (g := g) rfl j z hj
    · intro z hz
      obtain ⟨q, _, hq⟩ := List.mem_flatMap.1 hz
      unfold fldC at hq
      simp at hq
      rcases hq with rfl | rfl <;> rfl
    · unfold maxLen; omega
    · omega
    · intro v' w' ho' hgr _
      refine h v' w' ?_ ?_
      · unfold OwnF OwnR; rw [List.length_append, List.flatMap_append]; exact ho'
      · exact (Below.refl _ _).grown hgr hB (fun k hk => (World.ownsRow.lt hown k hk).1)
theorem own_cases {B : Nat} {v : Value} {xs : List Fld} {w : World} (h : OwnF B v xs w) (h0 : xs.length ≠ 0) : ∃ g cap, v = .slice (some ⟨g, 0, none⟩) xs.length cap ∧ B ≤ g := by
  have ho := h
  unfold OwnF OwnR at ho
  rcases ho.2 with ⟨_, h0'⟩ | ⟨g, cap, cur, rfl, hBg, _⟩
  · exact absurd h0' h0
  · exact ⟨g, cap, rfl, hBg⟩
/-- What a row of fields has where a field is put. -/
theorem own_put {B g cap k : Nat} {xs : List Fld} {w : World} (h : OwnF B (.slice (some ⟨g, 0, none⟩) xs.length cap) xs w) (hk : k < xs.length) (y : Fld) :
    (∃ v, w.cell? ⟨g, k * 2, none⟩ = some v) ∧ (∃ v, w.cell? ⟨g, k * 2 + 1, none⟩ = some v) ∧ w.frozen? ⟨g, k * 2, none⟩ = false ∧ w.frozen? ⟨g, k * 2 + 1, none⟩ = false ∧
    OwnF B (.slice (some ⟨g, 0, none⟩) xs.length cap) (xs.set k y) ((w.setCell ⟨g, k * 2, none⟩ (.string (str y.name))).setCell ⟨g, k * 2 + 1, none⟩ (.string (str y.val))) := by
  have hw := h
  unfold OwnF OwnR at hw
  have hlf : (xs.flatMap fldC).length = xs.length * 2 := flat_len fldC 2 fldC_len xs
  refine ⟨?_, ?_, hw.frozenAt _, hw.frozenAt _, ?_⟩
  · have := hw.cells (g := g) rfl (k * 2) _ (List.getElem?_eq_getElem (by omega))
    rw [add0] at this; exact ⟨_, this⟩
  · have := hw.cells (g := g) rfl (k * 2 + 1) _ (List.getElem?_eq_getElem (by omega))
    rw [add0] at this; exact ⟨_, this⟩
  · have hs := ((hw.stored (k * 2) (.string (str y.name))).1.stored (k * 2 + 1) (.string (str y.val))).1
    unfold OwnF OwnR
    rw [← set2_flat y hk, List.length_set]; exact hs
end Go.Proofs.YtfheajfcepcepaaDoor
end

section
namespace Go.Proofs.YtfheajfcepcepaaDoor
open Go.RowKit

theorem kf3_belowB {B : Nat} {w w' : World} {g : Nat} {v0 v1 v2 : Value} (h : KF3 w g v0 v1 v2) (hb : Below B w w') (hg : g < B) : KF3 w' g v0 v1 v2 :=
  ⟨⟨by rw [below_at hb hg, h.1.1], by rw [below_at hb hg, h.1.2.1], by rw [below_at hb hg, h.1.2.2]⟩, fun i => by rw [below_fz hb hg, h.2]⟩
/-- A row of strings in a block, each of at most M bytes, whatever has been laid since. -/
theorem strs_below {w w' : World} {b off n M : Nat} (h : Strs w b off n M) (t : Below w.heap.size w w') : Strs w' b off n M :=
  ⟨Nat.lt_of_lt_of_le h.1 t.size, fun i hi => by obtain ⟨s, h1, h2⟩ := h.2 i hi; exact ⟨s, by rw [below_at t h.1, h1], h2⟩⟩
set_option maxRecDepth 100000 in
set_option maxHeartbeats 4000000 in
theorem l7Wrong_any (R p n M c B : Nat) (m s : ByteArray) (a : Option Addr) (xs : List Fld) (w : World) (hr : Rd w R p) (hp : p ≤ 999998000) (hM : 9 ≤ M) (hm : m.size ≤ M) (hs : s.size ≤ M) (ho : OwnF B (.slice a xs.length c) xs w) (hn : xs.length ≤ n) (hn2 : n ≤ 1000) (hx : ∀ x ∈ xs, SmallF M x) :
    Calls Tryd.prog 50 #[.pointer (some ⟨R, 0, none⟩), .agg #[.string m, .string s, .slice a xs.length c]] w (DrawnK R p 3 (n + 1) M w) := by
  have hRl := hr.lt
  have hA0 : Below w.heap.size w (w.alloc (.cells #[.string m, .string s, .slice a xs.length c] 25)) := (Below.refl _ _).alloc (Nat.le_refl _) _
  have hA1 : Below w.heap.size w ((w.alloc (.cells #[.string m, .string s, .slice a xs.length c] 25)).alloc (.cells #[.string ⟨#[]⟩, .string ⟨#[]⟩, .slice none 0 0] 25)) := hA0.alloc (by simp) _
  have HX1 : Hid (KF3 ((w.alloc (.cells #[.string m, .string s, .slice a xs.length c] 25)).alloc (.cells #[.string ⟨#[]⟩, .string ⟨#[]⟩, .slice none 0 0] 25)) w.heap.size (.string m) (.string s) (.slice a xs.length c)) := (KF3.new w _ _ _ _).below ((Below.refl _ _).alloc (Nat.le_refl _) _)
  have HY1 : Hid (KF3 ((w.alloc (.cells #[.string m, .string s, .slice a xs.length c] 25)).alloc (.cells #[.string ⟨#[]⟩, .string ⟨#[]⟩, .slice none 0 0] 25)) (w.heap.size + 1) (.string ⟨#[]⟩) (.string ⟨#[]⟩) (.slice none 0 0)) := by
    show KF3 _ _ _ _ _
    have := KF3.new (w.alloc (.cells #[.string m, .string s, .slice a xs.length c] 25)) (.string ⟨#[]⟩) (.string ⟨#[]⟩) (.slice none 0 0) 25
    simpa using this
  have hz1 : ((w.alloc (.cells #[.string m, .string s, .slice a xs.length c] 25)).alloc (.cells #[.string ⟨#[]⟩, .string ⟨#[]⟩, .slice none 0 0] 25)).heap.size = w.heap.size + 1 + 1 := by simp
  have HO1 := Lib.hid (OwnR.keep ho hA1)
  have hr1 := hr.below hA1
  have HXS := Lib.hid hx
  clear ho hx hA0
  go_enter Tryd.func50, Tryd.ntmps50
  go_upto_region 1 with fail
  generalize hW1 : (w.alloc (.cells #[.string m, .string s, .slice a xs.length c] 25)).alloc (.cells #[.string ⟨#[]⟩, .string ⟨#[]⟩, .slice none 0 0] 25) = W1 at *
  have HZ1 := Lib.hid hz1
  have hl1 : w.heap.size < W1.heap.size := by omega
  have hl2 : w.heap.size + 1 < W1.heap.size := by omega
  clear hW1 hz1
  obtain ⟨⟨y0, y1, y2⟩, yf⟩ := HX1.out
  go_wp2_with (at_builtin; refine wpList_append_F rfl _ _ rfl W1.heap.size B _ _ [] xs rfl rfl (OwnR.empty _ _ _ W1) (OwnR.keep HO1.out ((Below.refl _ _).alloc (Nat.le_refl _) _)) (by simp) (by simp; omega) ?_)
  intro v2 w2 ho2 hb2
  have hA2 : Below w.heap.size w w2 := hA1.trans ((((Below.refl _ _).alloc (Nat.le_refl _) _).trans hb2).mono (by rw [HZ1.out]; omega))
  have hB2 := ((Below.refl W1.heap.size W1).alloc (Nat.le_refl _) (.cells #[] 45)).trans hb2
  have HX2 := Lib.hid (HX1.out.below hB2)
  have HY2 := Lib.hid (HY1.out.below hB2)
  have hr2 := hr1.below hB2
  rw [HZ1.out] at ho2
  have hz2 : w.heap.size + 1 + 1 ≤ w2.heap.size := by have := hB2.size; rw [HZ1.out] at this; exact this
  clear hb2 hB2 y0 y1 y2 yf HX1 HY1 HO1 hr1 hA1
  have HO2 := Lib.hid ho2
  obtain ⟨a2, c2, rfl, _, _, _⟩ := ho2.read fldC_len
  have HO3 : Hid (OwnF (w.heap.size + 1 + 1) (.slice a2 xs.length c2) xs (w2.setCell ⟨w.heap.size, 2, none⟩ (.slice a2 xs.length c2))) := ownF_offG HO2.out (by omega) 2 _
  have HX3 := Lib.hid (HX2.out.set2 (.slice a2 xs.length c2))
  have HY3 : Hid (KF3 (w2.setCell ⟨w.heap.size, 2, none⟩ (.slice a2 xs.length c2)) (w.heap.size + 1) (.string ⟨#[]⟩) (.string ⟨#[]⟩) (.slice none 0 0)) := HY2.out.off (by omega) _
  have hB3 : Below w.heap.size w2 (w2.setCell ⟨w.heap.size, 2, none⟩ (.slice a2 xs.length c2)) := (Below.refl w.heap.size w2).setCell (p := ⟨w.heap.size, 2, none⟩) (Nat.le_refl _) _
  have hr3 := hr2.belowB hB3 hRl
  have hT3 : Touch R w (w2.setCell ⟨w.heap.size, 2, none⟩ (.slice a2 xs.length c2)) := Touch.of_below (hA2.trans hB3)
  have hz3 : w.heap.size + 1 + 1 ≤ (w2.setCell ⟨w.heap.size, 2, none⟩ (.slice a2 xs.length c2)).heap.size := by simpa using hz2
  obtain ⟨⟨y0, y1, y2⟩, yf⟩ := HX2.out
  clear ho2 hA2 hB3 HY2 HO2 hr2
  go_wp2_with fail
  generalize hW3 : w2.setCell ⟨w.heap.size, 2, none⟩ (.slice a2 xs.length c2) = W3 at *
  clear hW3 y0 y1 y2 yf HX2
  refine (pick_any R p 20 _ hr3 (by omega) (by omega)).mono ?_
  rintro e w4 ⟨k, rfl, hk, hr4, ht4⟩
  have hs4 := ht4.size
  have HX4 := Lib.hid (HX3.out.touch ht4 (by omega))
  have HY4 := Lib.hid (HY3.out.touch ht4 (by omega))
  have HO4 := Lib.hid (OwnR.touch HO3.out ht4 (by omega))
  have hT4 := hT3.trans ht4
  by_cases k0 : k = 0
  · have e0 : ((k : Int) == 0) = true := by rw [k0]; rfl
    clear k0 hk
    go_wp2_with fail
    refine (of_lit R (p + 1) 4 9 _ _ w4 hr4 (by omega) (by omega) (by omega) (by decide)).mono ?_
    rintro e w5 ⟨s5, p5, rfl, g5, f5, k5, hr5, ht5⟩
    have hs5 := ht5.size
    have HX5 := Lib.hid (HX4.out.touch ht5 (by omega))
    have HY5 := Lib.hid (HY4.out.touch ht5 (by omega))
    have HO5 := Lib.hid (OwnR.touch HO4.out ht5 (by omega))
    have hT5 := hT4.trans ht5
    obtain ⟨⟨y0, y1, y2⟩, yf⟩ := HX5.out
    obtain ⟨⟨z0, z1, z2⟩, zf⟩ := HY5.out
    have hl5 : w.heap.size + 1 < w5.heap.size := by omega
    go_wp2
    refine bodyPost_ret (v := .agg #[.string s5, .string s, .slice a2 xs.length c2]) (by simp [results, Tryd.results50, go_sem, z0, z1, z2]) rfl (drawnK_mk (p' := p5) (by omega) (by omega) HXS.out ?_ (by omega) (by omega) (by omega) ?_ ?_)
    · exact OwnR.base (ownF_offG (ownF_offG (ownF_offG (ownF_offG HO5.out (by omega) 0 _) (by omega) 0 _) (by omega) 1 _) (by omega) 2 _) (by omega)
    · exact hr5.belowB (((((Below.refl w.heap.size w5).setCell (p := ⟨w.heap.size, 0, none⟩) (Nat.le_refl _) _).setCell (p := ⟨w.heap.size + 1, 0, none⟩) (Nat.le_succ _) _).setCell (p := ⟨w.heap.size + 1, 1, none⟩) (Nat.le_succ _) _).setCell (p := ⟨w.heap.size + 1, 2, none⟩) (Nat.le_succ _) _) hRl
    · exact ((((hT5.setNew (Nat.le_refl _) _).setNew (Nat.le_succ _) _).setNew (Nat.le_succ _) _).setNew (Nat.le_succ _) _)
  · have e0 : ((k : Int) == 0) = false := by rw [beq_eq_false_iff_ne]; omega
    by_cases k1 : k = 1
    · have e1 : ((k : Int) == 1) = true := by rw [k1]; rfl
      clear k0 k1 hk
      go_wp2_with fail
      have HB : Hid (∀ u, Touch R w4 u → u.cell? ⟨w.heap.size, 2, none⟩ = some (.slice a2 xs.length c2)) := fun u hu => (HX4.out.touch hu (by omega)).1.2.2
      refine wp_region_tail (by kernel_rfl) ?_
      refine wpAny_tailW (touchOk R) (fuel := 10) (tf := 3) [10, 11, 12] (by kernel_rfl) ?_
      refine wpAnyW_take (touchOk R) (fuel := 6) [true, true, true, false, false, true] (by kernel_rfl) (by kernel_rfl) (by rfl) (by kernel_rfl) (by kernel_rfl) (by kernel_rfl) ?_
      apply Exists.intro
      refine ⟨fun x => ?_, ?_⟩
      · have y0 := fun (y : RelT Grow x.val) => HB.out y.val (((Touch.refl R w4).drew).trans (x.rel.trans (Touch.of_below y.rel)))
        simp only [pickL]
        repeat (go_big_quiet_step (fail))
        exact wpQuiet_nil rfl
      have T0 : Touch R w4 w4.drew := (Touch.refl R w4).drew
      have R0 : Rd w4.drew R (p + 1) := hr4.below ((Below.refl _ _).drew)
      refine wpAnyW_two (m := 3) (n := 6) (by kernel_rfl) (fun u1 g1 => ?_) (fun u1 g1 => ?_)
      · refine wpOp_at (o := _) (by rfl) (by rfl) ?_
        go_simp
        refine ⟨Touch.of_below ((Below.refl _ _).alloc (Nat.le_refl _) _), ?_⟩
        try simp only [Act.put, List.setIfInBounds_toArray, List.set_cons_zero, List.set_cons_succ]
        have S3 := strs_new u1 #[.string ⟨#[110, 97, 109, 101]⟩, .string ⟨#[78]⟩, .string ⟨#[97, 61, 98]⟩, .string ⟨#[121]⟩] 9 4 9 (by decide)
        have A3 : Below u1.heap.size u1 (u1.alloc (.cells #[.string ⟨#[110, 97, 109, 101]⟩, .string ⟨#[78]⟩, .string ⟨#[97, 61, 98]⟩, .string ⟨#[121]⟩] 9)) := (Below.refl _ _).alloc (Nat.le_refl _) _
        have T3 := T0.trans ((Touch.of_below g1).trans (Touch.of_below A3))
        have R3 := (R0.below g1).below A3
        have B3 : u1.heap.size ≠ R := by have := g1.size; have := T0.size; omega
        generalize hU3 : u1.alloc (.cells #[.string ⟨#[110, 97, 109, 101]⟩, .string ⟨#[78]⟩, .string ⟨#[97, 61, 98]⟩, .string ⟨#[121]⟩] 9) = V3 at *
        clear hU3
        refine wpAnyW_two (m := 4) (n := 6) (by kernel_rfl) (fun u2 g2 => ?_) (fun u2 g2 => ?_)
        · refine wpOp_at (o := _) (by rfl) (by rfl) ?_
          go_simp
          replace S3 := S3.touch (Touch.of_below g2) B3
          refine (of_any R _ u1.heap.size 0 4 4 9 _ (R3.below g2) (by omega) B3 (by omega) (by omega) S3).mono ?_
          rintro e v4 ⟨sA, psA, rfl, gsA, fsA, ksA, RsA, tsA⟩
          refine ⟨tsA, ?_⟩
          try simp only [Act.put, List.setIfInBounds_toArray, List.set_cons_zero, List.set_cons_succ]
          have TsA := T3.trans ((Touch.of_below g2).trans tsA)
          replace S3 := S3.touch tsA B3
          refine wpAnyW_one (m := 6) (by kernel_rfl) (fun u3 g3 => ?_)
          refine wpOp_at (o := _) (by rfl) (by rfl) ?_
          go_simp
          refine ⟨Touch.of_below ((Below.refl _ _).alloc (Nat.le_refl _) _), ?_⟩
          try simp only [Act.put, List.setIfInBounds_toArray, List.set_cons_zero, List.set_cons_succ]
          have S6 := strs_new u3 #[.string ⟨#[120]⟩, .string ⟨#[10]⟩] 9 2 9 (by decide)
          have A6 : Below u3.heap.size u3 (u3.alloc (.cells #[.string ⟨#[120]⟩, .string ⟨#[10]⟩] 9)) := (Below.refl _ _).alloc (Nat.le_refl _) _
          have T6 := TsA.trans ((Touch.of_below g3).trans (Touch.of_below A6))
          have R6 := (RsA.below g3).below A6
          have B6 : u3.heap.size ≠ R := by have := g3.size; have := TsA.size; omega
          replace S3 := (S3.touch (Touch.of_below g3) B3).touch (Touch.of_below A6) B3
          generalize hU6 : u3.alloc (.cells #[.string ⟨#[120]⟩, .string ⟨#[10]⟩] 9) = V6 at *
          clear hU6
          refine wpAnyW_one (m := 7) (by kernel_rfl) (fun u4 g4 => ?_)
          refine wpOp_at (o := _) (by rfl) (by rfl) ?_
          go_simp
          replace S3 := S3.touch (Touch.of_below g4) B3
          replace S6 := S6.touch (Touch.of_below g4) B6
          refine (of_any R _ u3.heap.size 0 2 2 9 _ (R6.below g4) (by omega) B6 (by omega) (by omega) S6).mono ?_
          rintro e v7 ⟨sB, psB, rfl, gsB, fsB, ksB, RsB, tsB⟩
          refine ⟨tsB, ?_⟩
          try simp only [Act.put, List.setIfInBounds_toArray, List.set_cons_zero, List.set_cons_succ]
          have TsB := T6.trans ((Touch.of_below g4).trans tsB)
          replace S3 := S3.touch tsB B3
          replace S6 := S6.touch tsB B6
          refine wpAnyW_one (m := 8) (by kernel_rfl) (fun u8 g8 => ?_)
          refine wpOp_at (o := _) (by rfl) (by rfl) ?_
          go_simp
          refine ⟨Touch.refl _ _, ?_⟩
          try simp only [Act.put, List.setIfInBounds_toArray, List.set_cons_zero, List.set_cons_succ]
          refine wpAnyW_one (m := 9) (by kernel_rfl) (fun u9 g9 => ?_)
          refine wpOp_at (o := _) (by rfl) (by rfl) ?_
          go_simp
          refine ⟨Touch.of_below ((Below.refl _ _).alloc (Nat.le_refl _) _), ?_⟩
          try simp only [Act.put, List.setIfInBounds_toArray, List.set_cons_zero, List.set_cons_succ]
          have N0 : (u9.alloc (.cells #[.string sA, .string sB] 45)).cell? ⟨u9.heap.size, 0, none⟩ = some (.string sA) := by rw [World.cell?_alloc_at _ _ _ _ rfl]; rfl
          have N1 : (u9.alloc (.cells #[.string sA, .string sB] 45)).cell? ⟨u9.heap.size, 1, none⟩ = some (.string sB) := by rw [World.cell?_alloc_at _ _ _ _ rfl]; rfl
          have NL : u9.heap.size < (u9.alloc (.cells #[.string sA, .string sB] 45)).heap.size := by simp
          have A9 : Below u9.heap.size u9 (u9.alloc (.cells #[.string sA, .string sB] 45)) := (Below.refl _ _).alloc (Nat.le_refl _) _
          generalize hU9 : u9.alloc (.cells #[.string sA, .string sB] 45) = V9 at *
          clear hU9
          refine wpAnyW_rest (by kernel_rfl) (fun u10 g10 => ?_)
          have b10 : Below v7.heap.size v7 u10 := nx (nx (nx g8 g9) A9) g10
          have T10 := TsB.trans (Touch.of_below b10)
          have R10 := RsB.below b10
          have hs10 := T10.size
          have HX6 := Lib.hid (HX4.out.touch T10 (by omega))
          have HY6 := Lib.hid (HY4.out.touch T10 (by omega))
          have hO6 := OwnR.touch HO4.out T10 (by omega)
          have hl6 : w.heap.size + 1 < u10.heap.size := by omega
          refine wpAny_one (m := 10) (by kernel_rfl) ?_
          refine wpOp_at (o := _) (by rfl) (by rfl) ?_
          refine wp_append_F _ _ rfl (w.heap.size + 1 + 1) _ xs (fld sA sB) u9.heap.size rfl rfl hO6 (by rw [below_at g10 NL, N0]; unfold fld; rw [str_of]) (by rw [below_at g10 NL, N1]; unfold fld; rw [str_of]) (by omega) (by omega) ?_
          intro v11 u11 hO11 hb11
          have hs11 := hb11.size
          have HX11 := Lib.hid (kf3_belowB HX6.out hb11 (by omega))
          have HY11 := Lib.hid (kf3_belowB HY6.out hb11 (by omega))
          have T11 := (hT4.trans T10).ext (hb11.mono (by omega))
          have R11 := R10.belowB hb11 (by omega)
          obtain ⟨ys, hys⟩ : ∃ ys, ys = xs ++ [fld sA sB] := ⟨_, rfl⟩
          have hyl : ys.length ≤ n + 1 := by rw [hys]; simp; omega
          have HYS : Hid (∀ x ∈ ys, SmallF M x) := fun x hx => by
            rw [hys] at hx
            rcases List.mem_append.1 hx with h | h
            · exact HXS.out x h
            · rw [List.mem_singleton.1 h]; exact ⟨by show sA.data.toList.length ≤ M; rw [size_list]; omega, by show sB.data.toList.length ≤ M; rw [size_list]; omega⟩
          rw [← hys] at hO11
          have HO11 := Lib.hid hO11
          obtain ⟨a11, c11, rfl, _, _, _⟩ := hO11.read fldC_len
          clear hys hO11 N0 N1 hO6
          try simp only [Act.put, List.setIfInBounds_toArray]
          obtain ⟨⟨y0, y1, y2⟩, yf⟩ := HX11.out
          refine wpAny_one (m := 11) (by kernel_rfl) ?_
          refine wpOp_at (o := _) (by rfl) (by rfl) ?_
          go_simp
          try simp only [Act.put, List.setIfInBounds_toArray, List.set_cons_zero, List.set_cons_succ]
          refine wpAny_one (m := 12) (by kernel_rfl) ?_
          refine wpOp_at (o := _) (by rfl) (by rfl) ?_
          go_simp
          try simp only [Act.put]
          refine wpAny_end (by kernel_rfl) ?_ _
          have HO12 : Hid (OwnF (w.heap.size + 1 + 1) (.slice a11 ys.length c11) ys (u11.setCell ⟨w.heap.size, 2, none⟩ (.slice a11 ys.length c11))) := ownF_offG HO11.out (by omega) 2 _
          have HX12 := Lib.hid (HX11.out.set2 (.slice a11 ys.length c11))
          have HY12 : Hid (KF3 (u11.setCell ⟨w.heap.size, 2, none⟩ (.slice a11 ys.length c11)) (w.heap.size + 1) (.string ⟨#[]⟩) (.string ⟨#[]⟩) (.slice none 0 0)) := HY11.out.off (by omega) _
          have T12 : Touch R w (u11.setCell ⟨w.heap.size, 2, none⟩ (.slice a11 ys.length c11)) := T11.setNew (Nat.le_refl _) _
          have R12 : Rd (u11.setCell ⟨w.heap.size, 2, none⟩ (.slice a11 ys.length c11)) R psB := R11.belowB ((Below.refl w.heap.size u11).setCell (p := ⟨w.heap.size, 2, none⟩) (Nat.le_refl _) _) hRl
          have hl12 : w.heap.size + 1 < (u11.setCell ⟨w.heap.size, 2, none⟩ (.slice a11 ys.length c11)).heap.size := by simp; omega
          clear y0 y1 y2 yf
          generalize hU12 : u11.setCell ⟨w.heap.size, 2, none⟩ (.slice a11 ys.length c11) = V12 at *
          clear hU12
          obtain ⟨⟨y0, y1, y2⟩, yf⟩ := HX12.out
          obtain ⟨⟨z0, z1, z2⟩, zf⟩ := HY12.out
          go_wp2
          refine bodyPost_ret (v := .agg #[.string m, .string s, .slice a11 ys.length c11]) (by simp [results, Tryd.results50, go_sem, z0, z1, z2]) rfl (drawnK_mk (p' := psB) (by omega) (by omega) HYS.out ?_ hyl (by omega) (by omega) ?_ ?_)
          · exact OwnR.base (ownF_offG (ownF_offG (ownF_offG HO12.out (by omega) 0 _) (by omega) 1 _) (by omega) 2 _) (by omega)
          · exact R12.belowB ((((Below.refl w.heap.size V12).setCell (p := ⟨w.heap.size + 1, 0, none⟩) (Nat.le_succ _) _).setCell (p := ⟨w.heap.size + 1, 1, none⟩) (Nat.le_succ _) _).setCell (p := ⟨w.heap.size + 1, 2, none⟩) (Nat.le_succ _) _) hRl
          · exact (((T12.setNew (Nat.le_succ _) _).setNew (Nat.le_succ _) _).setNew (Nat.le_succ _) _)
        · refine wpOp_at (o := _) (by rfl) (by rfl) ?_
          go_simp
          refine ⟨Touch.of_below ((Below.refl _ _).alloc (Nat.le_refl _) _), ?_⟩
          try simp only [Act.put, List.setIfInBounds_toArray, List.set_cons_zero, List.set_cons_succ]
          have S6 := strs_new u2 #[.string ⟨#[120]⟩, .string ⟨#[10]⟩] 9 2 9 (by decide)
          have A6 : Below u2.heap.size u2 (u2.alloc (.cells #[.string ⟨#[120]⟩, .string ⟨#[10]⟩] 9)) := (Below.refl _ _).alloc (Nat.le_refl _) _
          have T6 := T3.trans ((Touch.of_below g2).trans (Touch.of_below A6))
          have R6 := (R3.below g2).below A6
          have B6 : u2.heap.size ≠ R := by have := g2.size; have := T3.size; omega
          replace S3 := (S3.touch (Touch.of_below g2) B3).touch (Touch.of_below A6) B3
          generalize hU6 : u2.alloc (.cells #[.string ⟨#[120]⟩, .string ⟨#[10]⟩] 9) = V6 at *
          clear hU6
          refine wpAnyW_one (m := 4) (by kernel_rfl) (fun u3 g3 => ?_)
          refine wpOp_at (o := _) (by rfl) (by rfl) ?_
          go_simp
          replace S3 := S3.touch (Touch.of_below g3) B3
          replace S6 := S6.touch (Touch.of_below g3) B6
          refine (of_any R _ u1.heap.size 0 4 4 9 _ (R6.below g3) (by omega) B3 (by omega) (by omega) S3).mono ?_
          rintro e v4 ⟨sA, psA, rfl, gsA, fsA, ksA, RsA, tsA⟩
          refine ⟨tsA, ?_⟩
          try simp only [Act.put, List.setIfInBounds_toArray, List.set_cons_zero, List.set_cons_succ]
          have TsA := T6.trans ((Touch.of_below g3).trans tsA)
          replace S3 := S3.touch tsA B3
          replace S6 := S6.touch tsA B6
          refine wpAnyW_one (m := 7) (by kernel_rfl) (fun u4 g4 => ?_)
          refine wpOp_at (o := _) (by rfl) (by rfl) ?_
          go_simp
          replace S3 := S3.touch (Touch.of_below g4) B3
          replace S6 := S6.touch (Touch.of_below g4) B6
          refine (of_any R _ u2.heap.size 0 2 2 9 _ (RsA.below g4) (by omega) B6 (by omega) (by omega) S6).mono ?_
          rintro e v7 ⟨sB, psB, rfl, gsB, fsB, ksB, RsB, tsB⟩
          refine ⟨tsB, ?_⟩
          try simp only [Act.put, List.setIfInBounds_toArray, List.set_cons_zero, List.set_cons_succ]
          have TsB := TsA.trans ((Touch.of_below g4).trans tsB)
          replace S3 := S3.touch tsB B3
          replace S6 := S6.touch tsB B6
          refine wpAnyW_one (m := 8) (by kernel_rfl) (fun u8 g8 => ?_)
          refine wpOp_at (o := _) (by rfl) (by rfl) ?_
          go_simp
          refine ⟨Touch.refl _ _, ?_⟩
          try simp only [Act.put, List.setIfInBounds_toArray, List.set_cons_zero, List.set_cons_succ]
          refine wpAnyW_one (m := 9) (by kernel_rfl) (fun u9 g9 => ?_)
          refine wpOp_at (o := _) (by rfl) (by rfl) ?_
          go_simp
          refine ⟨Touch.of_below ((Below.refl _ _).alloc (Nat.le_refl _) _), ?_⟩
          try simp only [Act.put, List.setIfInBounds_toArray, List.set_cons_zero, List.set_cons_succ]
          have N0 : (u9.alloc (.cells #[.string sA, .string sB] 45)).cell? ⟨u9.heap.size, 0, none⟩ = some (.string sA) := by rw [World.cell?_alloc_at _ _ _ _ rfl]; rfl
          have N1 : (u9.alloc (.cells #[.string sA, .string sB] 45)).cell? ⟨u9.heap.size, 1, none⟩ = some (.string sB) := by rw [World.cell?_alloc_at _ _ _ _ rfl]; rfl
          have NL : u9.heap.size < (u9.alloc (.cells #[.string sA, .string sB] 45)).heap.size := by simp
          have A9 : Below u9.heap.size u9 (u9.alloc (.cells #[.string sA, .string sB] 45)) := (Below.refl _ _).alloc (Nat.le_refl _) _
          generalize hU9 : u9.alloc (.cells #[.string sA, .string sB] 45) = V9 at *
          clear hU9
          refine wpAnyW_rest (by kernel_rfl) (fun u10 g10 => ?_)
          have b10 : Below v7.heap.size v7 u10 := nx (nx (nx g8 g9) A9) g10
          have T10 := TsB.trans (Touch.of_below b10)
          have R10 := RsB.below b10
          have hs10 := T10.size
          have HX6 := Lib.hid (HX4.out.touch T10 (by omega))
          have HY6 := Lib.hid (HY4.out.touch T10 (by omega))
          have hO6 := OwnR.touch HO4.out T10 (by omega)
          have hl6 : w.heap.size + 1 < u10.heap.size := by omega
          refine wpAny_one (m := 10) (by kernel_rfl) ?_
          refine wpOp_at (o := _) (by rfl) (by rfl) ?_
          refine wp_append_F _ _ rfl (w.heap.size + 1 + 1) _ xs (fld sA sB) u9.heap.size rfl rfl hO6 (by rw [below_at g10 NL, N0]; unfold fld; rw [str_of]) (by rw [below_at g10 NL, N1]; unfold fld; rw [str_of]) (by omega) (by omega) ?_
          intro v11 u11 hO11 hb11
          have hs11 := hb11.size
          have HX11 := Lib.hid (kf3_belowB HX6.out hb11 (by omega))
          have HY11 := Lib.hid (kf3_belowB HY6.out hb11 (by omega))
          have T11 := (hT4.trans T10).ext (hb11.mono (by omega))
          have R11 := R10.belowB hb11 (by omega)
          obtain ⟨ys, hys⟩ : ∃ ys, ys = xs ++ [fld sA sB] := ⟨_, rfl⟩
          have hyl : ys.length ≤ n + 1 := by rw [hys]; simp; omega
          have HYS : Hid (∀ x ∈ ys, SmallF M x) := fun x hx => by
            rw [hys] at hx
            rcases List.mem_append.1 hx with h | h
            · exact HXS.out x h
            · rw [List.mem_singleton.1 h]; exact ⟨by show sA.data.toList.length ≤ M; rw [size_list]; omega, by show sB.data.toList.length ≤ M; rw [size_list]; omega⟩
          rw [← hys] at hO11
          have HO11 := Lib.hid hO11
          obtain ⟨a11, c11, rfl, _, _, _⟩ := hO11.read fldC_len
          clear hys hO11 N0 N1 hO6
          try simp only [Act.put, List.setIfInBounds_toArray]
          obtain ⟨⟨y0, y1, y2⟩, yf⟩ := HX11.out
          refine wpAny_one (m := 11) (by kernel_rfl) ?_
          refine wpOp_at (o := _) (by rfl) (by rfl) ?_
          go_simp
          try simp only [Act.put, List.setIfInBounds_toArray, List.set_cons_zero, List.set_cons_succ]
          refine wpAny_one (m := 12) (by kernel_rfl) ?_
          refine wpOp_at (o := _) (by rfl) (by rfl) ?_
          go_simp
          try simp only [Act.put]
          refine wpAny_end (by kernel_rfl) ?_ _
          have HO12 : Hid (OwnF (w.heap.size + 1 + 1) (.slice a11 ys.length c11) ys (u11.setCell ⟨w.heap.size, 2, none⟩ (.slice a11 ys.length c11))) := ownF_offG HO11.out (by omega) 2 _
          have HX12 := Lib.hid (HX11.out.set2 (.slice a11 ys.length c11))
          have HY12 : Hid (KF3 (u11.setCell ⟨w.heap.size, 2, none⟩ (.slice a11 ys.length c11)) (w.heap.size + 1) (.string ⟨#[]⟩) (.string ⟨#[]⟩) (.slice none 0 0)) := HY11.out.off (by omega) _
          have T12 : Touch R w (u11.setCell ⟨w.heap.size, 2, none⟩ (.slice a11 ys.length c11)) := T11.setNew (Nat.le_refl _) _
          have R12 : Rd (u11.setCell ⟨w.heap.size, 2, none⟩ (.slice a11 ys.length c11)) R psB := R11.belowB ((Below.refl w.heap.size u11).setCell (p := ⟨w.heap.size, 2, none⟩) (Nat.le_refl _) _) hRl
          have hl12 : w.heap.size + 1 < (u11.setCell ⟨w.heap.size, 2, none⟩ (.slice a11 ys.length c11)).heap.size := by simp; omega
          clear y0 y1 y2 yf
          generalize hU12 : u11.setCell ⟨w.heap.size, 2, none⟩ (.slice a11 ys.length c11) = V12 at *
          clear hU12
          obtain ⟨⟨y0, y1, y2⟩, yf⟩ := HX12.out
          obtain ⟨⟨z0, z1, z2⟩, zf⟩ := HY12.out
          go_wp2
          refine bodyPost_ret (v := .agg #[.string m, .string s, .slice a11 ys.length c11]) (by simp [results, Tryd.results50, go_sem, z0, z1, z2]) rfl (drawnK_mk (p' := psB) (by omega) (by omega) HYS.out ?_ hyl (by omega) (by omega) ?_ ?_)
          · exact OwnR.base (ownF_offG (ownF_offG (ownF_offG HO12.out (by omega) 0 _) (by omega) 1 _) (by omega) 2 _) (by omega)
          · exact R12.belowB ((((Below.refl w.heap.size V12).setCell (p := ⟨w.heap.size + 1, 0, none⟩) (Nat.le_succ _) _).setCell (p := ⟨w.heap.size + 1, 1, none⟩) (Nat.le_succ _) _).setCell (p := ⟨w.heap.size + 1, 2, none⟩) (Nat.le_succ _) _) hRl
          · exact (((T12.setNew (Nat.le_succ _) _).setNew (Nat.le_succ _) _).setNew (Nat.le_succ _) _)
      · refine wpOp_at (o := _) (by rfl) (by rfl) ?_
        go_simp
        refine ⟨Touch.of_below ((Below.refl _ _).alloc (Nat.le_refl _) _), ?_⟩
        try simp only [Act.put, List.setIfInBounds_toArray, List.set_cons_zero, List.set_cons_succ]
        have S6 := strs_new u1 #[.string ⟨#[120]⟩, .string ⟨#[10]⟩] 9 2 9 (by decide)
        have A6 : Below u1.heap.size u1 (u1.alloc (.cells #[.string ⟨#[120]⟩, .string ⟨#[10]⟩] 9)) := (Below.refl _ _).alloc (Nat.le_refl _) _
        have T6 := T0.trans ((Touch.of_below g1).trans (Touch.of_below A6))
        have R6 := (R0.below g1).below A6
        have B6 : u1.heap.size ≠ R := by have := g1.size; have := T0.size; omega
        generalize hU6 : u1.alloc (.cells #[.string ⟨#[120]⟩, .string ⟨#[10]⟩] 9) = V6 at *
        clear hU6
        refine wpAnyW_one (m := 3) (by kernel_rfl) (fun u2 g2 => ?_)
        refine wpOp_at (o := _) (by rfl) (by rfl) ?_
        go_simp
        refine ⟨Touch.of_below ((Below.refl _ _).alloc (Nat.le_refl _) _), ?_⟩
        try simp only [Act.put, List.setIfInBounds_toArray, List.set_cons_zero, List.set_cons_succ]
        have S3 := strs_new u2 #[.string ⟨#[110, 97, 109, 101]⟩, .string ⟨#[78]⟩, .string ⟨#[97, 61, 98]⟩, .string ⟨#[121]⟩] 9 4 9 (by decide)
        have A3 : Below u2.heap.size u2 (u2.alloc (.cells #[.string ⟨#[110, 97, 109, 101]⟩, .string ⟨#[78]⟩, .string ⟨#[97, 61, 98]⟩, .string ⟨#[121]⟩] 9)) := (Below.refl _ _).alloc (Nat.le_refl _) _
        have T3 := T6.trans ((Touch.of_below g2).trans (Touch.of_below A3))
        have R3 := (R6.below g2).below A3
        have B3 : u2.heap.size ≠ R := by have := g2.size; have := T6.size; omega
        replace S6 := (S6.touch (Touch.of_below g2) B6).touch (Touch.of_below A3) B6
        generalize hU3 : u2.alloc (.cells #[.string ⟨#[110, 97, 109, 101]⟩, .string ⟨#[78]⟩, .string ⟨#[97, 61, 98]⟩, .string ⟨#[121]⟩] 9) = V3 at *
        clear hU3
        refine wpAnyW_one (m := 4) (by kernel_rfl) (fun u3 g3 => ?_)
        refine wpOp_at (o := _) (by rfl) (by rfl) ?_
        go_simp
        replace S6 := S6.touch (Touch.of_below g3) B6
        replace S3 := S3.touch (Touch.of_below g3) B3
        refine (of_any R _ u2.heap.size 0 4 4 9 _ (R3.below g3) (by omega) B3 (by omega) (by omega) S3).mono ?_
        rintro e v4 ⟨sA, psA, rfl, gsA, fsA, ksA, RsA, tsA⟩
        refine ⟨tsA, ?_⟩
        try simp only [Act.put, List.setIfInBounds_toArray, List.set_cons_zero, List.set_cons_succ]
        have TsA := T3.trans ((Touch.of_below g3).trans tsA)
        replace S6 := S6.touch tsA B6
        replace S3 := S3.touch tsA B3
        refine wpAnyW_one (m := 7) (by kernel_rfl) (fun u4 g4 => ?_)
        refine wpOp_at (o := _) (by rfl) (by rfl) ?_
        go_simp
        replace S6 := S6.touch (Touch.of_below g4) B6
        replace S3 := S3.touch (Touch.of_below g4) B3
        refine (of_any R _ u1.heap.size 0 2 2 9 _ (RsA.below g4) (by omega) B6 (by omega) (by omega) S6).mono ?_
        rintro e v7 ⟨sB, psB, rfl, gsB, fsB, ksB, RsB, tsB⟩
        refine ⟨tsB, ?_⟩
        try simp only [Act.put, List.setIfInBounds_toArray, List.set_cons_zero, List.set_cons_succ]
        have TsB := TsA.trans ((Touch.of_below g4).trans tsB)
        replace S6 := S6.touch tsB B6
        replace S3 := S3.touch tsB B3
        refine wpAnyW_one (m := 8) (by kernel_rfl) (fun u8 g8 => ?_)
        refine wpOp_at (o := _) (by rfl) (by rfl) ?_
        go_simp
        refine ⟨Touch.refl _ _, ?_⟩
        try simp only [Act.put, List.setIfInBounds_toArray, List.set_cons_zero, List.set_cons_succ]
        refine wpAnyW_one (m := 9) (by kernel_rfl) (fun u9 g9 => ?_)
        refine wpOp_at (o := _) (by rfl) (by rfl) ?_
        go_simp
        refine ⟨Touch.of_below ((Below.refl _ _).alloc (Nat.le_refl _) _), ?_⟩
        try simp only [Act.put, List.setIfInBounds_toArray, List.set_cons_zero, List.set_cons_succ]
        have N0 : (u9.alloc (.cells #[.string sA, .string sB] 45)).cell? ⟨u9.heap.size, 0, none⟩ = some (.string sA) := by rw [World.cell?_alloc_at _ _ _ _ rfl]; rfl
        have N1 : (u9.alloc (.cells #[.string sA, .string sB] 45)).cell? ⟨u9.heap.size, 1, none⟩ = some (.string sB) := by rw [World.cell?_alloc_at _ _ _ _ rfl]; rfl
        have NL : u9.heap.size < (u9.alloc (.cells #[.string sA, .string sB] 45)).heap.size := by simp
        have A9 : Below u9.heap.size u9 (u9.alloc (.cells #[.string sA, .string sB] 45)) := (Below.refl _ _).alloc (Nat.le_refl _) _
        generalize hU9 : u9.alloc (.cells #[.string sA, .string sB] 45) = V9 at *
        clear hU9
        refine wpAnyW_rest (by kernel_rfl) (fun u10 g10 => ?_)
        have b10 : Below v7.heap.size v7 u10 := nx (nx (nx g8 g9) A9) g10
        have T10 := TsB.trans (Touch.of_below b10)
        have R10 := RsB.below b10
        have hs10 := T10.size
        have HX6 := Lib.hid (HX4.out.touch T10 (by omega))
        have HY6 := Lib.hid (HY4.out.touch T10 (by omega))
        have hO6 := OwnR.touch HO4.out T10 (by omega)
        have hl6 : w.heap.size + 1 < u10.heap.size := by omega
        refine wpAny_one (m := 10) (by kernel_rfl) ?_
        refine wpOp_at (o := _) (by rfl) (by rfl) ?_
        refine wp_append_F _ _ rfl (w.heap.size + 1 + 1) _ xs (fld sA sB) u9.heap.size rfl rfl hO6 (by rw [below_at g10 NL, N0]; unfold fld; rw [str_of]) (by rw [below_at g10 NL, N1]; unfold fld; rw [str_of]) (by omega) (by omega) ?_
        intro v11 u11 hO11 hb11
        have hs11 := hb11.size
        have HX11 := Lib.hid (kf3_belowB HX6.out hb11 (by omega))
        have HY11 := Lib.hid (kf3_belowB HY6.out hb11 (by omega))
        have T11 := (hT4.trans T10).ext (hb11.mono (by omega))
        have R11 := R10.belowB hb11 (by omega)
        obtain ⟨ys, hys⟩ : ∃ ys, ys = xs ++ [fld sA sB] := ⟨_, rfl⟩
        have hyl : ys.length ≤ n + 1 := by rw [hys]; simp; omega
        have HYS : Hid (∀ x ∈ ys, SmallF M x) := fun x hx => by
          rw [hys] at hx
          rcases List.mem_append.1 hx with h | h
          · exact HXS.out x h
          · rw [List.mem_singleton.1 h]; exact ⟨by show sA.data.toList.length ≤ M; rw [size_list]; omega, by show sB.data.toList.length ≤ M; rw [size_list]; omega⟩
        rw [← hys] at hO11
        have HO11 := Lib.hid hO11
        obtain ⟨a11, c11, rfl, _, _, _⟩ := hO11.read fldC_len
        clear hys hO11 N0 N1 hO6
        try simp only [Act.put, List.setIfInBounds_toArray]
        obtain ⟨⟨y0, y1, y2⟩, yf⟩ := HX11.out
        refine wpAny_one (m := 11) (by kernel_rfl) ?_
        refine wpOp_at (o := _) (by rfl) (by rfl) ?_
        go_simp
        try simp only [Act.put, List.setIfInBounds_toArray, List.set_cons_zero, List.set_cons_succ]
        refine wpAny_one (m := 12) (by kernel_rfl) ?_
        refine wpOp_at (o := _) (by rfl) (by rfl) ?_
        go_simp
        try simp only [Act.put]
        refine wpAny_end (by kernel_rfl) ?_ _
        have HO12 : Hid (OwnF (w.heap.size + 1 + 1) (.slice a11 ys.length c11) ys (u11.setCell ⟨w.heap.size, 2, none⟩ (.slice a11 ys.length c11))) := ownF_offG HO11.out (by omega) 2 _
        have HX12 := Lib.hid (HX11.out.set2 (.slice a11 ys.length c11))
        have HY12 : Hid (KF3 (u11.setCell ⟨w.heap.size, 2, none⟩ (.slice a11 ys.length c11)) (w.heap.size + 1) (.string ⟨#[]⟩) (.string ⟨#[]⟩) (.slice none 0 0)) := HY11.out.off (by omega) _
        have T12 : Touch R w (u11.setCell ⟨w.heap.size, 2, none⟩ (.slice a11 ys.length c11)) := T11.setNew (Nat.le_refl _) _
        have R12 : Rd (u11.setCell ⟨w.heap.size, 2, none⟩ (.slice a11 ys.length c11)) R psB := R11.belowB ((Below.refl w.heap.size u11).setCell (p := ⟨w.heap.size, 2, none⟩) (Nat.le_refl _) _) hRl
        have hl12 : w.heap.size + 1 < (u11.setCell ⟨w.heap.size, 2, none⟩ (.slice a11 ys.length c11)).heap.size := by simp; omega
        clear y0 y1 y2 yf
        generalize hU12 : u11.setCell ⟨w.heap.size, 2, none⟩ (.slice a11 ys.length c11) = V12 at *
        clear hU12
        obtain ⟨⟨y0, y1, y2⟩, yf⟩ := HX12.out
        obtain ⟨⟨z0, z1, z2⟩, zf⟩ := HY12.out
        go_wp2
        refine bodyPost_ret (v := .agg #[.string m, .string s, .slice a11 ys.length c11]) (by simp [results, Tryd.results50, go_sem, z0, z1, z2]) rfl (drawnK_mk (p' := psB) (by omega) (by omega) HYS.out ?_ hyl (by omega) (by omega) ?_ ?_)
        · exact OwnR.base (ownF_offG (ownF_offG (ownF_offG HO12.out (by omega) 0 _) (by omega) 1 _) (by omega) 2 _) (by omega)
        · exact R12.belowB ((((Below.refl w.heap.size V12).setCell (p := ⟨w.heap.size + 1, 0, none⟩) (Nat.le_succ _) _).setCell (p := ⟨w.heap.size + 1, 1, none⟩) (Nat.le_succ _) _).setCell (p := ⟨w.heap.size + 1, 2, none⟩) (Nat.le_succ _) _) hRl
        · exact (((T12.setNew (Nat.le_succ _) _).setNew (Nat.le_succ _) _).setNew (Nat.le_succ _) _)
    · have e1 : ((k : Int) == 1) = false := by rw [beq_eq_false_iff_ne]; omega
      clear k0 k1 hk
      obtain ⟨⟨y0, y1, y2⟩, yf⟩ := HX4.out
      obtain ⟨⟨z0, z1, z2⟩, zf⟩ := HY4.out
      have hl4 : w.heap.size + 1 < w4.heap.size := by omega
      go_wp2
      refine bodyPost_ret (v := .agg #[.string m, .string s, .slice a2 xs.length c2]) (by simp [results, Tryd.results50, go_sem, z0, z1, z2]) rfl (drawnK_mk (p' := p + 1) (by omega) (by omega) HXS.out ?_ (by omega) (by omega) (by omega) ?_ ?_)
      · exact OwnR.base (ownF_offG (ownF_offG (ownF_offG HO4.out (by omega) 0 _) (by omega) 1 _) (by omega) 2 _) (by omega)
      · exact hr4.belowB ((((Below.refl w.heap.size w4).setCell (p := ⟨w.heap.size + 1, 0, none⟩) (Nat.le_succ _) _).setCell (p := ⟨w.heap.size + 1, 1, none⟩) (Nat.le_succ _) _).setCell (p := ⟨w.heap.size + 1, 2, none⟩) (Nat.le_succ _) _) hRl
      · exact (((hT4.setNew (Nat.le_succ _) _).setNew (Nat.le_succ _) _).setNew (Nat.le_succ _) _)
end Go.Proofs.YtfheajfcepcepaaDoor
end

section
namespace Go.Proofs.YtfheajfcepcepaaDoor
open Go.RowKit

theorem kndV_agg (k : Knd) (a : Option Addr) (d : Nat) : kndV k a d = .agg #[.string (str k.main), .string (str k.sub), .slice a k.params.length d] := rfl
theorem knd_str (k : Knd) : (⟨(str k.main).data.toList, (str k.sub).data.toList, k.params⟩ : Knd) = k := Knd.ext' (str_list _) (str_list _) rfl
/-- A kind is drawn; nothing that was there turns. -/
def DrawnKd (n M : Nat) (w : World) (e : Ending) (w' : World) : Prop := ∃ (k : Knd) (a : Option Addr) (d : Nat), e = .returned (kndV k a d) ∧ OwnF w.heap.size (.slice a k.params.length d) k.params w' ∧ k.params.length ≤ n ∧ SmallK M k ∧ Below w.heap.size w w'
theorem drawnKd_mk {n M d : Nat} {a : Option Addr} {w w' : World} {k : Knd} {m s : ByteArray} (hm : m = str k.main) (hs : s = str k.sub) (ho : OwnF w.heap.size (.slice a k.params.length d) k.params w') (hn : k.params.length ≤ n) (hk : SmallK M k) (hb : Below w.heap.size w w') : DrawnKd n M w (.returned (.agg #[.string m, .string s, .slice a k.params.length d])) w' := by
  subst hm hs; exact ⟨k, a, d, rfl, ho, hn, hk, hb⟩
set_option maxRecDepth 100000 in
set_option maxHeartbeats 1000000 in
theorem drawKindValid_any (a : Option Addr) (n c : Nat) (w : World) (hc : Code w a n) (hnc : n ≤ c) (hm : c ≤ maxLen) :
    Calls Tryd.prog 25 #[.slice a n c] w (DrawnKd 5 9 w) := by
  have hb0 : Below w.heap.size w (w.alloc (.cells #[.string ⟨#[]⟩, .string ⟨#[]⟩, .slice none 0 0] 25)) := (Below.refl _ _).alloc (Nat.le_refl _) _
  have HZ0 := Lib.hid (KF3.new w (.string ⟨#[]⟩) (.string ⟨#[]⟩) (.slice none 0 0) 25)
  go_enter Tryd.func25, Tryd.ntmps25
  go_wp2_with fail
  refine (open_any a n c _ (hc.below hb0) hnc hm).mono ?_
  rintro e w1 ⟨R, rfl, hR, hr1, hb1⟩
  have HZ1 := Lib.hid (HZ0.out.below hb1)
  have hb01 := nx hb0 hb1
  have hR0 : w.heap.size < R := by simp at hR; omega
  have hs1 := hb01.size
  clear hb1 hb0 HZ0
  go_wp2_with fail
  refine (l7Draw_any R 0 w1 hr1 (by omega)).mono ?_
  rintro e w2 ⟨k2, a2, d2, p2, rfl, ho2, hn2, hk2, f2, q2, hr2, ht2⟩
  rw [kndV_agg]
  go_wp2_with fail
  refine (l7Wrong_any R p2 3 9 d2 _ _ _ a2 k2.params w2 hr2 (by omega) (by omega) (by rw [str_size]; exact hk2.1) (by rw [str_size]; exact hk2.2.1) ho2 hn2 (by omega) hk2.2.2).mono ?_
  rintro e w3 ⟨k3, a3, d3, p3, rfl, ho3, hn3, hk3, f3, q3, hr3, ht3⟩
  rw [kndV_agg]
  go_wp2_with fail
  refine (l7Wrong_any R p3 4 9 d3 _ _ _ a3 k3.params w3 hr3 (by omega) (by omega) (by rw [str_size]; exact hk3.1) (by rw [str_size]; exact hk3.2.1) ho3 hn3 (by omega) hk3.2.2).mono ?_
  rintro e w4 ⟨k4, a4, d4, p4, rfl, ho4, hn4, hk4, f4, q4, hr4, ht4⟩
  rw [kndV_agg]
  have ht14 := ht2.trans (ht3.trans ht4)
  have HZ4 := Lib.hid (HZ1.out.touch ht14 (by omega))
  have hB4 := after_open hb01 (by omega) ht14
  have hs3 : w.heap.size < w3.heap.size := by have := (ht2.trans ht3).size; have := hr1.lt; omega
  have hl4 : w.heap.size < w4.heap.size := by have := ht4.size; omega
  have HO4 := Lib.hid ho4
  have HMS : Hid (str k4.main = str k4.main ∧ str k4.sub = str k4.sub) := ⟨rfl, rfl⟩
  obtain ⟨MM, hMM⟩ : ∃ MM, MM = str k4.main := ⟨_, rfl⟩
  obtain ⟨SS, hSS⟩ : ∃ SS, SS = str k4.sub := ⟨_, rfl⟩
  rw [← hMM, ← hSS]
  have HMM := Lib.hid hMM
  have HSS := Lib.hid hSS
  clear hMM hSS HMS ho4
  obtain ⟨⟨z0, z1, z2⟩, zf⟩ := HZ4.out
  go_wp2
  refine bodyPost_ret (v := .agg #[.string MM, .string SS, .slice a4 k4.params.length d4]) (by simp [results, Tryd.results25, go_sem, z0, z1, z2]) rfl (drawnKd_mk HMM.out HSS.out ?_ hn4 hk4 ?_)
  · exact OwnR.base (ownF_offG (ownF_offG (ownF_offG HO4.out (by omega) 0 _) (by omega) 1 _) (by omega) 2 _) (by omega)
  · exact (((hB4.setCell (by simp) _).setCell (by simp) _).setCell (by simp) _)
set_option maxRecDepth 100000 in
set_option maxHeartbeats 1000000 in
theorem drawFormatKind_any (a : Option Addr) (n c : Nat) (w : World) (hc : Code w a n) (hnc : n ≤ c) (hm : c ≤ maxLen) :
    Calls Tryd.prog 9 #[.slice a n c] w (DrawnKd 5 9 w) := by
  have hb0 : Below w.heap.size w (w.alloc (.cells #[.string ⟨#[]⟩, .string ⟨#[]⟩, .slice none 0 0] 25)) := (Below.refl _ _).alloc (Nat.le_refl _) _
  have HZ0 := Lib.hid (KF3.new w (.string ⟨#[]⟩) (.string ⟨#[]⟩) (.slice none 0 0) 25)
  go_enter Tryd.func9, Tryd.ntmps9
  go_wp2_with fail
  refine (drawKindValid_any a n c _ (hc.below hb0) hnc hm).mono ?_
  rintro e w1 ⟨k4, a4, d4, rfl, ho4, hn4, hk4, hb1⟩
  rw [kndV_agg]
  have HZ4 := Lib.hid (HZ0.out.below hb1)
  have hB4 := nx hb0 hb1
  have hl4 : w.heap.size < w1.heap.size := by have := hb1.size; simp at this; omega
  have HO4 : Hid (OwnF (w.heap.size + 1) (.slice a4 k4.params.length d4) k4.params w1) := OwnR.base ho4 (by simp)
  obtain ⟨MM, hMM⟩ : ∃ MM, MM = str k4.main := ⟨_, rfl⟩
  obtain ⟨SS, hSS⟩ : ∃ SS, SS = str k4.sub := ⟨_, rfl⟩
  rw [← hMM, ← hSS]
  have HMM := Lib.hid hMM
  have HSS := Lib.hid hSS
  clear hMM hSS ho4
  obtain ⟨⟨z0, z1, z2⟩, zf⟩ := HZ4.out
  go_wp2
  refine bodyPost_ret (v := .agg #[.string MM, .string SS, .slice a4 k4.params.length d4]) (by simp [results, Tryd.results9, go_sem, z0, z1, z2]) rfl (drawnKd_mk HMM.out HSS.out ?_ hn4 hk4 ?_)
  · exact OwnR.base (ownF_offG (ownF_offG (ownF_offG HO4.out (by omega) 0 _) (by omega) 1 _) (by omega) 2 _) (by omega)
  · exact (((hB4.setCell (by simp) _).setCell (by simp) _).setCell (by simp) _)
theorem fmtK_len (k : Knd) : (fmtK k).length ≤ 150 := by
  cases h : isKnd k
  · rw [fmtK_no h]; simp
  · rw [fmtK_val h]; exact (isKnd_iff.1 h).2.2.2.2
set_option maxRecDepth 100000 in
set_option maxHeartbeats 1000000 in
theorem drawParseKind_any (a : Option Addr) (n c : Nat) (w : World) (hc : Code w a n) (hnc : n ≤ c) (hm : c ≤ maxLen) :
    Calls Tryd.prog 16 #[.slice a n c] w (DrawnStr 151 w) := by
  go_enter Tryd.func16, Tryd.ntmps16
  go_wp2_with fail
  refine (open_any a n c w hc hnc hm).mono ?_
  rintro e w1 ⟨R, rfl, hR, hr1, hb1⟩
  go_wp2_with fail
  refine (pick_any R 0 4 w1 hr1 (by omega) (by omega)).mono ?_
  rintro e w2 ⟨k, rfl, hk, hr2, ht2⟩
  by_cases k0 : k = 0
  · have e0 : ((k : Int) == 0) = true := by rw [k0]; rfl
    clear k0 hk
    go_wp2_with fail
    refine (of_lit R (0 + 1) 7 27 _ _ w2 hr2 (by omega) (by omega) (by omega) (by decide)).mono ?_
    rintro e w3 ⟨s3, p3, rfl, g3, f3, k3, hr3, ht3⟩
    go_wp2
    go_ret
    exact ⟨s3, rfl, by omega, after_open hb1 hR (ht2.trans ht3)⟩
  · have e0 : ((k : Int) == 0) = false := by rw [beq_eq_false_iff_ne]; omega
    clear k0 hk
    go_wp2_with fail
    refine (l7Draw_any R (0 + 1) w2 hr2 (by omega)).mono ?_
    rintro e w3 ⟨k3, a3, d3, p3, rfl, ho3, hn3, hk3, f3, q3, hr3, ht3⟩
    rw [kndV_agg]
    obtain ⟨_, _, hv, hrd, _, hcap⟩ := ho3.read fldC_len
    injection hv with e1 _ e3
    subst e1 e3
    have HF : Hid (Calls Tryd.prog 11 #[.agg #[.string (str k3.main), .string (str k3.sub), .slice a3 k3.params.length d3]] w3 fun e w' => e = .returned (.string (str (fmtK k3))) ∧ Below w3.heap.size w3 w') := by
      have := formatKindS_any (str k3.main) (str k3.sub) a3 k3.params.length d3 k3.params w3 (by rw [str_size]; have := hk3.1; omega) (by rw [str_size]; have := hk3.2.1; omega) hrd hcap (by omega) (fun x hx => (hk3.2.2 x hx).up (by omega))
      rw [knd_str] at this; exact this
    have hfz : (str (fmtK k3)).size ≤ 150 := by rw [str_size]; exact fmtK_len k3
    generalize str (fmtK k3) = FK at *
    clear ho3 hrd
    go_wp2_with fail
    refine HF.out.mono ?_
    rintro e w4 ⟨rfl, hb4⟩
    go_wp2_with fail
    refine (bend_lit R p3 6 1 _ _ _ w4 (hr3.below hb4) (by omega) (by omega) (by omega) (by omega) (by omega) (by decide)).mono ?_
    rintro e w5 ⟨s5, p5, rfl, g5, f5, k5, hr5, ht5⟩
    go_wp2
    go_ret
    exact ⟨s5, rfl, by omega, after_open hb1 hR (ht2.trans (ht3.trans ((Touch.of_below hb4).trans ht5)))⟩
theorem drawnKd_one {n M d : Nat} {a : Option Addr} {w w' : World} {m s : ByteArray} (k : Knd) (h1 : k.params.length = 1) (hm : m = str k.main) (hs : s = str k.sub) (ho : OwnF w.heap.size (.slice a 1 d) k.params w') (hn : 1 ≤ n) (hk : SmallK M k) (hb : Below w.heap.size w w') : DrawnKd n M w (.returned (.agg #[.string m, .string s, .slice a 1 d])) w' := by
  subst hm hs; exact ⟨k, a, d, by rw [kndV_agg, h1], by rw [h1]; exact ho, by omega, hk, hb⟩
theorem ownF_one (w : World) (n v : ByteArray) : OwnF w.heap.size (.slice (some ⟨w.heap.size, 0, none⟩) 1 1) [fld n v] (w.alloc (.cells #[.string n, .string v] 45)) := by
  refine ⟨by simp [fldC], .inr ⟨w.heap.size, 1, #[.string n, .string v], rfl, Nat.le_refl _, by show (w.heap.push _)[w.heap.size]? = _; simp, Nat.le_refl _, by unfold maxLen; omega, by simp, ?_⟩⟩
  simp [fldC, fld, str_of]
set_option maxRecDepth 100000 in
set_option maxHeartbeats 1000000 in
theorem drawBoundaryOf_any (a : Option Addr) (n c : Nat) (w : World) (hc : Code w a n) (hnc : n ≤ c) (hm : c ≤ maxLen) :
    Calls Tryd.prog 18 #[.slice a n c] w (DrawnKd 5 9 w) := by
  have hb0 : Below w.heap.size w (w.alloc (.cells #[.string ⟨#[]⟩, .string ⟨#[]⟩, .slice none 0 0] 25)) := (Below.refl _ _).alloc (Nat.le_refl _) _
  have HZ0 := Lib.hid (KF3.new w (.string ⟨#[]⟩) (.string ⟨#[]⟩) (.slice none 0 0) 25)
  go_enter Tryd.func18, Tryd.ntmps18
  go_wp2_with fail
  refine (open_any a n c _ (hc.below hb0) hnc hm).mono ?_
  rintro e w1 ⟨R, rfl, hR, hr1, hb1⟩
  have HZ1 := Lib.hid (HZ0.out.below hb1)
  have hb01 := nx hb0 hb1
  have hR0 : w.heap.size < R := by simp at hR; omega
  have hs1 := hb01.size
  have hR1 := hr1.lt
  clear hb1 hb0 HZ0
  go_wp2_with fail
  refine (pick_any R 0 2 w1 hr1 (by omega) (by omega)).mono ?_
  rintro e w2 ⟨k, rfl, hk, hr2, ht2⟩
  have hs2 := ht2.size
  by_cases k0 : k = 0
  · have e0 : ((k : Int) == 0) = true := by rw [k0]; rfl
    clear k0 hk
    go_wp2_with fail
    refine (of_lit R (0 + 1) 2 8 _ _ w2 hr2 (by omega) (by omega) (by omega) (by decide)).mono ?_
    rintro e w3 ⟨s3, p3, rfl, g3, f3, k3, hr3, ht3⟩
    have hs3 := ht3.size
    go_wp2_with fail
    refine (of_lit R p3 5 3 _ _ w3 hr3 (by omega) (by omega) (by omega) (by decide)).mono ?_
    rintro e w4 ⟨s4, p4, rfl, g4, f4, k4, hr4, ht4⟩
    have hs4 := ht4.size
    have ht14 := ht2.trans (ht3.trans ht4)
    have HZ5 := Lib.hid (HZ1.out.touch ht14 (by omega))
    have HO5 : Hid (∀ X : World, X.heap.size = w4.heap.size → OwnF w4.heap.size (.slice (some ⟨w4.heap.size, 0, none⟩) 1 1) [fld s3 s4] (X.alloc (.cells #[.string s3, .string s4] 45))) := fun X hX => by
      have := ownF_one X s3 s4
      rw [hX] at this; exact this
    have hB4 := after_open hb01 (by omega) ht14
    have hw4 : w.heap.size < w4.heap.size := by omega
    have HSM : Hid (SmallK 9 ⟨[109, 117, 108, 116, 105, 112, 97, 114, 116], [109, 105, 120, 101, 100], [fld s3 s4]⟩) := ⟨by simp, by simp, fun x hx => by rw [List.mem_singleton.1 hx]; exact ⟨by show s3.data.toList.length ≤ 9; rw [size_list]; omega, by show s4.data.toList.length ≤ 9; rw [size_list]; omega⟩⟩
    obtain ⟨⟨z0, z1, z2⟩, zf⟩ := HZ5.out
    go_wp2
    refine bodyPost_ret (v := .agg #[.string ⟨#[109, 117, 108, 116, 105, 112, 97, 114, 116]⟩, .string ⟨#[109, 105, 120, 101, 100]⟩, .slice (some ⟨w4.heap.size, 0, none⟩) 1 1]) (by simp [results, Tryd.results18, go_sem, z0, z1, z2, World.cell?_alloc_lt, hw4]) rfl (drawnKd_one ⟨[109, 117, 108, 116, 105, 112, 97, 114, 116], [109, 105, 120, 101, 100], [fld s3 s4]⟩ rfl rfl rfl ?_ (by omega) HSM.out ?_)
    · exact OwnR.base (HO5.out _ (by simp)) (by omega)
    · exact (((hB4.setCell (by simp) _).setCell (by simp) _).setCell (by simp) _).alloc (by simp; omega) _
  · have e0 : ((k : Int) == 0) = false := by rw [beq_eq_false_iff_ne]; omega
    clear k0 hk
    go_wp2_with fail
    refine (l7Draw_any R (0 + 1) w2 hr2 (by omega)).mono ?_
    rintro e w3 ⟨k3, a3, d3, p3, rfl, ho3, hn3, hk3, f3, q3, hr3, ht3⟩
    rw [kndV_agg]
    go_wp2_with fail
    refine (l7Wrong_any R p3 3 9 d3 _ _ _ a3 k3.params w3 hr3 (by omega) (by omega) (by rw [str_size]; exact hk3.1) (by rw [str_size]; exact hk3.2.1) ho3 hn3 (by omega) hk3.2.2).mono ?_
    rintro e w4 ⟨k4, a4, d4, p4, rfl, ho4, hn4, hk4, f4, q4, hr4, ht4⟩
    rw [kndV_agg]
    have ht14 := ht2.trans (ht3.trans ht4)
    have HZ4 := Lib.hid (HZ1.out.touch ht14 (by omega))
    have hB4 := after_open hb01 (by omega) ht14
    have hs3 : w.heap.size < w3.heap.size := by have := ht3.size; omega
    have hl4 : w.heap.size < w4.heap.size := by have := ht4.size; omega
    have HO4 := Lib.hid ho4
    obtain ⟨MM, hMM⟩ : ∃ MM, MM = str k4.main := ⟨_, rfl⟩
    obtain ⟨SS, hSS⟩ : ∃ SS, SS = str k4.sub := ⟨_, rfl⟩
    rw [← hMM, ← hSS]
    have HMM := Lib.hid hMM
    have HSS := Lib.hid hSS
    clear hMM hSS ho4
    obtain ⟨⟨z0, z1, z2⟩, zf⟩ := HZ4.out
    go_wp2
    refine bodyPost_ret (v := .agg #[.string MM, .string SS, .slice a4 k4.params.length d4]) (by simp [results, Tryd.results18, go_sem, z0, z1, z2]) rfl (drawnKd_mk HMM.out HSS.out ?_ (by omega) hk4 ?_)
    · exact OwnR.base (ownF_offG (ownF_offG (ownF_offG HO4.out (by omega) 0 _) (by omega) 1 _) (by omega) 2 _) (by omega)
    · exact (((hB4.setCell (by simp) _).setCell (by simp) _).setCell (by simp) _)
end Go.Proofs.YtfheajfcepcepaaDoor
end

section
namespace Go.Proofs.YtfheajfcepcepaaDoor
open Go.RowKit

/-- Two kinds are drawn; nothing that was there turns. -/
def DrawnKK (n M : Nat) (w : World) (e : Ending) (w' : World) : Prop := ∃ (k : Knd) (a : Option Addr) (d : Nat) (q : Knd) (b : Option Addr) (f : Nat), e = .returned (.tuple #[kndV k a d, kndV q b f]) ∧ OwnF w.heap.size (.slice a k.params.length d) k.params w' ∧ OwnF w.heap.size (.slice b q.params.length f) q.params w' ∧ k.params.length ≤ n ∧ q.params.length ≤ n ∧ SmallK M k ∧ SmallK M q ∧ Below w.heap.size w w'
theorem drawnKK_mk {n M d f : Nat} {a b : Option Addr} {w w' : World} {k q : Knd} {m s m2 s2 : ByteArray} (hm : m = str k.main) (hs : s = str k.sub) (hm2 : m2 = str q.main) (hs2 : s2 = str q.sub) (ho : OwnF w.heap.size (.slice a k.params.length d) k.params w') (ho2 : OwnF w.heap.size (.slice b q.params.length f) q.params w') (hn : k.params.length ≤ n) (hn2 : q.params.length ≤ n) (hk : SmallK M k) (hq : SmallK M q) (hb : Below w.heap.size w w') : DrawnKK n M w (.returned (.tuple #[.agg #[.string m, .string s, .slice a k.params.length d], .agg #[.string m2, .string s2, .slice b q.params.length f]])) w' := by
  subst hm hs hm2 hs2; exact ⟨k, a, d, q, b, f, rfl, ho, ho2, hn, hn2, hk, hq, hb⟩
set_option maxRecDepth 100000 in
set_option maxHeartbeats 2000000 in
theorem drawKindSame_any (a : Option Addr) (n c : Nat) (w : World) (hc : Code w a n) (hnc : n ≤ c) (hm : c ≤ maxLen) :
    Calls Tryd.prog 23 #[.slice a n c] w (DrawnKK 4 9 w) := by
  have hb0 : Below w.heap.size w ((w.alloc (.cells #[.string ⟨#[]⟩, .string ⟨#[]⟩, .slice none 0 0] 25)).alloc (.cells #[.string ⟨#[]⟩, .string ⟨#[]⟩, .slice none 0 0] 25)) := ((Below.refl _ _).alloc (Nat.le_refl _) _).alloc (by simp) _
  have HY0 : Hid (KF3 ((w.alloc (.cells #[.string ⟨#[]⟩, .string ⟨#[]⟩, .slice none 0 0] 25)).alloc (.cells #[.string ⟨#[]⟩, .string ⟨#[]⟩, .slice none 0 0] 25)) w.heap.size (.string ⟨#[]⟩) (.string ⟨#[]⟩) (.slice none 0 0)) := (KF3.new w _ _ _ _).below ((Below.refl _ _).alloc (Nat.le_refl _) _)
  have HZ0 : Hid (KF3 ((w.alloc (.cells #[.string ⟨#[]⟩, .string ⟨#[]⟩, .slice none 0 0] 25)).alloc (.cells #[.string ⟨#[]⟩, .string ⟨#[]⟩, .slice none 0 0] 25)) (w.heap.size + 1) (.string ⟨#[]⟩) (.string ⟨#[]⟩) (.slice none 0 0)) := by
    show KF3 _ _ _ _ _
    have := KF3.new (w.alloc (.cells #[.string ⟨#[]⟩, .string ⟨#[]⟩, .slice none 0 0] 25)) (.string ⟨#[]⟩) (.string ⟨#[]⟩) (.slice none 0 0) 25
    simpa using this
  go_enter Tryd.func23, Tryd.ntmps23
  go_wp2_with fail
  refine (open_any a n c _ (hc.below hb0) hnc hm).mono ?_
  rintro e w1 ⟨R, rfl, hR, hr1, hb1⟩
  have HY1 := Lib.hid (HY0.out.below hb1)
  have HZ1 := Lib.hid (HZ0.out.below hb1)
  have hb01 := nx hb0 hb1
  have hR0 : w.heap.size + 1 < R := by simp at hR; omega
  have hR1 := hr1.lt
  clear hb1 hb0 HZ0 HY0
  go_wp2_with fail
  refine (l7Draw_any R 0 w1 hr1 (by omega)).mono ?_
  rintro e w2 ⟨k2, a2, d2, p2, rfl, ho2, hn2, hk2, f2, q2, hr2, ht2⟩
  rw [kndV_agg]
  have hs2 := ht2.size
  obtain ⟨MM, hMM⟩ : ∃ MM, MM = str k2.main := ⟨_, rfl⟩
  obtain ⟨SS, hSS⟩ : ∃ SS, SS = str k2.sub := ⟨_, rfl⟩
  have hM9 : MM.size ≤ 9 := by rw [hMM, str_size]; exact hk2.1
  have hS9 : SS.size ≤ 9 := by rw [hSS, str_size]; exact hk2.2.1
  rw [← hMM, ← hSS]
  have HMM := Lib.hid hMM
  have HSS := Lib.hid hSS
  have HSK := Lib.hid hk2
  clear hMM hSS
  have hA2 : Below w2.heap.size w2 (w2.alloc (.cells #[.string MM, .string SS, .slice a2 k2.params.length d2] 25)) := (Below.refl _ _).alloc (Nat.le_refl _) _
  have HK2 := Lib.hid (KF3.new w2 (.string MM) (.string SS) (.slice a2 k2.params.length d2) 25)
  have HY2 := Lib.hid ((HY1.out.touch ht2 (by omega)).below hA2)
  have HZ2 := Lib.hid ((HZ1.out.touch ht2 (by omega)).below hA2)
  have HO2 := Lib.hid (OwnR.keep ho2 hA2)
  have hT2 := ht2.trans (Touch.of_below hA2)
  have hr2A := hr2.below hA2
  have hl2 : w2.heap.size < (w2.alloc (.cells #[.string MM, .string SS, .slice a2 k2.params.length d2] 25)).heap.size := by simp
  clear ho2 hA2 hk2
  go_wp2_with fail
  generalize hW2 : w2.alloc (.cells #[.string MM, .string SS, .slice a2 k2.params.length d2] 25) = W2 at *
  clear hW2
  refine (pick_any R p2 2 W2 hr2A (by omega) (by omega)).mono ?_
  rintro e w3 ⟨k, rfl, hk, hr3, ht3⟩
  have hs3 := ht3.size
  obtain ⟨KB, hKB⟩ : ∃ KB, KB = w2.heap.size := ⟨_, rfl⟩
  rw [← hKB] at HK2 hl2
  rw [← hKB]
  have hKR : KB ≠ R := by have := hr2.lt; omega
  have hKw : w.heap.size + 1 < KB := by omega
  have HKE := Lib.hid hKB
  have HK3 := Lib.hid (HK2.out.touch ht3 hKR)
  have HY3 := Lib.hid (HY2.out.touch ht3 (by omega))
  have HZ3 := Lib.hid (HZ2.out.touch ht3 (by omega))
  have HO3 := Lib.hid (OwnR.touch HO2.out ht3 hR1)
  have hT3 := hT2.trans ht3
  have hl3 : w.heap.size + 1 < w1.heap.size := by omega
  have HB : Hid (∀ u, Touch R w3 u → u.cell? ⟨KB, 0, none⟩ = some (.string MM) ∧ u.cell? ⟨KB, 1, none⟩ = some (.string SS) ∧ u.cell? ⟨KB, 2, none⟩ = some (.slice a2 k2.params.length d2)) := fun u hu => (HK3.out.touch hu hKR).1
  have hw13 := hT3.size
  clear hKB HK2 HY2 HZ2 HO2 HY1 HZ1
  by_cases k0 : k = 0
  · have e0 : ((k : Int) == 0) = true := by rw [k0]; rfl
    clear k0 hk
    go_wp2_with fail
    refine wp_region_tail (by kernel_rfl) ?_
    refine wpAny_tailW (touchOk R) (fuel := 3) (tf := 2) [3, 4] (by kernel_rfl) ?_
    refine wpAnyW_take (touchOk R) (fuel := 1) [true, true] (by kernel_rfl) (by kernel_rfl) (by rfl) (by kernel_rfl) (by kernel_rfl) (by kernel_rfl) ?_
    apply Exists.intro
    refine ⟨fun x => ?_, ?_⟩
    · have y0 := fun (y : RelT Grow x.val) => (HB.out y.val (((Touch.refl R w3).drew).trans (x.rel.trans (Touch.of_below y.rel)))).1
      have y1 := fun (y : RelT Grow x.val) => (HB.out y.val (((Touch.refl R w3).drew).trans (x.rel.trans (Touch.of_below y.rel)))).2.1
      have y2 := fun (y : RelT Grow x.val) => (HB.out y.val (((Touch.refl R w3).drew).trans (x.rel.trans (Touch.of_below y.rel)))).2.2
      simp only [pickL]
      repeat (go_big_quiet_step (fail))
      exact wpQuiet_nil rfl
    refine wpAnyW_one (m := 2) (by kernel_rfl) (fun u1 g1 => ?_)
    refine wpOp_at (o := _) (by rfl) (by rfl) ?_
    go_simp
    refine (l7Draw_any R _ u1 ((hr3.below ((Below.refl _ _).drew)).below g1) (by omega)).mono ?_
    rintro e w4 ⟨k4, a4, d4, p4, rfl, ho4, hn4, hk4, f4, q4, hr4, ht4⟩
    refine ⟨ht4, ?_⟩
    rw [kndV_agg]
    try simp only [Act.put, List.setIfInBounds_toArray, List.set_cons_zero, List.set_cons_succ]
    have hT4 : Touch R w3 w4 := ((Touch.refl R w3).drew).trans ((Touch.of_below g1).trans ht4)
    have hg1 := g1.size
    have hu1 : w3.heap.size ≤ u1.heap.size := g1.size
    have hs4 := ht4.size
    refine wpAnyW_rest (by kernel_rfl) (fun u2 g2 => ?_)
    have hT5 := hT4.trans (Touch.of_below g2)
    have hO5 := OwnR.touch HO3.out hT5 hR1
    have hO6 : OwnF u1.heap.size (.slice a4 k4.params.length d4) k4.params u2 := OwnR.keep ho4 g2
    have HY5 := Lib.hid (HY3.out.touch hT5 (by omega))
    have HZ5 := Lib.hid (HZ3.out.touch hT5 (by omega))
    have hB5 : Below w.heap.size w u2 := after_open hb01 (by omega) (hT3.trans hT5)
    have hs5 := hT5.size
    obtain ⟨M4, hM4⟩ : ∃ MM, MM = str k4.main := ⟨_, rfl⟩
    obtain ⟨S4, hS4⟩ : ∃ SS, SS = str k4.sub := ⟨_, rfl⟩
    rw [← hM4, ← hS4]
    have HM4 := Lib.hid hM4
    have HS4 := Lib.hid hS4
    have HO5 := Lib.hid hO5
    have HO6 := Lib.hid hO6
    have HSQ := Lib.hid hk4
    clear hM4 hS4 hO5 hO6 ho4 hk4
    obtain ⟨⟨z0, z1, z2⟩, zf⟩ := HZ5.out
    obtain ⟨⟨y0, y1, y2⟩, yf⟩ := HY5.out
    have hlY : w.heap.size < u2.heap.size := by omega
    have hlZ : w.heap.size + 1 < u2.heap.size := by omega
    refine wpAny_one (m := 3) (by kernel_rfl) ?_
    refine wpOp_at (o := _) (by rfl) (by rfl) ?_
    go_simp
    try simp only [Act.put]
    refine wpAny_one (m := 4) (by kernel_rfl) ?_
    refine wpOp_at (o := _) (by rfl) (by rfl) ?_
    go_simp
    try simp only [Act.put]
    refine wpAny_end (by kernel_rfl) ?_ _
    go_wp2
    refine bodyPost_ret (v := .tuple #[.agg #[.string MM, .string SS, .slice a2 k2.params.length d2], .agg #[.string M4, .string S4, .slice a4 k4.params.length d4]]) (by simp [results, Tryd.results23, go_sem, z0, z1, z2, y0, y1, y2]) rfl (drawnKK_mk HMM.out HSS.out HM4.out HS4.out ?_ ?_ (by omega) (by omega) HSK.out HSQ.out ?_)
    · exact OwnR.base (ownF_offG (ownF_offG (ownF_offG (ownF_offG (ownF_offG (ownF_offG HO5.out (by omega) 0 _) (by omega) 1 _) (by omega) 2 _) (by omega) 0 _) (by omega) 1 _) (by omega) 2 _) (by omega)
    · exact OwnR.base (ownF_offG (ownF_offG (ownF_offG (ownF_offG (ownF_offG (ownF_offG HO6.out (by omega) 0 _) (by omega) 1 _) (by omega) 2 _) (by omega) 0 _) (by omega) 1 _) (by omega) 2 _) (by omega)
    · exact ((((((hB5.setCell (by simp) _).setCell (by simp) _).setCell (by simp) _).setCell (by simp) _).setCell (by simp) _).setCell (by simp) _)
  · have e0 : ((k : Int) == 0) = false := by rw [beq_eq_false_iff_ne]; omega
    clear k0 hk
    go_wp2_with fail
    refine wp_region_tail (by kernel_rfl) ?_
    refine wpAny_tailW (touchOk R) (fuel := 4) (tf := 2) [4, 5] (by kernel_rfl) ?_
    refine wpAnyW_take (touchOk R) (fuel := 1) [true, true, true] (by kernel_rfl) (by kernel_rfl) (by rfl) (by kernel_rfl) (by kernel_rfl) (by kernel_rfl) ?_
    apply Exists.intro
    refine ⟨fun x => ?_, ?_⟩
    · have y0 := fun (y : RelT Grow x.val) => (HB.out y.val (((Touch.refl R w3).drew).trans (x.rel.trans (Touch.of_below y.rel)))).1
      have y1 := fun (y : RelT Grow x.val) => (HB.out y.val (((Touch.refl R w3).drew).trans (x.rel.trans (Touch.of_below y.rel)))).2.1
      have y2 := fun (y : RelT Grow x.val) => (HB.out y.val (((Touch.refl R w3).drew).trans (x.rel.trans (Touch.of_below y.rel)))).2.2
      simp only [pickL]
      repeat (go_big_quiet_step (fail))
      exact wpQuiet_nil rfl
    refine wpAnyW_one (m := 3) (by kernel_rfl) (fun u1 g1 => ?_)
    refine wpOp_at (o := _) (by rfl) (by rfl) ?_
    go_simp
    refine (l7Wrong_any R _ 3 9 d2 _ _ _ a2 k2.params u1 ((hr3.below ((Below.refl _ _).drew)).below g1) (by omega) (by omega) hM9 hS9 (OwnR.keep (OwnR.keep HO3.out ((Below.refl _ _).drew)) g1) hn2 (by omega) HSK.out.2.2).mono ?_
    rintro e w4 ⟨k4, a4, d4, p4, rfl, ho4, hn4, hk4, f4, q4, hr4, ht4⟩
    refine ⟨ht4, ?_⟩
    rw [kndV_agg]
    try simp only [Act.put, List.setIfInBounds_toArray, List.set_cons_zero, List.set_cons_succ]
    have hT4 : Touch R w3 w4 := ((Touch.refl R w3).drew).trans ((Touch.of_below g1).trans ht4)
    have hg1 := g1.size
    have hu1 : w3.heap.size ≤ u1.heap.size := g1.size
    have hs4 := ht4.size
    refine wpAnyW_rest (by kernel_rfl) (fun u2 g2 => ?_)
    have hT5 := hT4.trans (Touch.of_below g2)
    have hO5 := OwnR.touch HO3.out hT5 hR1
    have hO6 : OwnF u1.heap.size (.slice a4 k4.params.length d4) k4.params u2 := OwnR.keep ho4 g2
    have HY5 := Lib.hid (HY3.out.touch hT5 (by omega))
    have HZ5 := Lib.hid (HZ3.out.touch hT5 (by omega))
    have hB5 : Below w.heap.size w u2 := after_open hb01 (by omega) (hT3.trans hT5)
    have hs5 := hT5.size
    obtain ⟨M4, hM4⟩ : ∃ MM, MM = str k4.main := ⟨_, rfl⟩
    obtain ⟨S4, hS4⟩ : ∃ SS, SS = str k4.sub := ⟨_, rfl⟩
    rw [← hM4, ← hS4]
    have HM4 := Lib.hid hM4
    have HS4 := Lib.hid hS4
    have HO5 := Lib.hid hO5
    have HO6 := Lib.hid hO6
    have HSQ := Lib.hid hk4
    clear hM4 hS4 hO5 hO6 ho4 hk4
    obtain ⟨⟨z0, z1, z2⟩, zf⟩ := HZ5.out
    obtain ⟨⟨y0, y1, y2⟩, yf⟩ := HY5.out
    have hlY : w.heap.size < u2.heap.size := by omega
    have hlZ : w.heap.size + 1 < u2.heap.size := by omega
    refine wpAny_one (m := 4) (by kernel_rfl) ?_
    refine wpOp_at (o := _) (by rfl) (by rfl) ?_
    go_simp
    try simp only [Act.put]
    refine wpAny_one (m := 5) (by kernel_rfl) ?_
    refine wpOp_at (o := _) (by rfl) (by rfl) ?_
    go_simp
    try simp only [Act.put]
    refine wpAny_end (by kernel_rfl) ?_ _
    go_wp2
    refine bodyPost_ret (v := .tuple #[.agg #[.string MM, .string SS, .slice a2 k2.params.length d2], .agg #[.string M4, .string S4, .slice a4 k4.params.length d4]]) (by simp [results, Tryd.results23, go_sem, z0, z1, z2, y0, y1, y2]) rfl (drawnKK_mk HMM.out HSS.out HM4.out HS4.out ?_ ?_ (by omega) (by omega) HSK.out HSQ.out ?_)
    · exact OwnR.base (ownF_offG (ownF_offG (ownF_offG (ownF_offG (ownF_offG (ownF_offG HO5.out (by omega) 0 _) (by omega) 1 _) (by omega) 2 _) (by omega) 0 _) (by omega) 1 _) (by omega) 2 _) (by omega)
    · exact OwnR.base (ownF_offG (ownF_offG (ownF_offG (ownF_offG (ownF_offG (ownF_offG HO6.out (by omega) 0 _) (by omega) 1 _) (by omega) 2 _) (by omega) 0 _) (by omega) 1 _) (by omega) 2 _) (by omega)
    · exact ((((((hB5.setCell (by simp) _).setCell (by simp) _).setCell (by simp) _).setCell (by simp) _).setCell (by simp) _).setCell (by simp) _)
end Go.Proofs.YtfheajfcepcepaaDoor
end

section
namespace Go.Proofs.YtfheajfcepcepaaDoor
open Go.RowKit

end Go.Proofs.YtfheajfcepcepaaDoor
end

section
namespace Go.Proofs.YtfheajfcepcepaaDoor
open Go.RowKit

theorem LinesRet.none' {w : World} {e : Ending} {w' : World} (h : LinesRet none w e w') : ∃ a c, e = .returned (.tuple #[.slice a 0 c, .bool false]) ∧ RdL w' a 0 [] ∧ Below w.heap.size w w' := by
  obtain ⟨v, rfl, ho, hb⟩ := h
  have ho : OwnL w.heap.size v [] w' := ho
  obtain ⟨a, c, rfl, hr, _⟩ := ho.read
  exact ⟨a, c, rfl, hr, hb⟩
theorem LinesRet.some' {ls : List (List UInt8)} {w : World} {e : Ending} {w' : World} (h : LinesRet (some ls) w e w') : ∃ a c, e = .returned (.tuple #[.slice a ls.length c, .bool true]) ∧ OwnL w.heap.size (.slice a ls.length c) ls w' ∧ RdL w' a ls.length ls ∧ Below w.heap.size w w' := by
  obtain ⟨v, rfl, ho, hb⟩ := h
  have ho : OwnL w.heap.size v ls w' := ho
  obtain ⟨a, c, rfl, hr, _⟩ := ho.read
  exact ⟨a, c, rfl, ho, hr, hb⟩
theorem RdSS.cellT {W0 wr : World} {a : Option Addr} {n : Nat} {ps : List (List (List UInt8))} (h : RdSS W0 a n ps) (hb : Below W0.heap.size W0 wr) {k : Nat} (hk : k < ps.length) :
    ∃ b off a' c', a = some ⟨b, off, none⟩ ∧ (∀ y : BelowT wr, y.val.cell? ⟨b, off + k, none⟩ = some (.slice a' ps[k].length c')) ∧ (∀ y : BelowT wr, RdL y.val a' ps[k].length ps[k]) ∧ ps[k].length ≤ c' := by
  obtain ⟨b, off, ha, hbl, hc⟩ := h.2.resolve_left (by have := h.1; omega)
  obtain ⟨a', c', h1, h2, _, h4⟩ := hc k hk
  exact ⟨b, off, a', c', ha, fun y => by rw [below_at (nx hb y.below) hbl, h1], fun y => h2.below (nx hb y.below), h4⟩
theorem RdSS.cellW {W0 wr : World} {a : Option Addr} {n : Nat} {ps : List (List (List UInt8))} (h : RdSS W0 a n ps) (hb : Below W0.heap.size W0 wr) {k : Nat} (hk : k < ps.length) :
    ∃ b off a' c', a = some ⟨b, off, none⟩ ∧ wr.cell? ⟨b, off + k, none⟩ = some (.slice a' ps[k].length c') ∧ RdL wr a' ps[k].length ps[k] ∧ ps[k].length ≤ c' := by
  obtain ⟨b, off, a', c', ha, h1, h2, h3⟩ := h.cellT hb hk
  exact ⟨b, off, a', c', ha, h1 ⟨wr, Below.refl _ _⟩, h2 ⟨wr, Below.refl _ _⟩, h3⟩
end Go.Proofs.YtfheajfcepcepaaDoor
end
