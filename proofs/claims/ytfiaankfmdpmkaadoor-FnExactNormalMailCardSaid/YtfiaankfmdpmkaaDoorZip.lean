/-
  Several texts in one. No statement is proved here.
-/
import Derived.Test.YtfiaankfmdpmkaaDoorQuietB
import Derived.Deep.RegionHeld3
import Derived.Test.YtfiaankfmdpmkaaDoorGwM
import Derived.Test.YtfiaankfmdpmkaaDoorMalI
import Derived.Test.YtfiaankfmdpmkaaDoorMalO
import Derived.Test.YtfiaankfmdpmkaaDoorCtn
import Derived.Test.YtfiaankfmdpmkaaDoorStu
import Derived.Deep.QuietTactic
import Derived.BigQuiet
import Derived.Test.YtfiaankfmdpmkaaDoorParse
import Derived.Test.YtfiaankfmdpmkaaDoorSplit
import Derived.Test.YtfiaankfmdpmkaaDoorAddr2
import Derived.Deep.RegionWith
import Derived.Test.YtfiaankfmdpmkaaDoorMal
import Derived.Deep.Cut
section
namespace Go.Proofs.YtfiaankfmdpmkaaDoor
open Go.RowKit

/-- What lay there is as it was; there may be more. -/
def Grow (w w' : World) : Prop := Below w.heap.size w w'
theorem Grow.refl (w : World) : Grow w w := Below.refl _ _
theorem Grow.trans {a b c : World} (h : Grow a b) (k : Grow b c) : Grow a c := nx h k

section
variable {P : Program} {ops : Array Oper} {Q : Exit → Act → World → Prop} {md : Region.Mode}

def growUpon (P : Program) (w : World) (v : Value) : Result Next → Prop
  | .ok (.value u) w' => w' = w ∧ u = v
  | .ok .skip w' => w' = w ∧ v = undef
  | .ok (.enter f args) w' => w' = w ∧ Calls P f args w (fun e w'' => e = .returned v ∧ Grow w w'')
  | _ => False
def growAt (P : Program) (o : Oper) (a : Act) (w : World) (v : Value) : Prop := growUpon P w v ((execOp a.eval o).run P w)
/-- In state a, in every world grown from w, operation o leaves v in its temporary and turns nothing. -/
def GYields (P : Program) (ops : Array Oper) (o : Oper) (v : Value) (a : Act) (w : World) : Prop :=
  (Region.wanted o (yielded ops a.tmps) = true ∧ ∀ w', Grow w w' → growAt P o a w' v) ∨ (Region.wanted o (yielded ops a.tmps) = false ∧ v = undef)
theorem GYields.grow {o : Oper} {v : Value} {a : Act} {w u : World} (h : GYields P ops o v a w) (g : Grow w u) : GYields P ops o v a u :=
  h.imp (fun ⟨h1, h2⟩ => ⟨h1, fun w' k => h2 w' (g.trans k)⟩) id
theorem GYields.of_same {o : Oper} {v : Value} {a a' : Act} {w : World} (hy : GYields P ops o v a w) (he : execOp a'.eval o = execOp a.eval o)
    (hw : Region.wanted o (yielded ops a'.tmps) = Region.wanted o (yielded ops a.tmps)) : GYields P ops o v a' w := by
  unfold GYields growAt at *
  rw [he, hw]
  exact hy
theorem GYields.wpOp {i : Nat} {o : Oper} {v : Value} {a : Act} {w : World} (hi : ops[i]? = some o) (hy : GYields P ops o v a w)
    {K : Act → World → Prop} (h : ∀ w', Grow w w' → K (a.put o.dst v) w') : wpOp P ops Q i K a w := by
  unfold Go.wpOp
  simp only [hi]
  rcases hy with ⟨hw, hv⟩ | ⟨hw, rfl⟩
  · rw [if_pos hw]
    refine .inl ?_
    have h1 := hv w (Grow.refl w)
    unfold growAt at h1
    unfold Oper.wp
    generalize (execOp a.eval o).run P w = r at *
    cases r with
    | ok n w' =>
      cases n <;> simp only [growUpon] at h1 <;> simp only [Oper.upon]
      case value u =>
        obtain ⟨e1, e2⟩ := h1
        rw [e1, e2]
        exact h _ (Grow.refl w)
      case skip =>
        obtain ⟨e1, e2⟩ := h1
        rw [e1, ← e2]
        exact h _ (Grow.refl w)
      case enter f args =>
        obtain ⟨e1, hc⟩ := h1
        rw [e1]
        exact hc.mono fun e w'' ⟨he, hw''⟩ => by subst he; exact h _ hw''
    | halt x w' => simp only [growUpon] at h1
  · rw [if_neg (by rw [hw]; exact Bool.false_ne_true)]; exact h _ (Grow.refl w)

theorem wpOp_putG {j : Nat} {oi oj : Oper} {v : Value} (hj : ops[j]? = some oj) (hap : oi.apart ops oj = true)
    (hsi : ∀ cs b, oi.op ≠ .select cs b) (hsj : ∀ cs b, oj.op ≠ .select cs b)
    (hQ : ∀ c a w, Q (.panic c) (a.put oi.dst v) w → Q (.panic c) a w) {K : Act → World → Prop} {a : Act} {w u : World}
    (hy : GYields P ops oi v a u) (h : wpOp P ops Q j K (a.put oi.dst v) w) :
    wpOp P ops Q j (fun a' w' => GYields P ops oi v a' u ∧ K (a'.put oi.dst v) w') a w := by
  obtain ⟨h1, h2, h3⟩ := Oper.apart_spec hap
  have keep : ∀ (a : Act), GYields P ops oi v a u → ∀ x, GYields P ops oi v (a.put oj.dst x) u := fun a hy x =>
    hy.of_same (execOp_put oi hsi a oj.dst x h3) (wanted_put oi a oj.dst x h3)
  have keepD : ∀ d, GYields P ops oi v { a with defers := d :: a.defers } u := fun d => hy.of_same rfl rfl
  unfold Go.wpOp at *
  simp only [hj] at *
  rw [wanted_put oj a oi.dst v h1] at h
  split
  · rename_i hw
    simp only [hw, if_true] at h
    rcases h with h | ⟨hasks, hlets⟩
    case inr => exact .inr ⟨by unfold Oper.asks at *; rw [execOp_put oj hsj a oi.dst v h1] at hasks; exact hasks, hlets⟩
    refine .inl ?_
    unfold Oper.wp at *
    rw [execOp_put oj hsj a oi.dst v h1] at h
    generalize (execOp a.eval oj).run P w = r at *
    cases r with
    | ok n w' =>
      cases n <;> simp only [Oper.upon] at h ⊢
      case value x => exact ⟨keep a hy x, by rw [← Act.put_comm a v x h2]; exact h⟩
      case skip => exact ⟨keep a hy _, by rw [← Act.put_comm a v undef h2]; exact h⟩
      case defer d =>
        refine ⟨keep _ (keepD d) _, ?_⟩
        rw [← Act.put_comm _ v undef h2, ← Act.put_defers]
        exact h
      case enter f args =>
        refine Calls.mono h fun e w'' he => ?_
        cases e with
        | returned x => exact ⟨keep a hy x, by rw [← Act.put_comm a v x h2]; exact he⟩
        | panicked c => exact hQ _ _ _ he
        | outgrown => exact he
      case row row args => exact Rows.mono h fun x w'' he => ⟨keep a hy x, by rw [← Act.put_comm a v x h2]; exact he⟩
    | halt x w' =>
      cases x <;> simp only [Oper.upon] at h ⊢
      case panic x => exact hQ _ _ _ h
  · rename_i hw
    simp only [hw] at h
    exact ⟨keep a hy _, by rw [← Act.put_comm a v undef h2]; exact h⟩

/-- Whatever order is picked from here on, in this world and in every one grown from it; each operation turns nothing old. -/
def wpAnyG (P : Program) (md : Region.Mode) (ops : Array Oper) (Q : Exit → Act → World → Prop) : Nat → Array Bool → Act → World → Prop
  | 0, listed, a, w => ∀ w', Grow w w' → Region.ready md ops listed = [] ∧ Q .normal a w'
  | fuel + 1, listed, a, w => ∀ w', Grow w w' → (Region.ready md ops listed = [] → Q .normal a w') ∧
    ∀ i ∈ Region.ready md ops listed, wpOp P ops Q i (fun a' w'' => Grow w' w'' ∧ wpAnyG P md ops Q fuel (listed.setIfInBounds i true) a' w'') a w'
theorem wpAny_of_G : ∀ (fuel : Nat) (listed : Array Bool) (a : Act) (w : World), wpAnyG P md ops Q fuel listed a w → wpAny P md ops Q fuel listed a w
  | 0, _, _, w, h => h w (Grow.refl w)
  | fuel + 1, _, _, w, h => ⟨(h w (Grow.refl w)).1, fun i hi => wpOp_mono (fun a' w' h' => wpAny_of_G fuel _ a' w' h'.2) ((h w (Grow.refl w)).2 i hi)⟩
theorem wpAnyG_grow {fuel : Nat} {listed : Array Bool} {a : Act} {w u : World} (g : Grow w u) (h : wpAnyG P md ops Q fuel listed a w) : wpAnyG P md ops Q fuel listed a u := by
  cases fuel with
  | zero => exact fun w' k => h w' (g.trans k)
  | succ fuel => exact fun w' k => h w' (g.trans k)

theorem wpAnyG_first {i : Nat} {oi : Oper} {v : Value} (hi : ops[i]? = some oi) (hsel : ∀ (j : Nat) (o : Oper) cs b, ops[j]? = some o → o.op ≠ .select cs b)
    (hQ : ∀ c a w, Q (.panic c) (a.put oi.dst v) w → Q (.panic c) a w) :
    ∀ (fuel : Nat) (listed : Array Bool) (a : Act) (w : World),
      (∀ j oj, ops[j]? = some oj → j ≠ i → listed.getD j true = false → (∀ e ∈ oj.after, Region.binds md e = true → e.on ≠ i) → oi.apart ops oj = true) →
      i ∈ Region.ready md ops listed → GYields P ops oi v a w →
      wpAnyG P md ops Q fuel (listed.setIfInBounds i true) (a.put oi.dst v) w → wpAnyG P md ops Q (fuel + 1) listed a w := by
  intro fuel
  induction fuel with
  | zero =>
    intro listed a w _ hr hy H w' g
    refine ⟨fun h => (by rw [h] at hr; cases hr), fun j hj => ?_⟩
    by_cases hji : j = i
    · subst hji; exact (hy.grow g).wpOp hi fun w'' k => ⟨k, wpAnyG_grow (g.trans k) H⟩
    · have := ready_mono hj hji
      rw [(H w (Grow.refl w)).1] at this
      cases this
  | succ fuel ih =>
    intro listed a w hfree hr hy H w' g
    refine ⟨fun h => (by rw [h] at hr; cases hr), fun j hj => ?_⟩
    by_cases hji : j = i
    · subst hji; exact (hy.grow g).wpOp hi fun w'' k => ⟨k, wpAnyG_grow (g.trans k) H⟩
    · have h1 := (H w' g).2 j (ready_mono hj hji)
      obtain ⟨hjun, oj, hoj, hall⟩ := mem_ready.1 hj
      have hnot : ∀ e ∈ oj.after, Region.binds md e = true → e.on ≠ i := fun e he hb heq => by
        have h1 := hall e he hb
        have h0 := (mem_ready.1 hr).1
        rw [heq] at h1
        rcases Nat.lt_or_ge i listed.size with h' | h'
        · simp [h'] at h0 h1; rw [h0] at h1; cases h1
        · simp [Array.getElem?_eq_none h'] at h1
      have h2 := wpOp_putG hoj (hfree j oj hoj hji hjun hnot) (fun cs b => hsel i oi cs b hi) (fun cs b => hsel j oj cs b hoj) hQ (hy.grow g) h1
      have hfree' : ∀ k ok, ops[k]? = some ok → k ≠ i → (listed.setIfInBounds j true).getD k true = false →
          (∀ e ∈ ok.after, Region.binds md e = true → e.on ≠ i) → oi.apart ops ok = true := fun k ok hk hki hun hno => by
        refine hfree k ok hk hki ?_ hno
        by_cases hjk : j = k
        · subst hjk; exact hjun
        · rw [getD_set_ne true hjk] at hun; exact hun
      refine wpOp_mono (fun a' w'' h3 => ⟨h3.2.1, ih (listed.setIfInBounds j true) a' w'' hfree' (ready_mono hr (Ne.symm hji)) (h3.1.grow h3.2.1) ?_⟩) h2
      rw [Array.setIfInBounds_comm _ _ hji]
      exact h3.2.2

/-! The moves of a walk. -/

/-- Those of a list's operations that a mask names. -/
def pickL : List Bool → List Oper → List Oper
  | true :: m, o :: l => o :: pickL m l
  | false :: m, _ :: l => pickL m l
  | _, _ => []
def maskListed : List Bool → Nat → Array Bool → Array Bool
  | true :: m, k, listed => maskListed m (k + 1) (listed.setIfInBounds k true)
  | false :: m, k, listed => maskListed m (k + 1) listed
  | [], _, listed => listed
def maskCount : List Bool → Nat
  | true :: m => maskCount m + 1
  | false :: m => maskCount m
  | [] => 0
/-- Each that the mask names may come up when its turn is there, and nobody who could come before it touches its temporaries; its slot is written once. -/
def maskOk (md : Region.Mode) (ops : Array Oper) (n : Nat) : List Bool → List Oper → Nat → Array Bool → Bool
  | true :: m, o :: l, k, listed => (Region.ready md ops listed).contains k && Region.free md ops listed k &&
      (match o.dst with | some d => decide (d < n) && (pickL m l).all (fun o' => o'.dst != some d) | none => false) && maskOk md ops n m l (k + 1) (listed.setIfInBounds k true)
  | false :: m, _ :: l, k, listed => maskOk md ops n m l (k + 1) listed
  | [], _, _, _ => true
  | _, [], _, _ => false

theorem put_size (a : Act) (x : Option Tmp) (v : Value) : (a.put x v).tmps.size = a.tmps.size := by
  cases x <;> simp [Act.put]
/-- A slot that no operation of the rest writes is at the end as it was. -/
theorem quiet_slot {C : World → Prop} {A : Act} {d : Nat} : ∀ (l : List Oper) (a : Act), (∀ o ∈ l, o.dst ≠ some d) → wpQuiet P ops C (fun a' => a' = A) l a → A.tmps[d]? = a.tmps[d]?
  | [], a, _, h => by
    have h1 : a = A := h
    rw [h1]
  | o :: l, a, hd, h => by
    have hp : ∀ v, (a.put o.dst v).tmps[d]? = a.tmps[d]? := fun v => by
      cases ho : o.dst with
      | none => rfl
      | some e =>
        have hne : e ≠ d := fun he => hd o (List.mem_cons_self ..) (by rw [ho, he])
        simp [Act.put, Array.getElem?_setIfInBounds_ne hne]
    unfold wpQuiet at h
    split at h
    · obtain ⟨v, _, h2⟩ := h
      rw [quiet_slot l _ (fun o' ho' => hd o' (List.mem_cons_of_mem _ ho')) h2, hp]
    · rw [quiet_slot l _ (fun o' ho' => hd o' (List.mem_cons_of_mem _ ho')) h, hp]

/-- Those that the mask names are taken first, in the order of the text, in ONE walk, in a world of which nothing is known but that it has grown from w. -/
theorem wpAnyG_mask {A : Act} {n : Nat} (hsel : Region.noSelect ops = true) (hQ : ∀ c a o v w, Q (.panic c) (a.put o v) w → Q (.panic c) a w) {w : World} {fuel : Nat} : ∀ (m : List Bool) (l : List Oper) (k : Nat) (listed : Array Bool) (a : Act),
    (∀ j, l[j]? = ops[k + j]?) → a.tmps.size = n → maskOk md ops n m l k listed = true →
    (∀ x : BelowT w, wpQuiet P ops (fun w' => ∃ y : BelowT x.val, w' = y.val) (fun a' => a' = A) (pickL m l) a) →
    wpAnyG P md ops Q fuel (maskListed m k listed) A w → wpAnyG P md ops Q (maskCount m + fuel) listed a w
  | [], l, k, listed, a, _, _, _, h, H => by
    have h1 : a = A := by have := h ⟨w, Below.refl _ _⟩; rw [pickL] at this; exact this; all_goals simp
    rw [h1]
    simpa [maskCount, maskListed] using H
  | false :: m, [], k, listed, a, _, _, hB, _, _ => by simp [maskOk] at hB
  | true :: m, [], k, listed, a, _, _, hB, _, _ => by simp [maskOk] at hB
  | false :: m, o :: l, k, listed, a, hl, hn, hB, h, H => by
    simp only [maskCount, maskListed, maskOk, pickL] at *
    exact wpAnyG_mask hsel hQ m l (k + 1) listed a (fun j => by have := hl (j + 1); simpa [Nat.add_assoc, Nat.add_comm 1 j] using this) hn hB h H
  | true :: m, o :: l, k, listed, a, hl, hn, hB, h, H => by
    have h0 : ops[k]? = some o := by simpa using (hl 0).symm
    simp only [maskCount, maskListed, maskOk, pickL, Bool.and_eq_true] at *
    obtain ⟨⟨⟨hr, hf⟩, hd⟩, hB'⟩ := hB
    cases ho : o.dst with
    | none => rw [ho] at hd; cases hd
    | some d =>
      rw [ho] at hd
      simp only [Bool.and_eq_true, decide_eq_true_eq, List.all_eq_true, bne_iff_ne] at hd
      have hslot : ∀ v, (a.put (some d) v).tmps[d]? = some v := fun v => by simp [Act.put, hn, hd.1]
      by_cases hw : Region.wanted o (yielded ops a.tmps) = true
      · have h' : ∀ x : BelowT w, (∀ w', (∃ y : BelowT x.val, w' = y.val) → o.quietAt P a (fun w' => ∃ y : BelowT x.val, w' = y.val) w' ((A.tmps[d]?).getD undef)) ∧
            wpQuiet P ops (fun w' => ∃ y : BelowT x.val, w' = y.val) (fun a' => a' = A) (pickL m l) (a.put (some d) ((A.tmps[d]?).getD undef)) := fun x => by
          have h1 := h x
          unfold wpQuiet at h1
          rw [if_pos hw] at h1
          obtain ⟨v, h2, h3⟩ := h1
          rw [ho] at h3
          have h4 := quiet_slot (d := d) (pickL m l) _ hd.2 h3
          rw [hslot] at h4
          rw [h4]
          exact ⟨h2, h3⟩
        have hy : GYields P ops o ((A.tmps[d]?).getD undef) a w := .inl ⟨hw, fun w' g => by
          have h1 := (h' ⟨w', g⟩).1 w' ⟨⟨w', Below.refl _ _⟩, rfl⟩
          unfold Oper.quietAt at h1
          unfold growAt
          generalize (execOp a.eval o).run P w' = r at *
          cases r with
          | ok nx w2 =>
            cases nx <;> simp only [Oper.quietUpon] at h1 <;> simp only [growUpon]
            case value u => exact h1
            case skip => exact h1
            case enter f args => exact ⟨h1.1, h1.2.mono fun e w3 ⟨he, y, hy⟩ => ⟨he, by rw [hy]; exact y.below⟩⟩
          | halt x w2 => simp only [Oper.quietUpon] at h1⟩
        rw [show maskCount m + 1 + fuel = (maskCount m + fuel) + 1 by omega]
        refine wpAnyG_first h0 (Region.noSelect_spec hsel) (fun c a w => hQ c a _ _ w) _ listed a w (Region.free_spec h0 hf) (by simpa using hr) hy ?_
        rw [ho]
        exact wpAnyG_mask hsel hQ m l (k + 1) _ _ (fun j => by have := hl (j + 1); simpa [Nat.add_assoc, Nat.add_comm 1 j] using this) (by rw [put_size]; exact hn) hB' (fun x => (h' x).2) H
      · have hwf : Region.wanted o (yielded ops a.tmps) = false := by simpa using hw
        rw [show maskCount m + 1 + fuel = (maskCount m + fuel) + 1 by omega]
        refine wpAnyG_first h0 (Region.noSelect_spec hsel) (fun c a w => hQ c a _ _ w) _ listed a w (Region.free_spec h0 hf) (by simpa using hr) (.inr ⟨hwf, rfl⟩) ?_
        refine wpAnyG_mask hsel hQ m l (k + 1) _ _ (fun j => by have := hl (j + 1); simpa [Nat.add_assoc, Nat.add_comm 1 j] using this) (by rw [put_size]; exact hn) hB' (fun x => ?_) H
        have h1 := h x
        unfold wpQuiet at h1
        rw [if_neg hw] at h1
        exact h1

/-- The mask's operations are taken first; the region is written out. -/
theorem wpAnyG_take {F fuel n : Nat} {l : List Oper} {listed : Array Bool} {a : Act} {w : World} (m : List Bool) (hF : maskCount m + fuel = F) (hsel : Region.noSelect l.toArray = true)
    (hn : a.tmps.size = n) (hB : maskOk md l.toArray n m l 0 listed = true)
    (h : ∃ A, (∀ x : BelowT w, wpQuiet P l.toArray (fun w' => ∃ y : BelowT x.val, w' = y.val) (fun a' => a' = A) (pickL m l) a) ∧ wpAnyG P md l.toArray (NoPanic Q) fuel (maskListed m 0 listed) A w) : wpAnyG P md l.toArray (NoPanic Q) F listed a w := by
  obtain ⟨A, h1, h2⟩ := h
  rw [← hF]
  exact wpAnyG_mask hsel (fun _ _ _ _ _ h => h) m l 0 listed a (fun j => by simp) hn hB h1 h2
/-- One operation alone may come up: what it does, in a world that has grown from w. -/
theorem wpAnyG_one {m fuel : Nat} {listed : Array Bool} {a : Act} {w : World} (hr : Region.ready md ops listed = [m])
    (h : ∀ w', Grow w w' → wpOp P ops Q m (fun a' w'' => Grow w' w'' ∧ wpAnyG P md ops Q fuel (listed.setIfInBounds m true) a' w'') a w') : wpAnyG P md ops Q (fuel + 1) listed a w :=
  fun w' g => ⟨fun h0 => (by rw [hr] at h0; cases h0), fun i hi => by
    rw [hr] at hi
    have : i = m := by simpa using hi
    subst this
    exact h w' g⟩
theorem wpOp_at {m : Nat} {o : Oper} {K : Act → World → Prop} {a : Act} {w : World} (hm : ops[m]? = some o) (hw : Region.wanted o (yielded ops a.tmps) = true) (h : o.wp P a w K Q) : wpOp P ops Q m K a w := by
  unfold Go.wpOp
  simp only [hm]
  rw [if_pos hw]
  exact .inl h
/-- All have come up. -/
theorem wpAnyG_done {listed : Array Bool} {a : Act} {w : World} (hr : Region.ready md ops listed = []) (h : ∀ x : BelowT w, Q .normal a x.val) : ∀ fuel, wpAnyG P md ops (NoPanic Q) fuel listed a w
  | 0 => fun w' g => ⟨hr, h ⟨w', g⟩⟩
  | _ + 1 => fun w' g => ⟨fun _ => h ⟨w', g⟩, by rw [hr]; simp⟩
/-- The beginning. -/
theorem wp_region_grow {id : Nat} {a : Act} {w : World} (hm : P.follows .mixedOrders = true)
    (h : wpAnyG P .any ops (NoPanic Q) ops.size (Array.replicate ops.size false) a w) : (Code.region id ops true).wp P Q a w :=
  wp_region_noPanic (wp_region_any hm (wpAny_of_G _ _ _ _ (wpAnyG_grow (show Grow w w.drew from (Below.refl _ _).drew) h)))
end
end Go.Proofs.YtfiaankfmdpmkaaDoor
end

section
namespace Go.Proofs.YtfiaankfmdpmkaaDoor
open Go.RowKit

structure OneT (W : World) where
  val : World
  same : val = W
instance (W : World) : Nonempty (OneT W) := ⟨⟨W, rfl⟩⟩
section
variable {P : Program} {ops : Array Oper} {Q : Exit → Act → World → Prop} {md : Region.Mode}

/-- In state a, in every world, operation o leaves v and the world as it is. -/
def PYields (P : Program) (ops : Array Oper) (o : Oper) (v : Value) (a : Act) : Prop :=
  (Region.wanted o (yielded ops a.tmps) = true ∧ ∀ w', o.quietAt P a (fun u => ∃ y : OneT w', u = y.val) w' v) ∨ (Region.wanted o (yielded ops a.tmps) = false ∧ v = undef)
theorem PYields.of_same {o : Oper} {v : Value} {a a' : Act} (hy : PYields P ops o v a) (he : execOp a'.eval o = execOp a.eval o)
    (hw : Region.wanted o (yielded ops a'.tmps) = Region.wanted o (yielded ops a.tmps)) : PYields P ops o v a' := by
  unfold PYields Oper.quietAt at *
  rw [he, hw]
  exact hy
theorem PYields.wpOp {i : Nat} {o : Oper} {v : Value} {a : Act} {w : World} (hi : ops[i]? = some o) (hy : PYields P ops o v a)
    {K : Act → World → Prop} (h : K (a.put o.dst v) w) : wpOp P ops Q i K a w := by
  unfold Go.wpOp
  simp only [hi]
  rcases hy with ⟨hw, hv⟩ | ⟨hw, rfl⟩
  · rw [if_pos hw]
    refine .inl ?_
    have h1 := hv w
    unfold Oper.quietAt at h1
    unfold Oper.wp
    generalize (execOp a.eval o).run P w = r at *
    cases r with
    | ok n w' =>
      cases n <;> simp only [Oper.quietUpon] at h1 <;> simp only [Oper.upon]
      case value u =>
        obtain ⟨e1, e2⟩ := h1
        rw [e1, e2]
        exact h
      case skip =>
        obtain ⟨e1, e2⟩ := h1
        rw [e1, ← e2]
        exact h
      case enter f args =>
        obtain ⟨e1, hc⟩ := h1
        rw [e1]
        exact hc.mono fun e w'' ⟨he, y, hy⟩ => by subst he; rw [hy, y.same]; exact h
    | halt x w' => simp only [Oper.quietUpon] at h1
  · rw [if_neg (by rw [hw]; exact Bool.false_ne_true)]; exact h
theorem wpOp_putP {j : Nat} {oi oj : Oper} {v : Value} (hj : ops[j]? = some oj) (hap : oi.apart ops oj = true)
    (hsi : ∀ cs b, oi.op ≠ .select cs b) (hsj : ∀ cs b, oj.op ≠ .select cs b)
    (hQ : ∀ c a w, Q (.panic c) (a.put oi.dst v) w → Q (.panic c) a w) {K : Act → World → Prop} {a : Act} {w : World}
    (hy : PYields P ops oi v a) (h : wpOp P ops Q j K (a.put oi.dst v) w) :
    wpOp P ops Q j (fun a' w' => PYields P ops oi v a' ∧ K (a'.put oi.dst v) w') a w := by
  obtain ⟨h1, h2, h3⟩ := Oper.apart_spec hap
  have keep : ∀ (a : Act), PYields P ops oi v a → ∀ x, PYields P ops oi v (a.put oj.dst x) := fun a hy x =>
    hy.of_same (execOp_put oi hsi a oj.dst x h3) (wanted_put oi a oj.dst x h3)
  have keepD : ∀ d, PYields P ops oi v { a with defers := d :: a.defers } := fun d => hy.of_same rfl rfl
  unfold Go.wpOp at *
  simp only [hj] at *
  rw [wanted_put oj a oi.dst v h1] at h
  split
  · rename_i hw
    simp only [hw, if_true] at h
    rcases h with h | ⟨hasks, hlets⟩
    case inr => exact .inr ⟨by unfold Oper.asks at *; rw [execOp_put oj hsj a oi.dst v h1] at hasks; exact hasks, hlets⟩
    refine .inl ?_
    unfold Oper.wp at *
    rw [execOp_put oj hsj a oi.dst v h1] at h
    generalize (execOp a.eval oj).run P w = r at *
    cases r with
    | ok n w' =>
      cases n <;> simp only [Oper.upon] at h ⊢
      case value x => exact ⟨keep a hy x, by rw [← Act.put_comm a v x h2]; exact h⟩
      case skip => exact ⟨keep a hy _, by rw [← Act.put_comm a v undef h2]; exact h⟩
      case defer d =>
        refine ⟨keep _ (keepD d) _, ?_⟩
        rw [← Act.put_comm _ v undef h2, ← Act.put_defers]
        exact h
      case enter f args =>
        refine Calls.mono h fun e w'' he => ?_
        cases e with
        | returned x => exact ⟨keep a hy x, by rw [← Act.put_comm a v x h2]; exact he⟩
        | panicked c => exact hQ _ _ _ he
        | outgrown => exact he
      case row row args => exact Rows.mono h fun x w'' he => ⟨keep a hy x, by rw [← Act.put_comm a v x h2]; exact he⟩
    | halt x w' =>
      cases x <;> simp only [Oper.upon] at h ⊢
      case panic x => exact hQ _ _ _ h
  · rename_i hw
    simp only [hw] at h
    exact ⟨keep a hy _, by rw [← Act.put_comm a v undef h2]; exact h⟩
theorem wpAny_firstP {i : Nat} {oi : Oper} {v : Value} (hi : ops[i]? = some oi) (hsel : ∀ (j : Nat) (o : Oper) cs b, ops[j]? = some o → o.op ≠ .select cs b)
    (hQ : ∀ c a w, Q (.panic c) (a.put oi.dst v) w → Q (.panic c) a w) :
    ∀ (fuel : Nat) (listed : Array Bool) (a : Act) (w : World),
      (∀ j oj, ops[j]? = some oj → j ≠ i → listed.getD j true = false → (∀ e ∈ oj.after, Region.binds md e = true → e.on ≠ i) → oi.apart ops oj = true) →
      i ∈ Region.ready md ops listed → PYields P ops oi v a →
      wpAny P md ops Q fuel (listed.setIfInBounds i true) (a.put oi.dst v) w → wpAny P md ops Q (fuel + 1) listed a w := by
  intro fuel
  induction fuel with
  | zero =>
    intro listed a w _ hr hy H
    refine ⟨fun h => (by rw [h] at hr; cases hr), fun j hj => ?_⟩
    by_cases hji : j = i
    · subst hji; exact hy.wpOp hi H
    · have := ready_mono hj hji
      rw [H.1] at this
      cases this
  | succ fuel ih =>
    intro listed a w hfree hr hy H
    refine ⟨fun h => (by rw [h] at hr; cases hr), fun j hj => ?_⟩
    by_cases hji : j = i
    · subst hji; exact hy.wpOp hi H
    · have h1 := H.2 j (ready_mono hj hji)
      obtain ⟨hjun, oj, hoj, hall⟩ := mem_ready.1 hj
      have hnot : ∀ e ∈ oj.after, Region.binds md e = true → e.on ≠ i := fun e he hb heq => by
        have h1 := hall e he hb
        have h0 := (mem_ready.1 hr).1
        rw [heq] at h1
        rcases Nat.lt_or_ge i listed.size with h' | h'
        · simp [h'] at h0 h1; rw [h0] at h1; cases h1
        · simp [Array.getElem?_eq_none h'] at h1
      have h2 := wpOp_putP hoj (hfree j oj hoj hji hjun hnot) (fun cs b => hsel i oi cs b hi) (fun cs b => hsel j oj cs b hoj) hQ hy h1
      have hfree' : ∀ k ok, ops[k]? = some ok → k ≠ i → (listed.setIfInBounds j true).getD k true = false →
          (∀ e ∈ ok.after, Region.binds md e = true → e.on ≠ i) → oi.apart ops ok = true := fun k ok hk hki hun hno => by
        refine hfree k ok hk hki ?_ hno
        by_cases hjk : j = k
        · subst hjk; exact hjun
        · rw [getD_set_ne true hjk] at hun; exact hun
      refine wpOp_mono (fun a' w'' h3 => ih (listed.setIfInBounds j true) a' w'' hfree' (ready_mono hr (Ne.symm hji)) h3.1 ?_) h2
      rw [Array.setIfInBounds_comm _ _ hji]
      exact h3.2
theorem wpAny_maskP {A : Act} {n : Nat} (hsel : Region.noSelect ops = true) (hQ : ∀ c a o v w, Q (.panic c) (a.put o v) w → Q (.panic c) a w) {w : World} {fuel : Nat} : ∀ (m : List Bool) (l : List Oper) (k : Nat) (listed : Array Bool) (a : Act),
    (∀ j, l[j]? = ops[k + j]?) → a.tmps.size = n → maskOk md ops n m l k listed = true →
    (∀ W : World, wpQuiet P ops (fun w' => ∃ y : OneT W, w' = y.val) (fun a' => a' = A) (pickL m l) a) →
    wpAny P md ops Q fuel (maskListed m k listed) A w → wpAny P md ops Q (maskCount m + fuel) listed a w
  | [], l, k, listed, a, _, _, _, h, H => by
    have h1 : a = A := by have := h w; rw [pickL] at this; exact this; all_goals simp
    rw [h1]
    simpa [maskCount, maskListed] using H
  | false :: m, [], k, listed, a, _, _, hB, _, _ => by simp [maskOk] at hB
  | true :: m, [], k, listed, a, _, _, hB, _, _ => by simp [maskOk] at hB
  | false :: m, o :: l, k, listed, a, hl, hn, hB, h, H => by
    simp only [maskCount, maskListed, maskOk, pickL] at *
    exact wpAny_maskP hsel hQ m l (k + 1) listed a (fun j => by have := hl (j + 1); simpa [Nat.add_assoc, Nat.add_comm 1 j] using this) hn hB h H
  | true :: m, o :: l, k, listed, a, hl, hn, hB, h, H => by
    have h0 : ops[k]? = some o := by simpa using (hl 0).symm
    simp only [maskCount, maskListed, maskOk, pickL, Bool.and_eq_true] at *
    obtain ⟨⟨⟨hr, hf⟩, hd⟩, hB'⟩ := hB
    cases ho : o.dst with
    | none => rw [ho] at hd; cases hd
    | some d =>
      rw [ho] at hd
      simp only [Bool.and_eq_true, decide_eq_true_eq, List.all_eq_true, bne_iff_ne] at hd
      have hslot : ∀ v, (a.put (some d) v).tmps[d]? = some v := fun v => by simp [Act.put, hn, hd.1]
      by_cases hw : Region.wanted o (yielded ops a.tmps) = true
      · have h' : ∀ W : World, (∀ w', (∃ y : OneT W, w' = y.val) → o.quietAt P a (fun w' => ∃ y : OneT W, w' = y.val) w' ((A.tmps[d]?).getD undef)) ∧
            wpQuiet P ops (fun w' => ∃ y : OneT W, w' = y.val) (fun a' => a' = A) (pickL m l) (a.put (some d) ((A.tmps[d]?).getD undef)) := fun W => by
          have h1 := h W
          unfold wpQuiet at h1
          rw [if_pos hw] at h1
          obtain ⟨v, h2, h3⟩ := h1
          rw [ho] at h3
          have h4 := quiet_slot (d := d) (pickL m l) _ hd.2 h3
          rw [hslot] at h4
          rw [h4]
          exact ⟨h2, h3⟩
        have hy : PYields P ops o ((A.tmps[d]?).getD undef) a := .inl ⟨hw, fun w' => (h' w').1 w' ⟨⟨w', rfl⟩, rfl⟩⟩
        rw [show maskCount m + 1 + fuel = (maskCount m + fuel) + 1 by omega]
        refine wpAny_firstP h0 (Region.noSelect_spec hsel) (fun c a w => hQ c a _ _ w) _ listed a w (Region.free_spec h0 hf) (by simpa using hr) hy ?_
        rw [ho]
        exact wpAny_maskP hsel hQ m l (k + 1) _ _ (fun j => by have := hl (j + 1); simpa [Nat.add_assoc, Nat.add_comm 1 j] using this) (by rw [put_size]; exact hn) hB' (fun x => (h' x).2) H
      · have hwf : Region.wanted o (yielded ops a.tmps) = false := by simpa using hw
        rw [show maskCount m + 1 + fuel = (maskCount m + fuel) + 1 by omega]
        refine wpAny_firstP h0 (Region.noSelect_spec hsel) (fun c a w => hQ c a _ _ w) _ listed a w (Region.free_spec h0 hf) (by simpa using hr) (.inr ⟨hwf, rfl⟩) ?_
        refine wpAny_maskP hsel hQ m l (k + 1) _ _ (fun j => by have := hl (j + 1); simpa [Nat.add_assoc, Nat.add_comm 1 j] using this) (by rw [put_size]; exact hn) hB' (fun x => ?_) H
        have h1 := h x
        unfold wpQuiet at h1
        rw [if_neg hw] at h1
        exact h1
/-- What asks nothing of the world is taken first. -/
theorem wpAny_take {F fuel n : Nat} {l : List Oper} {listed : Array Bool} {a : Act} {w : World} (m : List Bool) (hF : maskCount m + fuel = F) (hsel : Region.noSelect l.toArray = true)
    (hn : a.tmps.size = n) (hB : maskOk md l.toArray n m l 0 listed = true)
    (h : ∃ A, (∀ W : World, wpQuiet P l.toArray (fun w' => ∃ y : OneT W, w' = y.val) (fun a' => a' = A) (pickL m l) a) ∧ wpAny P md l.toArray (NoPanic Q) fuel (maskListed m 0 listed) A w) : wpAny P md l.toArray (NoPanic Q) F listed a w := by
  obtain ⟨A, h1, h2⟩ := h
  rw [← hF]
  exact wpAny_maskP hsel (fun _ _ _ _ _ h => h) m l 0 listed a (fun j => by simp) hn hB h1 h2

/-! The tail. -/
/-- What is listed has all it waits for listed. -/
def Fit (md : Region.Mode) (ops : Array Oper) (L : Array Bool) : Prop := ∀ k o, ops[k]? = some o → L.getD k false = true → ∀ e ∈ o.after, Region.binds md e = true → L.getD e.on false = true
def fitB (md : Region.Mode) (ops : Array Oper) (L : Array Bool) : Bool := (List.range ops.size).all fun k => !L.getD k false || (match ops[k]? with | some o => o.after.all fun e => !Region.binds md e || L.getD e.on false | none => true)
theorem fit_of {L : Array Bool} (h : fitB md ops L = true) : Fit md ops L := by
  intro k o hk hl e he hb
  unfold fitB at h
  have := List.all_eq_true.1 h k (List.mem_range.2 (Array.getElem?_eq_some_iff.1 hk).1)
  rw [hk, hl] at this
  simp only [Bool.not_true, Bool.false_or] at this
  have := Array.all_eq_true_iff_forall_mem.1 this e he
  rw [hb] at this
  simpa using this
theorem getD_set_self' {L : Array Bool} {i : Nat} {d : Bool} (h : i < L.size) : (L.setIfInBounds i true).getD i d = true := by
  simp [Array.getD_eq_getD_getElem?, h]
theorem getD_set_up {L : Array Bool} {i k : Nat} (h : L.getD k false = true) : (L.setIfInBounds i true).getD k false = true := by
  by_cases e : i = k
  · subst e
    have : i < L.size := by
      rcases Nat.lt_or_ge i L.size with h' | h'
      · exact h'
      · rw [Array.getD_eq_getD_getElem?, Array.getElem?_eq_none h'] at h; cases h
    exact getD_set_self' this
  · rw [getD_set_ne false e]; exact h
theorem Fit.set {L : Array Bool} {j : Nat} (h : Fit md ops L) (hj : j ∈ Region.ready md ops L) : Fit md ops (L.setIfInBounds j true) := by
  obtain ⟨_, oj, hoj, hall⟩ := mem_ready.1 hj
  intro k o hk hl e he hb
  by_cases e1 : j = k
  · subst e1
    rw [hk] at hoj; injection hoj with hoj; subst hoj
    exact getD_set_up (hall e he hb)
  · rw [getD_set_ne false e1] at hl
    exact getD_set_up (h k o hk hl e he hb)
/-- Operation t waits for operation i, near or far. -/
def reachB (md : Region.Mode) (ops : Array Oper) : Nat → Nat → Nat → Bool
  | 0, _, _ => false
  | f + 1, t, i => match ops[t]? with
    | some o => o.after.any fun e => Region.binds md e && (e.on == i || reachB md ops f e.on i)
    | none => false
theorem reach_listed {L : Array Bool} (hf : Fit md ops L) : ∀ (f t i : Nat) (o : Oper), ops[t]? = some o → (∀ e ∈ o.after, Region.binds md e = true → L.getD e.on false = true) → reachB md ops f t i = true → L.getD i false = true
  | 0, _, _, _, _, _, h => by simp [reachB] at h
  | f + 1, t, i, o, ho, hall, h => by
    simp only [reachB, ho] at h
    rw [← Array.any_toList, List.any_eq_true] at h
    obtain ⟨e, he, h⟩ := h
    have he : e ∈ o.after := by simpa using he
    rw [Bool.and_eq_true, Bool.or_eq_true] at h
    obtain ⟨hb, h⟩ := h
    have hl := hall e he hb
    rcases h with h | h
    · rw [beq_iff_eq] at h; rw [← h]; exact hl
    · cases ho2 : ops[e.on]? with
      | none => cases f <;> simp [reachB, ho2] at h
      | some o2 => exact reach_listed hf f e.on i o2 ho2 (fun e2 he2 hb2 => hf e.on o2 ho2 hl e2 he2 hb2) h
/-- Whatever order is picked, till all but the tail T is listed. -/
def wpAnyZ (P : Program) (md : Region.Mode) (ops : Array Oper) (Q : Exit → Act → World → Prop) (T : List Nat) (tf : Nat) : Nat → Array Bool → Act → World → Prop
  | 0, listed, a, w => (∀ k, k < ops.size → k ∉ T → listed.getD k false = true) ∧ ∀ w', Grow w w' → wpAny P md ops Q tf listed a w'
  | fuel + 1, listed, a, w => ∀ w', Grow w w' → (Region.ready md ops listed = [] → Q .normal a w') ∧
    ∀ i ∈ Region.ready md ops listed, wpOp P ops Q i (fun a' w'' => Grow w' w'' ∧ wpAnyZ P md ops Q T tf fuel (listed.setIfInBounds i true) a' w'') a w'
theorem wpAny_of_Z {T : List Nat} {tf : Nat} : ∀ (fuel : Nat) (listed : Array Bool) (a : Act) (w : World), wpAnyZ P md ops Q T tf fuel listed a w → wpAny P md ops Q (fuel + tf) listed a w
  | 0, _, _, w, h => by rw [Nat.zero_add]; exact h.2 w (Grow.refl w)
  | fuel + 1, _, _, w, h => by
    rw [show fuel + 1 + tf = (fuel + tf) + 1 by omega]
    exact ⟨(h w (Grow.refl w)).1, fun i hi => wpOp_mono (fun a' w' h' => wpAny_of_Z fuel _ a' w' h'.2) ((h w (Grow.refl w)).2 i hi)⟩
theorem wpAnyZ_grow {T : List Nat} {tf fuel : Nat} {listed : Array Bool} {a : Act} {w u : World} (g : Grow w u) (h : wpAnyZ P md ops Q T tf fuel listed a w) : wpAnyZ P md ops Q T tf fuel listed a u := by
  cases fuel with
  | zero => exact ⟨h.1, fun w' k => h.2 w' (g.trans k)⟩
  | succ fuel => exact fun w' k => h w' (g.trans k)
theorem wpAnyZ_first {T : List Nat} {tf i : Nat} {oi : Oper} {v : Value} (hi : ops[i]? = some oi) (hsel : ∀ (j : Nat) (o : Oper) cs b, ops[j]? = some o → o.op ≠ .select cs b)
    (hQ : ∀ c a w, Q (.panic c) (a.put oi.dst v) w → Q (.panic c) a w) (hT : ∀ t ∈ T, reachB md ops ops.size t i = true) :
    ∀ (fuel : Nat) (listed : Array Bool) (a : Act) (w : World), Fit md ops listed →
      (∀ j oj, ops[j]? = some oj → j ≠ i → listed.getD j true = false → (∀ e ∈ oj.after, Region.binds md e = true → e.on ≠ i) → oi.apart ops oj = true) →
      i ∈ Region.ready md ops listed → GYields P ops oi v a w →
      wpAnyZ P md ops Q T tf fuel (listed.setIfInBounds i true) (a.put oi.dst v) w → wpAnyZ P md ops Q T tf (fuel + 1) listed a w := by
  have hun : ∀ {L : Array Bool} {k : Nat}, L.getD k true = false → L.getD k false = true → False := fun {L k} h0 h1 => by
    rcases Nat.lt_or_ge k L.size with h' | h'
    · simp [h'] at h0 h1; rw [h0] at h1; cases h1
    · simp [Array.getElem?_eq_none h'] at h1
  intro fuel
  induction fuel with
  | zero =>
    intro listed a w hfit _ hr hy H w' g
    refine ⟨fun h => (by rw [h] at hr; cases hr), fun j hj => ?_⟩
    by_cases hji : j = i
    · subst hji; exact (hy.grow g).wpOp hi fun w'' k => ⟨k, wpAnyZ_grow (g.trans k) H⟩
    · exfalso
      obtain ⟨hjun, oj, hoj, hall⟩ := mem_ready.1 hj
      have hjT : j ∈ T := by
        refine Classical.byContradiction fun hn => ?_
        have := H.1 j (Array.getElem?_eq_some_iff.1 hoj).1 hn
        rw [getD_set_ne false (Ne.symm hji)] at this
        exact hun hjun this
      exact hun (mem_ready.1 hr).1 (reach_listed hfit _ j i oj hoj hall (hT j hjT))
  | succ fuel ih =>
    intro listed a w hfit hfree hr hy H w' g
    refine ⟨fun h => (by rw [h] at hr; cases hr), fun j hj => ?_⟩
    by_cases hji : j = i
    · subst hji; exact (hy.grow g).wpOp hi fun w'' k => ⟨k, wpAnyZ_grow (g.trans k) H⟩
    · have h1 := (H w' g).2 j (ready_mono hj hji)
      obtain ⟨hjun, oj, hoj, hall⟩ := mem_ready.1 hj
      have hnot : ∀ e ∈ oj.after, Region.binds md e = true → e.on ≠ i := fun e he hb heq => by
        have h1 := hall e he hb
        rw [heq] at h1
        exact hun (mem_ready.1 hr).1 h1
      have h2 := wpOp_putG hoj (hfree j oj hoj hji hjun hnot) (fun cs b => hsel i oi cs b hi) (fun cs b => hsel j oj cs b hoj) hQ (hy.grow g) h1
      have hfree' : ∀ k ok, ops[k]? = some ok → k ≠ i → (listed.setIfInBounds j true).getD k true = false →
          (∀ e ∈ ok.after, Region.binds md e = true → e.on ≠ i) → oi.apart ops ok = true := fun k ok hk hki hun hno => by
        refine hfree k ok hk hki ?_ hno
        by_cases hjk : j = k
        · subst hjk; exact hjun
        · rw [getD_set_ne true hjk] at hun; exact hun
      refine wpOp_mono (fun a' w'' h3 => ⟨h3.2.1, ih (listed.setIfInBounds j true) a' w'' (hfit.set hj) hfree' (ready_mono hr (Ne.symm hji)) (h3.1.grow h3.2.1) ?_⟩) h2
      rw [Array.setIfInBounds_comm _ _ hji]
      exact h3.2.2
/-- Each that the mask names is waited for by all of the tail. -/
def maskReach (md : Region.Mode) (ops : Array Oper) (T : List Nat) : List Bool → Nat → Bool
  | true :: m, k => T.all (fun t => reachB md ops ops.size t k) && maskReach md ops T m (k + 1)
  | false :: m, k => maskReach md ops T m (k + 1)
  | [], _ => true
theorem wpAnyZ_mask {T : List Nat} {tf : Nat} {A : Act} {n : Nat} (hsel : Region.noSelect ops = true) (hQ : ∀ c a o v w, Q (.panic c) (a.put o v) w → Q (.panic c) a w) {w : World} {fuel : Nat} : ∀ (m : List Bool) (l : List Oper) (k : Nat) (listed : Array Bool) (a : Act),
    (∀ j, l[j]? = ops[k + j]?) → a.tmps.size = n → Fit md ops listed → maskOk md ops n m l k listed = true → maskReach md ops T m k = true →
    (∀ x : BelowT w, wpQuiet P ops (fun w' => ∃ y : BelowT x.val, w' = y.val) (fun a' => a' = A) (pickL m l) a) →
    wpAnyZ P md ops Q T tf fuel (maskListed m k listed) A w → wpAnyZ P md ops Q T tf (maskCount m + fuel) listed a w
  | [], l, k, listed, a, _, _, _, _, _, h, H => by
    have h1 : a = A := by have := h ⟨w, Below.refl _ _⟩; rw [pickL] at this; exact this; all_goals simp
    rw [h1]
    simpa [maskCount, maskListed] using H
  | false :: m, [], k, listed, a, _, _, _, hB, _, _, _ => by simp [maskOk] at hB
  | true :: m, [], k, listed, a, _, _, _, hB, _, _, _ => by simp [maskOk] at hB
  | false :: m, o :: l, k, listed, a, hl, hn, hfit, hB, hR, h, H => by
    simp only [maskCount, maskListed, maskOk, maskReach, pickL] at *
    exact wpAnyZ_mask hsel hQ m l (k + 1) listed a (fun j => by have := hl (j + 1); simpa [Nat.add_assoc, Nat.add_comm 1 j] using this) hn hfit hB hR h H
  | true :: m, o :: l, k, listed, a, hl, hn, hfit, hB, hR, h, H => by
    have h0 : ops[k]? = some o := by simpa using (hl 0).symm
    simp only [maskCount, maskListed, maskOk, maskReach, pickL, Bool.and_eq_true] at *
    obtain ⟨⟨⟨hr, hf⟩, hd⟩, hB'⟩ := hB
    obtain ⟨hR0, hR'⟩ := hR
    have hT : ∀ t ∈ T, reachB md ops ops.size t k = true := fun t ht => List.all_eq_true.1 hR0 t ht
    have hrk : k ∈ Region.ready md ops listed := by simpa using hr
    cases ho : o.dst with
    | none => rw [ho] at hd; cases hd
    | some d =>
      rw [ho] at hd
      simp only [Bool.and_eq_true, decide_eq_true_eq, List.all_eq_true, bne_iff_ne] at hd
      have hslot : ∀ v, (a.put (some d) v).tmps[d]? = some v := fun v => by simp [Act.put, hn, hd.1]
      by_cases hw : Region.wanted o (yielded ops a.tmps) = true
      · have h' : ∀ x : BelowT w, (∀ w', (∃ y : BelowT x.val, w' = y.val) → o.quietAt P a (fun w' => ∃ y : BelowT x.val, w' = y.val) w' ((A.tmps[d]?).getD undef)) ∧
            wpQuiet P ops (fun w' => ∃ y : BelowT x.val, w' = y.val) (fun a' => a' = A) (pickL m l) (a.put (some d) ((A.tmps[d]?).getD undef)) := fun x => by
          have h1 := h x
          unfold wpQuiet at h1
          rw [if_pos hw] at h1
          obtain ⟨v, h2, h3⟩ := h1
          rw [ho] at h3
          have h4 := quiet_slot (d := d) (pickL m l) _ hd.2 h3
          rw [hslot] at h4
          rw [h4]
          exact ⟨h2, h3⟩
        have hy : GYields P ops o ((A.tmps[d]?).getD undef) a w := .inl ⟨hw, fun w' g => by
          have h1 := (h' ⟨w', g⟩).1 w' ⟨⟨w', Below.refl _ _⟩, rfl⟩
          unfold Oper.quietAt at h1
          unfold growAt
          generalize (execOp a.eval o).run P w' = r at *
          cases r with
          | ok nx w2 =>
            cases nx <;> simp only [Oper.quietUpon] at h1 <;> simp only [growUpon]
            case value u => exact h1
            case skip => exact h1
            case enter f args => exact ⟨h1.1, h1.2.mono fun e w3 ⟨he, y, hy⟩ => ⟨he, by rw [hy]; exact y.below⟩⟩
          | halt x w2 => simp only [Oper.quietUpon] at h1⟩
        rw [show maskCount m + 1 + fuel = (maskCount m + fuel) + 1 by omega]
        refine wpAnyZ_first h0 (Region.noSelect_spec hsel) (fun c a w => hQ c a _ _ w) hT _ listed a w hfit (Region.free_spec h0 hf) hrk hy ?_
        rw [ho]
        exact wpAnyZ_mask hsel hQ m l (k + 1) _ _ (fun j => by have := hl (j + 1); simpa [Nat.add_assoc, Nat.add_comm 1 j] using this) (by rw [put_size]; exact hn) (hfit.set hrk) hB' hR' (fun x => (h' x).2) H
      · have hwf : Region.wanted o (yielded ops a.tmps) = false := by simpa using hw
        rw [show maskCount m + 1 + fuel = (maskCount m + fuel) + 1 by omega]
        refine wpAnyZ_first h0 (Region.noSelect_spec hsel) (fun c a w => hQ c a _ _ w) hT _ listed a w hfit (Region.free_spec h0 hf) hrk (.inr ⟨hwf, rfl⟩) ?_
        refine wpAnyZ_mask hsel hQ m l (k + 1) _ _ (fun j => by have := hl (j + 1); simpa [Nat.add_assoc, Nat.add_comm 1 j] using this) (by rw [put_size]; exact hn) (hfit.set hrk) hB' hR' (fun x => ?_) H
        have h1 := h x
        unfold wpQuiet at h1
        rw [if_neg hw] at h1
        exact h1
/-- The tail stands by itself: all else that is not listed is taken by masks and one by one. -/
theorem wpAny_tail {F fuel tf : Nat} (T : List Nat) {listed : Array Bool} {a : Act} {w : World} (hF : fuel + tf = F) (h : wpAnyZ P md ops Q T tf fuel listed a w) : wpAny P md ops Q F listed a w := by
  rw [← hF]; exact wpAny_of_Z _ _ _ _ h
theorem wpAnyZ_take {T : List Nat} {tf F fuel n : Nat} {l : List Oper} {listed : Array Bool} {a : Act} {w : World} (m : List Bool) (hF : maskCount m + fuel = F) (hsel : Region.noSelect l.toArray = true)
    (hn : a.tmps.size = n) (hfit : fitB md l.toArray listed = true) (hB : maskOk md l.toArray n m l 0 listed = true) (hR : maskReach md l.toArray T m 0 = true)
    (h : ∃ A, (∀ x : BelowT w, wpQuiet P l.toArray (fun w' => ∃ y : BelowT x.val, w' = y.val) (fun a' => a' = A) (pickL m l) a) ∧ wpAnyZ P md l.toArray (NoPanic Q) T tf fuel (maskListed m 0 listed) A w) : wpAnyZ P md l.toArray (NoPanic Q) T tf F listed a w := by
  obtain ⟨A, h1, h2⟩ := h
  rw [← hF]
  exact wpAnyZ_mask hsel (fun _ _ _ _ _ h => h) m l 0 listed a (fun j => by simp) hn (fit_of hfit) hB hR h1 h2
theorem wpAnyZ_one {T : List Nat} {tf m fuel : Nat} {listed : Array Bool} {a : Act} {w : World} (hr : Region.ready md ops listed = [m])
    (h : ∀ w', Grow w w' → wpOp P ops Q m (fun a' w'' => Grow w' w'' ∧ wpAnyZ P md ops Q T tf fuel (listed.setIfInBounds m true) a' w'') a w') : wpAnyZ P md ops Q T tf (fuel + 1) listed a w :=
  fun w' g => ⟨fun h0 => (by rw [hr] at h0; cases h0), fun i hi => by
    rw [hr] at hi
    have : i = m := by simpa using hi
    subst this
    exact h w' g⟩
def allBut (T : List Nat) (n : Nat) (listed : Array Bool) : Bool := (List.range n).all fun k => decide (k ∈ T) || listed.getD k false
theorem wpAnyZ_rest {T : List Nat} {tf : Nat} {listed : Array Bool} {a : Act} {w : World} (hl : allBut T ops.size listed = true) (h : ∀ w', Grow w w' → wpAny P md ops Q tf listed a w') : wpAnyZ P md ops Q T tf 0 listed a w := by
  refine ⟨fun k hk hT => ?_, h⟩
  have := List.all_eq_true.1 hl k (List.mem_range.2 hk)
  simpa [hT] using this
theorem wpAny_one {m fuel : Nat} {listed : Array Bool} {a : Act} {w : World} (hr : Region.ready md ops listed = [m])
    (h : wpOp P ops Q m (fun a' w'' => wpAny P md ops Q fuel (listed.setIfInBounds m true) a' w'') a w) : wpAny P md ops Q (fuel + 1) listed a w :=
  ⟨fun h0 => (by rw [hr] at h0; cases h0), fun i hi => by
    rw [hr] at hi
    have : i = m := by simpa using hi
    subst this
    exact h⟩
theorem wpAny_end {listed : Array Bool} {a : Act} {w : World} (hr : Region.ready md ops listed = []) (h : Q .normal a w) : ∀ fuel, wpAny P md ops (NoPanic Q) fuel listed a w
  | 0 => ⟨hr, h⟩
  | _ + 1 => ⟨fun _ => h, by rw [hr]; simp⟩
theorem wp_region_tail {id : Nat} {a : Act} {w : World} (hm : P.follows .mixedOrders = true)
    (h : wpAny P .any ops (NoPanic Q) ops.size (Array.replicate ops.size false) a w.drew) : (Code.region id ops true).wp P Q a w :=
  wp_region_noPanic (wp_region_any hm h)
end
end Go.Proofs.YtfiaankfmdpmkaaDoor
end

section
namespace Go.Proofs.YtfiaankfmdpmkaaDoor
open Go.RowKit

/-- A mail of the call's own, and whether there is one. -/
def NrmRet (m : Ml) (w : World) (e : Ending) (w' : World) : Prop := ∃ x : MlA, x.m = normO m ∧ e = .returned (.tuple #[mlV x, .bool (isMail m)]) ∧ OwnM w.heap.size w' x ∧ Below w.heap.size w w'
theorem nrmRet_none {m : Ml} {w w' : World} (h : isMail m = false) (hb : Below w.heap.size w w') : NrmRet m w (.returned (.tuple #[.agg #[.string ⟨#[]⟩, .slice none 0 0, .slice none 0 0], .bool false])) w' :=
  ⟨⟨ml0, none, 0, none, 0⟩, by unfold normO; rw [h]; rfl, by rw [h]; rfl, ⟨OwnL.nil _ _, OwnL.nil _ _, fun g hg => by cases hg⟩, hb⟩
theorem nrmRet_some {m : Ml} {w w' : World} {s : ByteArray} {a b : Option Addr} {n c k d : Nat} (h : isMail m = true) (hs : s = str m.frm) (hn : n = (nrm [] m.to).length) (hk : k = m.lines.length) (h1 : OwnL w.heap.size (.slice a n c) (nrm [] m.to) w') (h2 : OwnL w.heap.size (.slice b k d) m.lines w') (h3 : ∀ g, (Value.slice a n c).ownBlock = some g → (Value.slice b k d).ownBlock ≠ some g) (hb : Below w.heap.size w w') : NrmRet m w (.returned (.tuple #[.agg #[.string s, .slice a n c, .slice b k d], .bool true])) w' := by
  subst hs hn hk
  exact ⟨⟨normM m, a, c, b, d⟩, by unfold normO; rw [h]; rfl, by rw [h]; rfl, ⟨h1, h2, h3⟩, hb⟩
/-- A value laid twice: as an argument, and the result's place. -/
theorem two_mals (w : World) (v0 v1 v2 u0 u1 u2 : Value) (t : TypeId) : Below w.heap.size w ((w.alloc (.cells #[v0, v1, v2] t)).alloc (.cells #[u0, u1, u2] t)) ∧ MK3 ((w.alloc (.cells #[v0, v1, v2] t)).alloc (.cells #[u0, u1, u2] t)) w.heap.size v0 v1 v2 ∧ MF3 ((w.alloc (.cells #[v0, v1, v2] t)).alloc (.cells #[u0, u1, u2] t)) (w.heap.size + 1) u0 u1 u2 ∧ w.heap.size + 1 < ((w.alloc (.cells #[v0, v1, v2] t)).alloc (.cells #[u0, u1, u2] t)).heap.size := by
  have hA : Below w.heap.size w (w.alloc (.cells #[v0, v1, v2] t)) := (Below.refl _ _).alloc (Nat.le_refl _) _
  have hB : Below (w.alloc (.cells #[v0, v1, v2] t)).heap.size (w.alloc (.cells #[v0, v1, v2] t)) ((w.alloc (.cells #[v0, v1, v2] t)).alloc (.cells #[u0, u1, u2] t)) := (Below.refl _ _).alloc (Nat.le_refl _) _
  have e : (w.alloc (.cells #[v0, v1, v2] t)).heap.size = w.heap.size + 1 := by simp
  have h := MF3.new (w.alloc (.cells #[v0, v1, v2] t)) u0 u1 u2 t
  rw [e] at h
  exact ⟨nx hA hB, (MK3.new w v0 v1 v2 t).below hB, h, by simp⟩
set_option maxRecDepth 100000 in
set_option maxHeartbeats 2000000 in
theorem mailTo_any (s : ByteArray) (a : Option Addr) (n c : Nat) (b : Option Addr) (k d : Nat) (a' : Option Addr) (n' c' : Nat) (ls ts : List (List UInt8)) (w : World) (h1 : RdL w b k ls) (h2 : b = none → d = 0) (h3 : k ≤ 1048576) (k1 : RdL w a' n' ts) (k2 : a' = none → c' = 0) (k3 : n' ≤ 1048576) :
    Calls Tryd.prog 44 #[.agg #[.string s, .slice a n c, .slice b k d], .slice a' n' c'] w fun e w' => ∃ (p : Option Addr) (q : Nat) (p2 : Option Addr) (q2 : Nat), e = .returned (.agg #[.string s, .slice p n' q, .slice p2 k q2]) ∧ OwnL w.heap.size (.slice p n' q) ts w' ∧ OwnL w.heap.size (.slice p2 k q2) ls w' ∧ (∀ g, (Value.slice p n' q).ownBlock = some g → (Value.slice p2 k q2).ownBlock ≠ some g) ∧ Below w.heap.size w w' := by
  obtain ⟨hb0, hx0, hz0, hzl⟩ := two_mals w (.string s) (.slice a n c) (.slice b k d) (.string ⟨#[]⟩) (.slice none 0 0) (.slice none 0 0) 36
  have HX := Lib.hid hx0
  have HZ := Lib.hid hz0
  have HT : Hid (∀ u, Below w.heap.size w u → Calls Tryd.prog 61 #[.slice a' n' c'] u fun e w' => ∃ a2 c2, e = .returned (.slice a2 n' c2) ∧ OwnL u.heap.size (.slice a2 n' c2) ts w' ∧ Below u.heap.size u w') := fun u hb => cloneS_any a' n' c' ts u (k1.below hb) k2 k3
  have HL : Hid (∀ u, Below w.heap.size w u → Calls Tryd.prog 61 #[.slice b k d] u fun e w' => ∃ a2 c2, e = .returned (.slice a2 k c2) ∧ OwnL u.heap.size (.slice a2 k c2) ls w' ∧ Below u.heap.size u w') := fun u hb => cloneS_any b k d ls u (h1.below hb) h2 h3
  clear h1 h2 h3 k1 k2 k3 hx0 hz0
  go_enter Tryd.func44, Tryd.ntmps44
  go_wp2_with fail
  generalize ((w.alloc (.cells #[.string s, .slice a n c, .slice b k d] 36)).alloc (.cells #[.string ⟨#[]⟩, .slice none 0 0, .slice none 0 0] 36)) = W0 at *
  refine wp_region_tail (by kernel_rfl) ?_
  refine wpAny_tail (fuel := 8) (tf := 1) [8] (by kernel_rfl) ?_
  refine wpAnyZ_take (fuel := 3) [true, true, true, false, true, true] (by kernel_rfl) (by kernel_rfl) (by rfl) (by kernel_rfl) (by kernel_rfl) (by kernel_rfl) ?_
  apply Exists.intro
  refine ⟨fun x => ?_, ?_⟩
  · have y0 := fun (y : BelowT x.val) => (HX.out.below (nx ((Below.refl _ _).drew) (nx x.below y.below))).1
    have y1 := fun (y : BelowT x.val) => (HX.out.below (nx ((Below.refl _ _).drew) (nx x.below y.below))).2.1
    have y2 := fun (y : BelowT x.val) => (HX.out.below (nx ((Below.refl _ _).drew) (nx x.below y.below))).2.2
    simp only [pickL]
    repeat (go_big_quiet_step (fail))
    exact wpQuiet_nil rfl
  refine wpAnyZ_one (m := 3) (by kernel_rfl) (fun ua g1 => ?_)
  refine wpOp_at (o := _) (by rfl) (by rfl) ?_
  go_simp
  have hga : Below W0.heap.size W0 ua := nx ((Below.refl _ _).drew) g1
  refine (HT.out _ (nx hb0 hga)).mono ?_
  rintro e w1 ⟨p, q, rfl, ho1, hb1⟩
  refine ⟨hb1, ?_⟩
  try simp only [Act.put, List.setIfInBounds_toArray, List.set_cons_zero, List.set_cons_succ]
  refine wpAnyZ_one (m := 6) (by kernel_rfl) (fun ub g2 => ?_)
  refine wpOp_at (o := _) (by rfl) (by rfl) ?_
  go_simp
  have hgb : Below W0.heap.size W0 ub := nx hga (nx hb1 g2)
  refine (HL.out _ (nx hb0 hgb)).mono ?_
  rintro e w2 ⟨p2, q2, rfl, ho2, hb2⟩
  refine ⟨hb2, ?_⟩
  try simp only [Act.put, List.setIfInBounds_toArray, List.set_cons_zero, List.set_cons_succ]
  refine wpAnyZ_take (fuel := 0) [false, false, false, false, false, false, false, true] (by kernel_rfl) (by kernel_rfl) (by rfl) (by kernel_rfl) (by kernel_rfl) (by kernel_rfl) ?_
  apply Exists.intro
  refine ⟨fun x => ?_, ?_⟩
  · skip
    simp only [pickL]
    repeat (go_big_quiet_step (fail))
    exact wpQuiet_nil rfl
  refine wpAnyZ_rest (by kernel_rfl) (fun uc g3 => ?_)
  have hgc : Below W0.heap.size W0 uc := nx hgb (nx hb2 g3)
  have HO1 : Hid (OwnL W0.heap.size (.slice p n' q) ts uc) := ((ho1.keep (nx g2 (nx hb2 g3))).base hga.size)
  have HO2 : Hid (OwnL W0.heap.size (.slice p2 k q2) ls uc) := (ho2.keep g3).base hgb.size
  have HAP : Hid (∀ g, (Value.slice p n' q).ownBlock = some g → (Value.slice p2 k q2).ownBlock ≠ some g) := own_apart ho1 ho2 g2.size
  have hb0c := nx hb0 hgc
  obtain ⟨⟨q0, q1', q2'⟩, qf⟩ := HZ.out.below hgc
  clear g1 g2 g3 ho1 ho2 hb1 hb2 hga hgb hgc
  refine wpAny_one (m := 8) (by kernel_rfl) ?_
  refine wpOp_at (o := _) (by rfl) (by rfl) ?_
  go_simp
  try simp only [Act.put]
  refine wpAny_end (by kernel_rfl) ?_ _
  go_wp2
  refine bodyPost_ret (v := .agg #[.string s, .slice p n' q, .slice p2 k q2]) (by simp [results, Tryd.results44, go_sem, q0, q1', q2']) rfl ?_
  exact ⟨p, q, p2, q2, rfl, (((HO1.out.off (g := w.heap.size + 1) (i := 0) (by omega) _).off (g := w.heap.size + 1) (i := 1) (by omega) _).off (g := w.heap.size + 1) (i := 2) (by omega) _).base (by omega), (((HO2.out.off (g := w.heap.size + 1) (i := 0) (by omega) _).off (g := w.heap.size + 1) (i := 1) (by omega) _).off (g := w.heap.size + 1) (i := 2) (by omega) _).base (by omega), HAP.out, ((hb0c.setCell (by show w.heap.size ≤ w.heap.size + 1; omega) _).setCell (by show w.heap.size ≤ w.heap.size + 1; omega) _).setCell (by show w.heap.size ≤ w.heap.size + 1; omega) _⟩
set_option maxRecDepth 100000 in
set_option maxHeartbeats 4000000 in
theorem normalMail_any (M : Nat) (x : MlA) (w : World) (en : Env w) (h1 : RdM M w x) (hM : M ≤ 1048576) :
    Calls Tryd.prog 21 #[mlV x] w (NrmRet x.m w) := by
  have hA0 : ∀ o, Below w.heap.size w (w.alloc o) := fun o => (Below.refl _ _).alloc (Nat.le_refl _) o
  have H0 : Hid (∀ u, Below w.heap.size w u → Calls Tryd.prog 39 #[mlV x] u fun e w' => e = .returned (.bool (isMail x.m)) ∧ Below u.heap.size u w') := fun u hb => mailValid_any M x u (en.below hb) (h1.below hb) (by omega)
  obtain ⟨m, a1, c1, b1, d1⟩ := x
  obtain ⟨⟨p1, _, pn1⟩, ⟨p2, _, pn2⟩, _⟩ := h1
  dsimp only at *
  have P1 := Lib.hid p1
  have P2 := Lib.hid p2
  have PN2 := Lib.hid pn2
  clear p1 p2 pn1 pn2 en
  cases hv : isMail m
  · have HN : Hid (∀ w', Below w.heap.size w w' → NrmRet m w (.returned (.tuple #[.agg #[.string ⟨#[]⟩, .slice none 0 0, .slice none 0 0], .bool false])) w') := fun w' hb => nrmRet_none hv hb
    rw [hv] at H0
    unfold mlV at *
    dsimp only at *
    generalize m.to.length = n1 at *
    generalize m.lines.length = n3 at *
    generalize str m.frm = s1 at *
    clear hv hA0
    obtain ⟨hb0, hx0, hz0, hzl⟩ := two_mals w (.string s1) (.slice a1 n1 c1) (.slice b1 n3 d1) (.string ⟨#[]⟩) (.slice none 0 0) (.slice none 0 0) 36
    have HX := Lib.hid hx0
    have HZ := Lib.hid hz0
    clear hx0 hz0
    go_enter Tryd.func21, Tryd.ntmps21
    go_wp2_with fail
    generalize (w.alloc (.cells #[.string s1, .slice a1 n1 c1, .slice b1 n3 d1] 36)).alloc (.cells #[.string ⟨#[]⟩, .slice none 0 0, .slice none 0 0] 36) = W0 at *
    refine (H0.out W0 hb0).mono ?_
    rintro e w1 ⟨rfl, hb1⟩
    obtain ⟨⟨q0, q1, q2⟩, qf⟩ := HZ.out.below hb1
    have hbw := nx hb0 hb1
    go_wp2
    refine bodyPost_ret (v := .tuple #[.agg #[.string ⟨#[]⟩, .slice none 0 0, .slice none 0 0], .bool false]) (by simp [results, Tryd.results21, go_sem, q0, q1, q2]) rfl ?_
    exact HN.out _ (((hbw.setCell (by show w.heap.size ≤ w.heap.size + 1; omega) _).setCell (by show w.heap.size ≤ w.heap.size + 1; omega) _).setCell (by show w.heap.size ≤ w.heap.size + 1; omega) _)
  · obtain ⟨hd, _, h30⟩ := isMail_iff.1 hv
    obtain ⟨_, h10, _, _, _⟩ := isDraft_iff.1 hd
    have HN : Hid (∀ w' (a : Option Addr) (n c : Nat) (b : Option Addr) (d : Nat) (acc : List (List UInt8)), acc = nrm [] m.to → n = acc.length → OwnL w.heap.size (.slice a n c) acc w' → OwnL w.heap.size (.slice b m.lines.length d) m.lines w' → (∀ g, (Value.slice a n c).ownBlock = some g → (Value.slice b m.lines.length d).ownBlock ≠ some g) → Below w.heap.size w w' → NrmRet m w (.returned (.tuple #[.agg #[.string (str m.frm), .slice a n c, .slice b m.lines.length d], .bool true])) w') := fun w' a n c b d acc ha hn q1 q2 q3 hb => by
      subst ha
      exact nrmRet_some hv rfl hn rfl q1 q2 q3 hb
    rw [hv] at H0
    unfold mlV at *
    dsimp only at *
    clear hv hd
    generalize hn1 : m.to.length = n1 at *
    generalize hn3 : m.lines.length = n3 at *
    have HE1 := Lib.hid hn1
    have HE3 := Lib.hid hn3
    clear hn1 hn3
    generalize str m.frm = s1 at *
    obtain ⟨hb0, hx0, hz0, hzl⟩ := two_mals w (.string s1) (.slice a1 n1 c1) (.slice b1 n3 d1) (.string ⟨#[]⟩) (.slice none 0 0) (.slice none 0 0) 36
    have HX := Lib.hid hx0
    have HZ := Lib.hid hz0
    clear hx0 hz0
    go_enter Tryd.func21, Tryd.ntmps21
    go_wp2_with fail
    generalize (w.alloc (.cells #[.string s1, .slice a1 n1 c1, .slice b1 n3 d1] 36)).alloc (.cells #[.string ⟨#[]⟩, .slice none 0 0, .slice none 0 0] 36) = W0 at *
    refine (H0.out _ hb0).mono ?_
    rintro e w1 ⟨rfl, hb1⟩
    have hb01 := nx hb0 hb1
    have HX1 := Lib.hid (HX.out.below hb1)
    have HZ1 := Lib.hid (HZ.out.below hb1)
    have hlw : w.heap.size + 1 < w1.heap.size := Nat.lt_of_lt_of_le hzl hb1.size
    obtain ⟨y0, y1, y2⟩ := HX1.out
    clear H0 hA0
    go_wp2_with fail
    go_loopw [4, 14] (fun v i wr => ∃ (k : Nat) (acc : List (List UInt8)), k ≤ n1 ∧ i = .int .i64 k ∧ acc.length ≤ k ∧ nrm acc (m.to.drop k) = nrm [] m.to ∧ OwnL w1.heap.size v acc wr ∧ Below w1.heap.size w1 wr) (fun _ i _ => n1 - (intOf i).toNat)
    case atStart => exact ⟨0, [], Nat.zero_le _, rfl, Nat.le_refl _, by simp, OwnL.nil _ _, Below.refl _ _⟩
    case round =>
      clear y0 y1 y2
      obtain ⟨k, acc, hk, rfl, hal, hnr, hown, hb⟩ := hrel
      have HO := Lib.hid hown
      have HNR := Lib.hid hnr
      clear hown hnr
      obtain ⟨a3, c3, rfl, hr3, _, hac3, _⟩ := HO.out.readc
      have HR3 := Lib.hid hr3
      clear hr3
      obtain ⟨y0, y1, y2⟩ := HX1.out.below hb
      have hsz := hb.size
      by_cases hlt : k < n1
      · have hkx : k < m.to.length := by have := HE1.out; omega
        obtain ⟨b, off, rfl, hbl, hcell⟩ := P1.out.2.resolve_left (by omega)
        have hc1 : wr.cell? ⟨b, off + k, none⟩ = some (.string (str m.to[k])) := by rw [below_at (nx hb01 hb) hbl]; exact hcell k hkx
        have HC : Hid (∀ u, Below wr.heap.size wr u → Calls Tryd.prog 43 #[.slice a3 acc.length c3, .string (str m.to[k])] u fun e w' => e = .returned (.bool (acc.contains m.to[k])) ∧ Below u.heap.size u w') := fun u hu => containsS_any a3 acc.length c3 acc m.to[k] u (HR3.out.below hu) (by omega)
        have HIN := Lib.hid (nrm_in (acc := acc) hkx)
        have HNW := Lib.hid (nrm_new (acc := acc) hkx)
        have HSL : Hid ((str m.to[k]).data.toList = m.to[k]) := str_list _
        have hkn : (k : Int) < (n1 : Int) := by omega
        have hk0 : (0 : Int) ≤ (k : Int) := by omega
        clear hcell
        cases hq : acc.contains m.to[k]
        · have HS : Hid (nrm (acc ++ [m.to[k]]) (m.to.drop (k + 1)) = nrm [] m.to) := by show _ = _; rw [← HNW.out hq]; exact HNR.out
          rw [hq] at HC
          clear hq HIN HNW
          generalize m.to[k] = t at *
          generalize str t = z at *
          go_wp2_with fail
          refine (HC.out _ (Below.refl _ _)).mono ?_
          rintro e w2 ⟨rfl, hb2⟩
          have hb12 := nx hb hb2
          have hsz2 := hb12.size
          have HO2 : Hid (OwnL w1.heap.size (.slice a3 acc.length c3) acc (w2.alloc (.cells #[.string z] 9))) := (HO.out.keep hb2).keep ((Below.refl _ _).alloc (Nat.le_refl _) _)
          go_wp2_with (at_builtin; refine wpList_append_1L rfl _ _ rfl w1.heap.size _ acc _ w2.heap.size rfl rfl (cell_one _ _ _) HO2.out ?c2 ?c3 ?_)
          case c2 => simp; omega
          case c3 => omega
          intro v' w3 hO3 hgr _
          have hb3 : Below w1.heap.size w1 w3 := (hb12.alloc hsz2 _).grown hgr (by simp; omega) (fun g hg => (HO2.out.lt g hg).1)
          rw [HSL.out] at hO3
          have HO3 := Lib.hid hO3
          clear hO3 hgr
          go_wp2
          go_roundw
          case rel => exact ⟨k + 1, _, by omega, by go_num, by simp; omega, HS.out, HO3.out, hb3⟩
          case measure => simp [intOf]; omega
        · have HS : Hid (nrm acc (m.to.drop (k + 1)) = nrm [] m.to) := by show _ = _; rw [← HIN.out hq]; exact HNR.out
          rw [hq] at HC
          clear hq HIN HNW
          generalize m.to[k] = t at *
          generalize str t = z at *
          go_wp2_with fail
          refine (HC.out _ (Below.refl _ _)).mono ?_
          rintro e w2 ⟨rfl, hb2⟩
          go_wp2
          go_roundw
          case rel => exact ⟨k + 1, acc, by omega, by go_num, by omega, HS.out, HO.out.keep hb2, nx hb hb2⟩
          case measure => simp [intOf]; omega
      · have HS : Hid (acc = nrm [] m.to) := by show _ = _; rw [← HNR.out, nrm_end (by have := HE1.out; omega)]
        have HMT : Hid (∀ u, Below wr.heap.size wr u → Calls Tryd.prog 44 #[.agg #[.string s1, .slice a1 n1 c1, .slice b1 n3 d1], .slice a3 acc.length c3] u fun e w' => ∃ (p : Option Addr) (q : Nat) (p2 : Option Addr) (q2 : Nat), e = .returned (.agg #[.string s1, .slice p acc.length q, .slice p2 n3 q2]) ∧ OwnL u.heap.size (.slice p acc.length q) acc w' ∧ OwnL u.heap.size (.slice p2 n3 q2) m.lines w' ∧ (∀ g, (Value.slice p acc.length q).ownBlock = some g → (Value.slice p2 n3 q2).ownBlock ≠ some g) ∧ Below u.heap.size u w') := fun u hu => mailTo_any s1 a1 n1 c1 b1 n3 d1 a3 acc.length c3 m.lines acc u (((P2.out.below hb01).below hb).below hu) PN2.out (by omega) (HR3.out.below hu) hac3 (by omega)
        have hbw := nx hb01 hb
        have hlwr : w.heap.size + 2 ≤ wr.heap.size := by omega
        generalize hL : acc.length = L at *
        have HL := Lib.hid hL
        clear hL
        go_wp2_with fail
        refine (HMT.out _ (Below.refl _ _)).mono ?_
        rintro e w5 ⟨p, q, p2, q2, rfl, ho1, ho2, hap, hb5⟩
        have hbx := nx hbw hb5
        have HO1 := Lib.hid ((((ho1.base hlwr).off (g := w.heap.size + 1) (i := 0) (by omega) (.string s1)).off (g := w.heap.size + 1) (i := 1) (by omega) (.slice p L q)).off (g := w.heap.size + 1) (i := 2) (by omega) (.slice p2 n3 q2))
        have HO2 := Lib.hid ((((ho2.base hlwr).off (g := w.heap.size + 1) (i := 0) (by omega) (.string s1)).off (g := w.heap.size + 1) (i := 1) (by omega) (.slice p L q)).off (g := w.heap.size + 1) (i := 2) (by omega) (.slice p2 n3 q2))
        have HAP := Lib.hid hap
        obtain ⟨⟨q0, q1', q2'⟩, qf⟩ := (HZ1.out.below hb).below hb5
        clear ho1 ho2 hap
        go_wp2
        refine bodyPost_ret (v := .tuple #[.agg #[.string s1, .slice p L q, .slice p2 n3 q2], .bool true]) (by simp [results, Tryd.results21, go_sem, q0, q1', q2']) rfl ?_
        exact HN.out _ p L q p2 q2 acc HS.out HL.out.symm (HO1.out.base (by omega)) (HO2.out.base (by omega)) HAP.out (((hbx.setCell (by show w.heap.size ≤ w.heap.size + 1; omega) _).setCell (by show w.heap.size ≤ w.heap.size + 1; omega) _).setCell (by show w.heap.size ≤ w.heap.size + 1; omega) _)
end Go.Proofs.YtfiaankfmdpmkaaDoor
end

section
namespace Go.Proofs.YtfiaankfmdpmkaaDoor
open Go.RowKit

def parseR (l : List UInt8) : Adr := (parseA l).getD adr0
/-- What reading an address leaves. -/
def ParseRet (l : List UInt8) (w : World) (e : Ending) (w' : World) : Prop := e = .returned (.tuple #[adrV (parseR l), .bool (parseA l).isSome]) ∧ Below w.heap.size w w'
theorem parseRet_none {l : List UInt8} {w w' : World} (h : parseA l = none) (hb : Below w.heap.size w w') : ParseRet l w (.returned (.tuple #[.agg #[.string ⟨#[]⟩, .string ⟨#[]⟩, .string ⟨#[]⟩], .bool false])) w' :=
  ⟨by unfold parseR; rw [h]; rfl, hb⟩
theorem parseRet_some {l : List UInt8} {w w' : World} {n x d : ByteArray} (h : parseA l = some (adr n x d)) (hb : Below w.heap.size w w') : ParseRet l w (.returned (.tuple #[.agg #[.string n, .string x, .string d], .bool true])) w' :=
  ⟨by unfold parseR; rw [h]; show _ = Ending.returned (.tuple #[adrV (adr n x d), .bool true]); rw [adrV_adr], hb⟩
theorem lowS_str (l : List UInt8) : lowS (str l) = str (low l) := by unfold lowS; rw [str_list]
theorem isText_trimS {l : List UInt8} (h : isText l = true) : isText (trimS l) = true := isText_sub h (fun _ hx => trimS_mem hx) (trimS_len l)
end Go.Proofs.YtfiaankfmdpmkaaDoor
end

section
namespace Go.Proofs.YtfiaankfmdpmkaaDoor
open Go.RowKit

end Go.Proofs.YtfiaankfmdpmkaaDoor
end

section
namespace Go.Proofs.YtfiaankfmdpmkaaDoor
open Go.RowKit

def CutRetS (s : ByteArray) (c : UInt8) (w : World) (e : Ending) (w' : World) : Prop :=
  (∀ a d, cutU c s.data.toList = some (a, d) → e = .returned (.tuple #[.string (str a), .string (str d), .bool true])) ∧
  (cutU c s.data.toList = none → e = .returned (.tuple #[.string s, .string ⟨#[]⟩, .bool false])) ∧ ∃ q, w' = w.drewN q
theorem cutRetS_some {s : ByteArray} {c : UInt8} {k q : Nat} {w : World} {x y : ByteArray} (h : cutK c 0 s.data.toList = some k) (hx : x = s.extract 0 k) (hy : y = s.extract (k + 1) s.size) : CutRetS s c w (.returned (.tuple #[.string x, .string y, .bool true])) (w.drewN q) := by
  have hc : cutU c s.data.toList = some (s.data.toList.take k, s.data.toList.drop (k + 1)) := by unfold cutU; rw [h]; rfl
  refine ⟨fun a d h' => ?_, fun h' => ?_, q, rfl⟩
  · rw [hc] at h'; injection h' with h'; injection h' with h1 h2; subst h1 h2; rw [hx, hy, ext_take, ext_drop]
  · rw [hc] at h'; cases h'
theorem cutRetS_none {s : ByteArray} {c : UInt8} {w : World} (h : cutK c 0 s.data.toList = none) : CutRetS s c w (.returned (.tuple #[.string s, .string ⟨#[]⟩, .bool false])) w := by
  have hc : cutU c s.data.toList = none := by unfold cutU; rw [h]; rfl
  refine ⟨fun a d h' => ?_, fun _ => rfl, 0, rfl⟩
  rw [hc] at h'; cases h'
set_option maxRecDepth 100000 in
set_option maxHeartbeats 4000000 in
theorem l2Cut_any (s : ByteArray) (c : UInt8) (w : World) (hc34 : (34 : UInt8) ≠ c) (hs : s.size ≤ 1073741824) :
    Calls Tryd.prog 65 #[.string s, .int .u8 c.toNat] w (CutRetS s c w) := by
  go_enter Tryd.func65, Tryd.ntmps65
  go_wp2_with fail
  go_loop [7] (fun i => ∃ k : Nat, k ≤ s.size ∧ i = .int .i64 k ∧ cutsAt c s k) (fun i => s.size - (intOf i).toNat)
  case atStart => exact ⟨0, Nat.zero_le _, rfl, cutsAt_start c s⟩
  case round =>
    obtain ⟨k, hk, rfl, hg⟩ := hrel
    have HG := Lib.hid hg
    clear hg
    by_cases hlt : k < s.size
    · by_cases hq : s[k] = 34
      · have e2 := beq_t hq (n := 34) rfl
        cases hr : readQ (s.data.toList.drop (k + 1)) with
        | none =>
          have HR := Lib.hid (cutsAt_stuck hc34 HG.out hlt hq hr)
          have HQ := Lib.hid hr
          clear hq hr
          go_wp2_with fail
          refine (l1Read_any s k _ hlt hs).mono ?_
          rintro e w1 ⟨_, hno, rfl⟩
          have he := hno HQ.out
          clear hno
          subst he
          go_wp2
          go_ret3
          exact cutRetS_none HR.out
        | some y =>
          obtain ⟨t, r⟩ := y
          obtain ⟨hN, hlo⟩ := cutsAt_quote hc34 HG.out hlt hq hr
          have HN := Lib.hid hN
          have HQ := Lib.hid hr
          clear hq hr hN
          go_wp2_with fail
          refine (l1Read_any s k _ hlt hs).mono ?_
          rintro e w1 ⟨hy, _, rfl⟩
          have he := hy t r HQ.out
          clear hy
          subst he
          obtain ⟨q, hq⟩ : ∃ q, q = s.size - r.length := ⟨_, rfl⟩
          rw [← hq] at HN hlo ⊢
          have hqs : q ≤ s.size := by omega
          clear hq
          go_wp2
          go_round
          case rel => exact ⟨q, hqs, by go_num, HN.out⟩
          case measure => simp [intOf]; omega
      · have e2 := beq_f hq (n := 34) rfl
        by_cases hc : s[k] = c
        · have HR := Lib.hid (cutsAt_hit HG.out hlt hc)
          have e1 : ((s[k].toNat : Int) == (c.toNat : Int)) = true := by rw [hc]; simp
          have hw1 : IntKind.i64.wrap ((k : Int) + 1) = (k : Int) + 1 := IntWalk.i64_in _ (by omega)
          have hw2 : 0 ≤ (k : Int) + 1 := by omega
          have hw3 : ((k : Int) + 1).toNat = k + 1 := by omega
          clear hc hq
          go_wp2
          go_quiet (fail)
          go_wp2
          go_ret3
          exact cutRetS_some HR.out rfl rfl
        · have e1 : ((s[k].toNat : Int) == (c.toNat : Int)) = false := by
            rw [beq_eq_false_iff_ne]; intro e; exact hc (UInt8.toNat_inj.1 (by omega))
          have HN := Lib.hid (cutsAt_skip HG.out hlt hc hq)
          clear hc hq
          go_wp2
          go_round
          case rel => exact ⟨k + 1, by omega, by go_num, HN.out⟩
          case measure => simp [intOf]; omega
    · have HR := Lib.hid (cutsAt_end HG.out (by omega))
      go_wp2
      go_ret3
      exact cutRetS_none HR.out
/-- A list of the call's own. -/
def OwnRet (xs : List (List UInt8)) (w : World) (e : Ending) (w' : World) : Prop := ∃ v, e = .returned v ∧ OwnL w.heap.size v xs w' ∧ Below w.heap.size w w'
def partsAt (c : UInt8) (s : ByteArray) (st i : Nat) (acc : List (List UInt8)) : Prop := splitC c s.data.toList = acc ++ glue ((s.data.toList.drop st).take (i - st)) (splitC c (s.data.toList.drop i))
theorem partsAt_start (c : UInt8) (s : ByteArray) : partsAt c s 0 0 [] := by unfold partsAt; simp [glue_nil]
theorem partsAt_skip {c : UInt8} {s : ByteArray} {st i : Nat} {acc : List (List UInt8)} (h : partsAt c s st i acc) (hst : st ≤ i) (hi : i < s.size) (hc : s[i] ≠ c) : partsAt c s st (i + 1) acc := by
  unfold partsAt at h ⊢
  rw [h, drop_at s i hi, splitC_skip _ hc, glue_app]
  congr 2
  rw [show i + 1 - st = (i - st) + 1 by omega, List.take_succ_eq_append_getElem (by rw [List.length_drop, size_list]; omega)]
  congr 1
  rw [List.getElem_drop]
  have : st + (i - st) = i := by omega
  simp only [this]; rfl
theorem partsAt_hit {c : UInt8} {s : ByteArray} {st i : Nat} {acc : List (List UInt8)} (h : partsAt c s st i acc) (hi : i < s.size) (hc : s[i] = c) : partsAt c s (i + 1) (i + 1) (acc ++ [(s.extract st i).data.toList]) := by
  unfold partsAt at h ⊢
  rw [h, drop_at s i hi, hc, splitC_hit, Lib.extract_data, Nat.sub_self, List.take_zero, glue_nil]
  simp [glue]
theorem partsAt_end {c : UInt8} {s : ByteArray} {st i : Nat} {acc : List (List UInt8)} (h : partsAt c s st i acc) (hst : st ≤ i) (hi : s.size ≤ i) : splitC c s.data.toList = acc ++ [(s.extract st s.size).data.toList] := by
  unfold partsAt at h
  rw [h, drop_out s i hi, Lib.extract_data]
  show acc ++ glue _ [[]] = _
  simp only [glue, List.append_nil]
  congr 2
  rw [List.take_of_length_le (by rw [List.length_drop, size_list]; omega), List.take_of_length_le (by rw [List.length_drop, size_list]; omega)]
theorem ext_size (s : ByteArray) (a b : Nat) : (s.extract a b).size ≤ s.size := by rw [ByteArray.size_extract]; omega
set_option maxRecDepth 100000 in
set_option maxHeartbeats 4000000 in
theorem l2Parts_any (s : ByteArray) (c : UInt8) (w : World) (hs : s.size ≤ 1073741000) :
    Calls Tryd.prog 89 #[.string s, .int .u8 c.toNat] w (OwnRet (splitC c s.data.toList) w) := by
  obtain ⟨i0, hi, hz0, hz1, hz2⟩ := info_parts sInfo
  go_enter Tryd.func89, Tryd.ntmps89
  go_wp2_with fail
  go_loopw [5, 6, 7] (fun v st i wr => ∃ (k a : Nat) (acc : List (List UInt8)), k ≤ s.size ∧ a ≤ k ∧ i = .int .i64 k ∧ st = .int .i64 a ∧ acc.length ≤ k ∧ partsAt c s a k acc ∧ OwnL w.heap.size v acc wr ∧ Below w.heap.size w wr) (fun _ _ i _ => s.size - (intOf i).toNat)
  case atStart => exact ⟨0, 0, [], Nat.zero_le _, Nat.le_refl _, rfl, rfl, Nat.zero_le _, partsAt_start c s, OwnL.empty w, (Below.refl _ _).alloc (Nat.le_refl _) _⟩
  case round =>
    obtain ⟨k, a, acc, hk, hak, rfl, rfl, hal, hg, hown, hb⟩ := hrel
    have HG := Lib.hid hg
    clear hg
    have hown1 := hown
    unfold OwnL at hown1
    by_cases hlt : k < s.size
    · by_cases hc : s[k] = c
      · have HN := Lib.hid (partsAt_hit HG.out hlt hc)
        have e1 : ((s[k].toNat : Int) == (c.toNat : Int)) = true := by rw [hc]; simp
        have hbs := hb.size
        clear hc
        go_wp2_with (at_builtin; refine wpList_append_own _ rfl _ _ 30 rfl w.heap.size 9 i0 (.string ⟨#[]⟩) 1 16 Tryd.underlying30 hi hz0 hz1 hz2 rfl (by decide) _ _ _ rfl (hown1.alloc _) ⟨wr.heap.size, 0, none⟩ 1 1 [.string (s.extract a k)] rfl rfl ?c1 ?c2 ?c3 ?c4 ?c5 ?_)
        case c1 =>
          intro u v hj
          match u, hj with
          | 0, hj => simp at hj; subst hj; simp [Addr.add]
        case c2 => intro u hu; simp at hu; subst hu; rfl
        case c3 => unfold maxLen; omega
        case c4 => omega
        case c5 => simp; omega
        intro v' w3 hown' hgrow _
        have hO3 : OwnL w.heap.size v' (acc ++ [(s.extract a k).data.toList]) w3 := own_snoc hown'
        have hb3 : Below w.heap.size wr w3 := ((Below.refl _ _).alloc (by omega) _).grown hgrow (by simp; omega) (fun k hk => (hown1.lt k hk).1)
        go_wp2
        go_roundw
        case rel => exact ⟨k + 1, k + 1, _, by omega, Nat.le_refl _, by go_num, by go_num, by simp; omega, HN.out, hO3, hb.trans hb3⟩
        case measure => simp [intOf]; omega
      · have HN := Lib.hid (partsAt_skip HG.out hak hlt hc)
        have e1 : ((s[k].toNat : Int) == (c.toNat : Int)) = false := by
          rw [beq_eq_false_iff_ne]; intro e; exact hc (UInt8.toNat_inj.1 (by omega))
        clear hc
        go_wp2
        go_roundw
        case rel => exact ⟨k + 1, a, acc, by omega, by omega, by go_num, rfl, by omega, HN.out, hown, hb⟩
        case measure => simp [intOf]; omega
    · have HN := Lib.hid (partsAt_end HG.out hak (by omega))
      have hbs := hb.size
      go_wp2_with (at_builtin; refine wpList_append_own _ rfl _ _ 30 rfl w.heap.size 9 i0 (.string ⟨#[]⟩) 1 16 Tryd.underlying30 hi hz0 hz1 hz2 rfl (by decide) _ _ _ rfl (hown1.alloc _) ⟨wr.heap.size, 0, none⟩ 1 1 [.string (s.extract a s.size)] rfl rfl ?q1 ?q2 ?q3 ?q4 ?q5 ?_)
      case q1 =>
        intro u v hj
        match u, hj with
        | 0, hj => simp at hj; subst hj; simp [Addr.add]
      case q2 => intro u hu; simp at hu; subst hu; rfl
      case q3 => unfold maxLen; omega
      case q4 => omega
      case q5 => simp; omega
      intro v' w3 hown' hgrow _
      have hO3 : OwnL w.heap.size v' (acc ++ [(s.extract a s.size).data.toList]) w3 := own_snoc hown'
      have hb3 : Below w.heap.size wr w3 := ((Below.refl _ _).alloc (by omega) _).grown hgrow (by simp; omega) (fun k hk => (hown1.lt k hk).1)
      go_wp2
      go_ret
      exact ⟨v', rfl, by rw [HN.out]; exact hO3, hb.trans hb3⟩
set_option maxRecDepth 100000 in
set_option maxHeartbeats 2000000 in
theorem l2Local_any (s : ByteArray) (w : World) (hs : s.size ≤ 1073741000) :
    Calls Tryd.prog 79 #[.string s] w fun e w' => e = .returned (.bool (isLocal s.data.toList)) ∧ Below w.heap.size w w' := by
  have HSM := Lib.hid (splitC_small 46 s.data.toList)
  have HD : Hid (isLocal s.data.toList = (decide (s.size ≤ 30) && (splitC 46 s.data.toList).all isAtom)) := rfl
  go_enter Tryd.func79, Tryd.ntmps79
  go_wp2_with fail
  refine (l2Parts_any s 46 _ hs).mono ?_
  rintro e w1 ⟨v, rfl, ho, hb1⟩
  obtain ⟨a1, c1, rfl, hr, hm⟩ := ho.read
  generalize hX : splitC 46 s.data.toList = xs at *
  have HX := Lib.hid hX
  obtain ⟨_, hr2⟩ := hr
  have HR := Lib.hid hr2
  have hlen : xs.length ≤ 1073741824 := by have := HSM.out.1; rw [size_list] at this; omega
  clear hX hr2
  go_wp2_with fail
  go_loop [4] (fun i => ∃ k : Nat, k ≤ xs.length ∧ i = .int .i64 k ∧ ∀ j, (h : j < k) → (h' : j < xs.length) → isAtom xs[j] = true) (fun i => xs.length - (intOf i).toNat)
  case atStart => exact ⟨0, Nat.zero_le _, rfl, fun j h => by omega⟩
  case round =>
    obtain ⟨k, hk, rfl, hall⟩ := hrel
    have HA := Lib.hid hall
    clear hall
    by_cases hlt : k < xs.length
    · obtain ⟨b, o, rfl, hbl, hcell⟩ := HR.out.resolve_left (by omega)
      have hc1 : w1.cell? ⟨b, o + k, none⟩ = some (.string (str xs[k])) := hcell k hlt
      have hsz : (str xs[k]).size ≤ 1073741824 := by rw [str_size]; have := HSM.out.2 _ (List.getElem_mem hlt); rw [size_list] at this; omega
      clear hcell
      cases hp : isAtom xs[k]
      · have HP : Hid (isAtom (str xs[k]).data.toList = false) := by show _ = _; rw [str_list]; exact hp
        have HE : Hid (xs.all isAtom = false) := by show _ = _; rw [List.all_eq_false]; exact ⟨_, List.getElem_mem hlt, by simp [hp]⟩
        generalize str xs[k] = x at *
        clear hp
        go_wp2_with fail
        refine (atomValidS_any x _ (by unfold maxLen; omega)).mono ?_
        rintro e w2 ⟨rfl, rfl⟩
        rw [HP.out]
        go_wp2
        go_ret
        exact ⟨ret_bool (by rw [HD.out, HE.out]; simp), hb1⟩
      · have HP : Hid (isAtom (str xs[k]).data.toList = true) := by show _ = _; rw [str_list]; exact hp
        have HQ := Lib.hid hp
        generalize str xs[k] = x at *
        clear hp
        go_wp2_with fail
        refine (atomValidS_any x _ (by unfold maxLen; omega)).mono ?_
        rintro e w2 ⟨rfl, rfl⟩
        rw [HP.out]
        go_wp2
        go_round
        case rel => exact ⟨k + 1, by omega, by go_num, fun j h h' => by
          by_cases e : j = k
          · subst e; exact HQ.out
          · exact HA.out j (by omega) h'⟩
        case measure => simp [intOf]; omega
    · have HE : Hid (xs.all isAtom = true) := by
        show _ = _
        rw [List.all_eq_true]; intro x hx
        obtain ⟨j, hj, rfl⟩ := List.getElem_of_mem hx
        exact HA.out j (by omega) hj
      go_wp2
      go_ret
      exact ⟨ret_bool (by rw [HD.out, HE.out, Bool.and_true]; rw [Bool.eq_iff_iff]; simp; omega), hb1⟩
theorem labC_nat : ∀ n, n < 256 → labC (UInt8.ofNat n) = ((alnumB (UInt8.ofNat n) || decide (UInt8.ofNat n = 45)) && !capB (UInt8.ofNat n)) := by decide +kernel
theorem labC_eq (c : UInt8) : labC c = ((alnumB c || decide (c = 45)) && !capB c) := by
  have := labC_nat c.toNat c.toNat_lt; rw [UInt8.ofNat_toNat] at this; exact this
set_option maxRecDepth 100000 in
set_option maxHeartbeats 8000000 in
theorem l2Domain_any (s : ByteArray) (w : World) (hs : s.size ≤ 1073741000) :
    Calls Tryd.prog 80 #[.string s] w fun e w' => e = .returned (.bool (isDomain s.data.toList)) ∧ Below w.heap.size w w' := by
  have HSM := Lib.hid (splitC_small 46 s.data.toList)
  have HD : Hid (isDomain s.data.toList = (decide (s.size ≤ 40) && (splitC 46 s.data.toList).all isLab)) := rfl
  go_enter Tryd.func80, Tryd.ntmps80
  go_wp2_with fail
  refine (l2Parts_any s 46 _ hs).mono ?_
  rintro e w1 ⟨v, rfl, ho, hb1⟩
  obtain ⟨a1, c1, rfl, hr, hm⟩ := ho.read
  generalize hX : splitC 46 s.data.toList = xs at *
  have HX := Lib.hid hX
  obtain ⟨_, hr2⟩ := hr
  have HR := Lib.hid hr2
  have hlen : xs.length ≤ 1073741824 := by have := HSM.out.1; rw [size_list] at this; omega
  clear hX hr2
  go_wp2_with fail
  go_loop [4] (fun i => ∃ k : Nat, k ≤ xs.length ∧ i = .int .i64 k ∧ ∀ j, (h : j < k) → (h' : j < xs.length) → isLab xs[j] = true) (fun i => xs.length - (intOf i).toNat)
  case atStart => exact ⟨0, Nat.zero_le _, rfl, fun j h => by omega⟩
  case round =>
    obtain ⟨k, hk, rfl, hall⟩ := hrel
    have HA := Lib.hid hall
    clear hall
    by_cases hlt : k < xs.length
    · obtain ⟨b, o, rfl, hbl, hcell⟩ := HR.out.resolve_left (by omega)
      have hc1 : w1.cell? ⟨b, o + k, none⟩ = some (.string (str xs[k])) := hcell k hlt
      have hsz : (str xs[k]).size ≤ 1073741824 := by rw [str_size]; have := HSM.out.2 _ (List.getElem_mem hlt); rw [size_list] at this; omega
      have HBAD : Hid (isLab xs[k] = false → xs.all isLab = false) := fun hp => by rw [List.all_eq_false]; exact ⟨_, List.getElem_mem hlt, by simp [hp]⟩
      have HOK : Hid (isLab xs[k] = true → ∀ j, (h : j < k + 1) → (h' : j < xs.length) → isLab xs[j] = true) := fun hp j h h' => by
        by_cases e : j = k
        · subst e; exact hp
        · exact HA.out j (by omega) h'
      have HXK : Hid (xs[k] = (str xs[k]).data.toList) := by show _ = _; rw [str_list]
      generalize str xs[k] = x at *
      clear hcell
      by_cases h0 : x.size = 0
      · have HB := Lib.hid (HBAD.out (by rw [HXK.out]; exact isLab_nil x h0))
        have he := empty_t h0
        have H0 := Lib.hid h0
        clear h0
        go_wp2
        go_ret
        exact ⟨ret_bool (by rw [HD.out, HB.out]; simp), hb1⟩
      · have he := empty_f (s := x) (by omega)
        have hp : 0 < x.size := by omega
        have hp2 : 1 ≤ x.size := by omega
        have h0' : x.size - 1 < x.size := by omega
        have hhead : x.data.toList.head? = some x[0] := by
          rw [List.head?_eq_getElem?, List.getElem?_eq_getElem (by rw [size_list]; exact hp)]; rfl
        have hlast : x.data.toList.getLast? = some x[x.size - 1] := by
          rw [List.getLast?_eq_getElem?, size_list, List.getElem?_eq_getElem (by rw [size_list]; omega)]; rfl
        by_cases ha : x[0] = 45
        · have HB := Lib.hid (HBAD.out (by rw [HXK.out]; unfold isLab; rw [hhead, ha]; simp))
          have e1 := beq_t ha (n := 45) rfl
          clear ha hhead hlast
          go_wp2
          go_ret
          exact ⟨ret_bool (by rw [HD.out, HB.out]; simp), hb1⟩
        · have e1 := beq_f ha (n := 45) rfl
          by_cases hb : x[x.size - 1] = 45
          · have HB := Lib.hid (HBAD.out (by rw [HXK.out]; unfold isLab; rw [hlast, hb]; simp))
            have e2 := beq_t hb (n := 45) rfl
            clear ha hb hhead hlast
            go_wp2
            go_ret
            exact ⟨ret_bool (by rw [HD.out, HB.out]; simp), hb1⟩
          · have e2 := beq_f hb (n := 45) rfl
            have HGOOD : Hid ((∀ j, (h' : j < x.size) → labC x[j] = true) → isLab xs[k] = true) := fun h => by
              rw [HXK.out, isLab_good x hp h]; simp [ha, hb]
            have HBAD2 : Hid (∀ j, (h' : j < x.size) → labC x[j] = false → xs.all isLab = false) := fun j h' h => HBAD.out (by rw [HXK.out]; exact isLab_bad x j h' h)
            clear ha hb hhead hlast
            go_wp2_with fail
            go_loop [6] (fun i => ∃ q : Nat, q ≤ x.size ∧ i = .int .i64 q ∧ ∀ j, (h : j < q) → (h' : j < x.size) → labC x[j] = true) (fun i => x.size - (intOf i).toNat)
            case atStart => exact ⟨0, Nat.zero_le _, rfl, fun j h => by omega⟩
            case round =>
              obtain ⟨q, hq, rfl, hqall⟩ := hrel
              have HQA := Lib.hid hqall
              clear hqall
              by_cases hqlt : q < x.size
              · have HEQ := Lib.hid (labC_eq x[q])
                have HSTEP : Hid (labC x[q] = true → ∀ j, (h : j < q + 1) → (h' : j < x.size) → labC x[j] = true) := fun hp j h h' => by
                  by_cases e : j = q
                  · subst e; exact hp
                  · exact HQA.out j (by omega) h'
                cases hal : alnumB x[q]
                · have HAL := Lib.hid hal
                  by_cases h45 : x[q] = 45
                  · have e3 := bneq_f h45 (n := 45) rfl
                    have hlow : (x[q].toNat : Int) < 65 := by rw [h45]; decide
                    have HN := Lib.hid (HSTEP.out (by rw [HEQ.out, h45]; decide))
                    clear hal h45
                    go_wp2_with fail
                    refine (l1Letter_any _ _).mono ?_
                    rintro e w2 ⟨rfl, rfl⟩
                    rw [HAL.out]
                    go_wp2
                    go_round
                    case rel => exact ⟨q + 1, by omega, by go_num, HN.out⟩
                    case measure => simp [intOf]; omega
                  · have e3 := bneq_t h45 (n := 45) rfl
                    have HB := Lib.hid (HBAD2.out q hqlt (by rw [HEQ.out, hal]; simp [h45]))
                    clear hal h45
                    go_wp2_with fail
                    refine (l1Letter_any _ _).mono ?_
                    rintro e w2 ⟨rfl, rfl⟩
                    rw [HAL.out]
                    go_wp2
                    go_ret
                    exact ⟨ret_bool (by rw [HD.out, HB.out]; simp), hb1⟩
                · have HAL := Lib.hid hal
                  cases hcp : capB x[q]
                  · have HN := Lib.hid (HSTEP.out (by rw [HEQ.out, hal, hcp]; rfl))
                    rcases capB_f hcp with hlow | ⟨hlo, hhi⟩
                    · clear hal hcp
                      go_wp2_with fail
                      refine (l1Letter_any _ _).mono ?_
                      rintro e w2 ⟨rfl, rfl⟩
                      rw [HAL.out]
                      go_wp2
                      go_round
                      case rel => exact ⟨q + 1, by omega, by go_num, HN.out⟩
                      case measure => simp [intOf]; omega
                    · clear hal hcp
                      go_wp2_with fail
                      refine (l1Letter_any _ _).mono ?_
                      rintro e w2 ⟨rfl, rfl⟩
                      rw [HAL.out]
                      go_wp2
                      go_round
                      case rel => exact ⟨q + 1, by omega, by go_num, HN.out⟩
                      case measure => simp [intOf]; omega
                  · have HB := Lib.hid (HBAD2.out q hqlt (by rw [HEQ.out, hcp]; simp))
                    obtain ⟨hlo, hhi⟩ := capB_t hcp
                    clear hal hcp
                    go_wp2_with fail
                    refine (l1Letter_any _ _).mono ?_
                    rintro e w2 ⟨rfl, rfl⟩
                    rw [HAL.out]
                    go_wp2
                    go_ret
                    exact ⟨ret_bool (by rw [HD.out, HB.out]; simp), hb1⟩
              · have HG := Lib.hid (HOK.out (HGOOD.out (fun j h' => HQA.out j (by omega) h')))
                go_wp2
                go_round
                case rel => exact ⟨k + 1, by omega, by go_num, HG.out⟩
                case measure => simp [intOf]; omega
    · have HE : Hid (xs.all isLab = true) := by
        show _ = _
        rw [List.all_eq_true]; intro x hx
        obtain ⟨j, hj, rfl⟩ := List.getElem_of_mem hx
        exact HA.out j (by omega) hj
      go_wp2
      go_ret
      exact ⟨ret_bool (by rw [HD.out, HE.out, Bool.and_true]; rw [Bool.eq_iff_iff]; simp; omega), hb1⟩
end Go.Proofs.YtfiaankfmdpmkaaDoor
end

section
namespace Go.Proofs.YtfiaankfmdpmkaaDoor
open Go.RowKit

set_option maxRecDepth 100000 in
set_option maxHeartbeats 400000 in
theorem l2Name_any (s : ByteArray) (w : World) (hs : s.size ≤ 1073741824) :
    Calls Tryd.prog 78 #[.string s] w fun e w' => e = .returned (.bool (isName s.data.toList)) ∧ w = w' := by
  have HD : Hid (isName s.data.toList = (isText s.data.toList && decide (s.size ≤ 40))) := rfl
  cases h : isText s.data.toList
  · have H := Lib.hid h
    clear h
    go_enter Tryd.func78, Tryd.ntmps78
    go_wp2_with fail
    refine (textValidS_any s _ (by unfold maxLen; omega)).mono ?_
    rintro e w1 ⟨rfl, rfl⟩
    rw [H.out]
    go_wp2
    go_ret
    exact ⟨ret_bool (by rw [HD.out, H.out]; rfl), rfl⟩
  · have H := Lib.hid h
    clear h
    go_enter Tryd.func78, Tryd.ntmps78
    go_wp2_with fail
    refine (textValidS_any s _ (by unfold maxLen; omega)).mono ?_
    rintro e w1 ⟨rfl, rfl⟩
    rw [H.out]
    go_wp2
    go_ret
    exact ⟨ret_bool (by rw [HD.out, H.out, Bool.true_and, Bool.eq_iff_iff]; simp; omega), rfl⟩
theorem isLocal_long {l : List UInt8} (h : 30 < l.length) : isLocal l = false := by unfold isLocal; rw [decide_eq_false (by omega)]; rfl
theorem isDomain_long {l : List UInt8} (h : 40 < l.length) : isDomain l = false := by unfold isDomain; rw [decide_eq_false (by omega)]; rfl
set_option maxRecDepth 100000 in
set_option maxHeartbeats 1000000 in
theorem addressValidS_any (n l d : ByteArray) (w : World) (hn : n.size ≤ 1073741000) (hl : l.size ≤ 1073741000) (hd : d.size ≤ 1073741000) :
    Calls Tryd.prog 67 #[.agg #[.string n, .string l, .string d]] w fun e w' => e = .returned (.bool (isAdr (adr n l d))) ∧ Below w.heap.size w w' := by
  have HP : Hid (isAdr (adr n l d) = (isName n.data.toList && isLocal l.data.toList && isDomain d.data.toList)) := rfl
  have hb0 : Below w.heap.size w (w.alloc (.cells #[.string n, .string l, .string d] 75)) := (Below.refl _ _).alloc (Nat.le_refl _) _
  cases h1 : isName n.data.toList
  · have H1 := Lib.hid h1
    clear h1
    go_enter Tryd.func67, Tryd.ntmps67
    go_wp2_with fail
    refine (l2Name_any n _ (by omega)).mono ?_
    rintro e w1 ⟨rfl, rfl⟩
    rw [H1.out]
    go_wp2
    go_ret
    exact ⟨ret_bool (by rw [HP.out, H1.out]; rfl), hb0⟩
  · have H1 := Lib.hid h1
    clear h1
    by_cases h30 : l.size ≤ 30
    · have d1 : decide ((l.size : Int) ≤ 30) = true := by simp; omega
      cases h3 : isLocal l.data.toList
      · have H3 := Lib.hid h3
        clear h3
        go_enter Tryd.func67, Tryd.ntmps67
        go_wp2_with fail
        refine (l2Name_any n _ (by omega)).mono ?_
        rintro e w1 ⟨rfl, rfl⟩
        rw [H1.out]
        go_wp2_with fail
        refine (l2Local_any l _ hl).mono ?_
        rintro e w1 ⟨rfl, hb1⟩
        rw [H3.out]
        go_wp2
        go_ret
        exact ⟨ret_bool (by rw [HP.out, H1.out, H3.out]; rfl), nx hb0 hb1⟩
      · have H3 := Lib.hid h3
        clear h3
        by_cases h40 : d.size ≤ 40
        · have d2 : decide ((d.size : Int) ≤ 40) = true := by simp; omega
          go_enter Tryd.func67, Tryd.ntmps67
          go_wp2_with fail
          refine (l2Name_any n _ (by omega)).mono ?_
          rintro e w1 ⟨rfl, rfl⟩
          rw [H1.out]
          go_wp2_with fail
          refine (l2Local_any l _ hl).mono ?_
          rintro e w1 ⟨rfl, hb1⟩
          rw [H3.out]
          obtain ⟨hc, hf⟩ := bcell hb1
          go_wp2_with fail
          refine (l2Domain_any d _ hd).mono ?_
          rintro e w2 ⟨rfl, hb2⟩
          go_wp2
          go_ret
          exact ⟨ret_bool (by rw [HP.out, H1.out, H3.out]; rfl), nx (nx hb0 hb1) hb2⟩
        · have d2 : decide ((d.size : Int) ≤ 40) = false := by simp; omega
          have HDD := Lib.hid (isDomain_long (l := d.data.toList) (by rw [size_list]; omega))
          go_enter Tryd.func67, Tryd.ntmps67
          go_wp2_with fail
          refine (l2Name_any n _ (by omega)).mono ?_
          rintro e w1 ⟨rfl, rfl⟩
          rw [H1.out]
          go_wp2_with fail
          refine (l2Local_any l _ hl).mono ?_
          rintro e w1 ⟨rfl, hb1⟩
          rw [H3.out]
          obtain ⟨hc, hf⟩ := bcell hb1
          go_wp2
          go_ret
          exact ⟨ret_bool (by rw [HP.out, H1.out, H3.out, HDD.out]; rfl), nx hb0 hb1⟩
    · have d1 : decide ((l.size : Int) ≤ 30) = false := by simp; omega
      have HLL := Lib.hid (isLocal_long (l := l.data.toList) (by rw [size_list]; omega))
      go_enter Tryd.func67, Tryd.ntmps67
      go_wp2_with fail
      refine (l2Name_any n _ (by omega)).mono ?_
      rintro e w1 ⟨rfl, rfl⟩
      rw [H1.out]
      go_wp2
      go_ret
      exact ⟨ret_bool (by rw [HP.out, H1.out, HLL.out]; rfl), hb0⟩
end Go.Proofs.YtfiaankfmdpmkaaDoor
end

section
namespace Go.Proofs.YtfiaankfmdpmkaaDoor
open Go.RowKit

def boxVal (l : List UInt8) : Adr × Bool := match cutU 64 l with
  | none => (⟨[], l, []⟩, false)
  | some (a, d) => (⟨[], a, low d⟩, isAdr ⟨[], a, low d⟩)
theorem boxVal_boxA (l : List UInt8) : boxA [] l = if (boxVal l).2 then some (boxVal l).1 else none := by
  unfold boxA boxVal
  cases cutU 64 l with
  | none => rfl
  | some y => rfl
theorem boxVal_small (l : List UInt8) : (boxVal l).1.loc.length ≤ l.length ∧ (boxVal l).1.dom.length ≤ l.length ∧ (boxVal l).1.name = [] := by
  unfold boxVal
  cases h : cutU 64 l with
  | none => exact ⟨Nat.le_refl _, by simp, rfl⟩
  | some y =>
    obtain ⟨a, d⟩ := y
    have := cutU_bound h
    exact ⟨by show a.length ≤ _; omega, by show (low d).length ≤ _; unfold low; rw [List.length_map]; omega, rfl⟩
def BoxRet (l : List UInt8) (w : World) (e : Ending) (w' : World) : Prop := e = .returned (.tuple #[adrV (boxVal l).1, .bool (boxVal l).2]) ∧ Below w.heap.size w w'
theorem boxRet_none {l : List UInt8} {w w' : World} {x : ByteArray} (h : cutU 64 l = none) (hx : x.data.toList = l) (hb : Below w.heap.size w w') : BoxRet l w (.returned (.tuple #[.agg #[.string ⟨#[]⟩, .string x, .string ⟨#[]⟩], .bool false])) w' := by
  refine ⟨?_, hb⟩
  unfold boxVal; rw [h]
  show _ = Ending.returned (.tuple #[.agg #[.string (str []), .string (str l), .string (str [])], .bool false])
  rw [← hx, str_of]; rfl
theorem boxRet_some {l a d : List UInt8} {w w' : World} {b : Bool} (h : cutU 64 l = some (a, d)) (hv : b = isAdr ⟨[], a, low d⟩) (hb : Below w.heap.size w w') : BoxRet l w (.returned (.tuple #[.agg #[.string ⟨#[]⟩, .string (str a), .string (str (low d))], .bool b])) w' := by
  refine ⟨?_, hb⟩
  unfold boxVal; rw [h, hv]; rfl
theorem lowS_nil : lowS ⟨#[]⟩ = ⟨#[]⟩ := rfl
set_option maxRecDepth 100000 in
set_option maxHeartbeats 1000000 in
theorem l2Box_any (s : ByteArray) (w : World) (hs : s.size ≤ 1073741000) :
    Calls Tryd.prog 52 #[.string s] w (BoxRet s.data.toList w) := by
  have hb0 : Below w.heap.size w (w.alloc (.cells #[.string ⟨#[]⟩, .string ⟨#[]⟩, .string ⟨#[]⟩] 75)) := (Below.refl _ _).alloc (Nat.le_refl _) _
  cases hcut : cutU 64 s.data.toList with
  | none =>
    have HC := Lib.hid hcut
    clear hcut
    go_enter Tryd.func52, Tryd.ntmps52
    go_wp2_with fail
    refine (l2Cut_any s 64 _ (by decide) (by omega)).mono ?_
    rintro e w1 ⟨_, hno, q, rfl⟩
    have he := hno HC.out
    clear hno
    subst he
    have hb1 := below_drewN hb0 q
    go_wp2_with fail
    refine (lowerTextS_any ⟨#[]⟩ _ (by decide)).mono ?_
    rintro e w2 ⟨rfl, hb2⟩
    rw [lowS_nil]
    obtain ⟨hc, hf⟩ := bcell hb2
    have hsz := hb2.size
    simp at hsz
    have hlt : w.heap.size < w2.heap.size := by omega
    have hne : w.heap.size ≠ w2.heap.size := by omega
    have hne2 : w2.heap.size ≠ w.heap.size := by omega
    go_wp2
    go_region
    all_goals
      go_wp2
      refine bodyPost_ret (v := .tuple #[.agg #[.string ⟨#[]⟩, .string s, .string ⟨#[]⟩], .bool false]) (by simp [results, Tryd.results52, go_sem, hc, hlt, World.cell?_alloc_lt]) rfl (boxRet_none HC.out rfl ?_)
      exact ((((((nx hb1 hb2).setCell (by simp) _).setCell (by simp) _).setCell (by simp) _).alloc (by simp; omega) _).drew)
  | some y =>
    obtain ⟨a, d⟩ := y
    have hbd := cutU_bound hcut
    rw [size_list] at hbd
    have HC := Lib.hid hcut
    have HLD := Lib.hid (lowS_str d)
    have hlz : (str a).size ≤ 1073741000 := by rw [str_size]; omega
    have hdz : (str d).size ≤ 1073741000 := by rw [str_size]; omega
    have hez : (str (low d)).size ≤ 1073741000 := by rw [str_size]; unfold low; rw [List.length_map]; omega
    have HAD : Hid (adr ⟨#[]⟩ (str a) (str (low d)) = ⟨[], a, low d⟩) := adr_str ⟨[], a, low d⟩
    clear hcut hbd
    go_enter Tryd.func52, Tryd.ntmps52
    go_wp2_with fail
    refine (l2Cut_any s 64 _ (by decide) (by omega)).mono ?_
    rintro e w1 ⟨hy, _, q, rfl⟩
    have he := hy a d HC.out
    clear hy
    subst he
    have hb1 := below_drewN hb0 q
    go_wp2_with fail
    refine (lowerTextS_any (str d) _ (by omega)).mono ?_
    rintro e w2 ⟨rfl, hb2⟩
    rw [HLD.out]
    obtain ⟨hc, hf⟩ := bcell hb2
    have hsz := hb2.size
    simp at hsz
    have hlt : w.heap.size < w2.heap.size := by omega
    have hlt2 : w.heap.size < w2.heap.size + 1 := by omega
    have hne : w.heap.size ≠ w2.heap.size := by omega
    have hne2 : w2.heap.size ≠ w.heap.size := by omega
    go_wp2
    go_region_with (go_at_call 67; refine (addressValidS_any ⟨#[]⟩ (str a) (str (low d)) _ ?_ ?_ ?_).mono ?_; exact Nat.zero_le _; exact hlz; exact hez; rintro e w5 ⟨rfl, hb5⟩; rw [HAD.out]; obtain ⟨hc5, hf5⟩ := bcell hb5)
    all_goals
      go_wp2
      refine bodyPost_ret (v := .tuple #[.agg #[.string ⟨#[]⟩, .string (str a), .string (str (low d))], .bool (isAdr ⟨[], a, low d⟩)]) (by simp [results, Tryd.results52, go_sem, hc, hc5, hlt, hlt2, World.cell?_alloc_lt]) rfl (boxRet_some HC.out rfl ?_)
      have h25 : Below w.heap.size w w5 := nx (((nx hb1 hb2).alloc (nx hb1 hb2).size _).drew) hb5
      exact (((h25.setCell (by simp) _).setCell (by simp) _).setCell (by simp) _)
end Go.Proofs.YtfiaankfmdpmkaaDoor
end

section
namespace Go.Proofs.YtfiaankfmdpmkaaDoor
open Go.RowKit

theorem boxVal_path (l : List UInt8) : isPath l = ((boxVal l).2 && decide (boxT (boxVal l).1 = l)) := by
  rw [path_box, boxVal_boxA]
  cases (boxVal l).2 <;> rfl
theorem boxVal_low (l : List UInt8) : isPath (lowPath l) = (boxVal l).2 ∧ (isPath (lowPath l) = true → boxT (boxVal l).1 = lowPath l) := by
  have h := box_path l
  rw [boxVal_boxA] at h
  cases hb : (boxVal l).2 with
  | false =>
    rw [hb] at h
    cases hp : isPath (lowPath l) with
    | false => exact ⟨rfl, fun h => by cases h⟩
    | true => rw [hp] at h; cases h
  | true =>
    rw [hb] at h
    cases hp : isPath (lowPath l) with
    | false => rw [hp] at h; cases h
    | true => rw [hp] at h; injection h with h; exact ⟨rfl, fun _ => h⟩
theorem strS_toList (l : List UInt8) : (str l).toList = l := by rw [ByteArray.toList_eq]; exact str_list _
theorem sumBox (p q : List UInt8) (s : ByteArray) : (((str p ++ ⟨#[64]⟩) ++ str q).toList == s.toList) = decide (p ++ 64 :: q = s.data.toList) := by
  have e : ((str p ++ ⟨#[64]⟩) ++ str q).toList = p ++ 64 :: q := by
    rw [ByteArray.toList_eq, Joins.data_append, Joins.data_append, str_list, str_list]; simp
  rw [e, ByteArray.toList_eq, Bool.eq_iff_iff, beq_iff_eq, decide_eq_true_iff]
set_option maxRecDepth 100000 in
set_option maxHeartbeats 1000000 in
theorem l10Box_any (s : ByteArray) (w : World) (hs : s.size ≤ 1073741000) :
    Calls Tryd.prog 30 #[.string s] w fun e w' => e = .returned (.bool (isPath s.data.toList)) ∧ Below w.heap.size w w' := by
  obtain ⟨z1, z2, z3⟩ := boxVal_small s.data.toList
  rw [size_list] at z1 z2
  have H0 : Hid (∀ u, Calls Tryd.prog 52 #[.string s] u (BoxRet s.data.toList u)) := fun u => l2Box_any s u (by omega)
  unfold BoxRet adrV at H0
  rw [boxVal_path]
  have d0 := sumBox (boxVal s.data.toList).1.loc (boxVal s.data.toList).1.dom s
  unfold boxT
  have s1 : (str (boxVal s.data.toList).1.loc).size ≤ 1073741000 := by rw [str_size]; omega
  have s2 : (str (boxVal s.data.toList).1.dom).size ≤ 1073741000 := by rw [str_size]; omega
  have s3 : (ByteArray.mk #[64]).size = 1 := rfl
  generalize decide ((boxVal s.data.toList).1.loc ++ 64 :: (boxVal s.data.toList).1.dom = s.data.toList) = g1 at *
  generalize (boxVal s.data.toList).2 = g0 at *
  generalize str (boxVal s.data.toList).1.loc = x1 at *
  generalize str (boxVal s.data.toList).1.dom = x2 at *
  generalize str (boxVal s.data.toList).1.name = x0 at *
  clear z1 z2 z3
  go_enter Tryd.func30, Tryd.ntmps30
  go_wp2_with fail
  refine (H0.out _).mono ?_
  rintro e w1 ⟨rfl, hb1⟩
  have hb2 : Below w.heap.size w (w1.alloc (.cells #[.string x0, .string x1, .string x2] 75)) := hb1.alloc hb1.size _
  cases g0
  · go_wp2
    go_ret
    exact ⟨rfl, by first | exact hb2 | exact hb1⟩
  · go_wp2
    go_ret
    exact ⟨rfl, by first | exact hb2 | exact hb1⟩
theorem boxE (x : ByteArray) (w : World) (hx : x.size ≤ 1073741000) : Calls Tryd.prog 30 #[.string x] w fun e w' => e = .returned (.bool (isPath x.data.toList)) ∧ Below w.heap.size w w' := l10Box_any x w hx
theorem textSE (x : ByteArray) (w : World) (hx : x.size ≤ 1073741000) : Calls Tryd.prog 68 #[.string x] w fun e w' => e = .returned (.bool (isText x.data.toList)) ∧ Below w.heap.size w w' :=
  (textValidS_any x w (by unfold maxLen; omega)).mono (fun _ _ ⟨he, hw⟩ => ⟨he, hw ▸ Below.refl _ _⟩)
theorem all_bad {P : List UInt8 → Bool} {xs : List (List UInt8)} {k : Nat} (h : k < xs.length) (hp : P xs[k] = false) : xs.all P = false := by
  rw [List.all_eq_false]; exact ⟨_, List.getElem_mem h, by simp [hp]⟩
theorem all_good {P : List UInt8 → Bool} {xs : List (List UInt8)} {n : Nat} (hn : xs.length ≤ n) (h : ∀ j, j < n → (h' : j < xs.length) → P xs[j] = true) : xs.all P = true := by
  rw [List.all_eq_true]; intro x hx
  obtain ⟨j, hj, rfl⟩ := List.getElem_of_mem hx
  exact h j (by omega) hj
set_option maxRecDepth 100000 in
set_option maxHeartbeats 4000000 in
theorem l10Draft_any (M : Nat) (x : MlA) (w : World) (h1 : RdM M w x) (hM : M ≤ 1073741000) :
    Calls Tryd.prog 53 #[mlV x] w fun e w' => e = .returned (.bool (isDraft x.m)) ∧ Below w.heap.size w w' := by
  obtain ⟨⟨f1, t1, l1⟩, a1, c1, b1, d1⟩ := x
  obtain ⟨⟨p1, _, _⟩, ⟨p2, _, _⟩, p0, p3, p5, p4, p6⟩ := h1
  dsimp only at *
  unfold mlV isDraft isSend
  dsimp only
  have H0 : Hid (∀ u, Below w.heap.size w u → Calls Tryd.prog 30 #[.string (str f1)] u fun e w' => e = .returned (.bool (isPath f1)) ∧ Below u.heap.size u w') := fun u hb => by
    have := l10Box_any (str f1) u (by rw [str_size]; omega)
    rw [str_list] at this; exact this
  have P1 := Lib.hid p1
  have P2 := Lib.hid p2
  have P5 := Lib.hid p5
  have P6 := Lib.hid p6
  have e1 : decide (t1.length ≤ 10) = decide ((t1.length : Int) ≤ 10) := decide_eq_decide.2 (by omega)
  have e2 : decide (l1.length ≤ 31) = decide ((l1.length : Int) ≤ 31) := decide_eq_decide.2 (by omega)
  rw [e1, e2]
  have d0 := eqEmp f1
  have d0' : ((str f1).toList != []) = !decide (f1 = []) := by rw [bne, d0]
  have hz1 : t1.length ≤ 1073741000 := by omega
  have hz2 : l1.length ≤ 1073741000 := by omega
  have HN1 : Hid (t1.length ≤ t1.length) := Nat.le_refl _
  have HN2 : Hid (l1.length ≤ l1.length) := Nat.le_refl _
  clear p1 p2 p3 p4 p5 p6 p0 e1 e2
  generalize decide (f1 = []) = g00 at *
  generalize isPath f1 = g0 at *
  obtain ⟨n1, hn1⟩ : ∃ n, n = t1.length := ⟨_, rfl⟩
  obtain ⟨n3, hn3⟩ : ∃ n, n = l1.length := ⟨_, rfl⟩
  rw [← hn1, ← hn3]
  rw [← hn1] at hz1 P1
  rw [← hn3] at hz2 P2
  have HE1 := Lib.hid hn1
  have HE3 := Lib.hid hn3
  clear hn1 hn3 HN1 HN2
  generalize str f1 = s1 at *
  have hA : Below w.heap.size w (w.alloc (.cells #[.string s1, .slice a1 n1 c1, .slice b1 n3 d1] 36)) := (Below.refl _ _).alloc (Nat.le_refl _) _
  have HX := Lib.hid (MK3.new w (.string s1) (.slice a1 n1 c1) (.slice b1 n3 d1) 36)
  cases g00
  · cases g0
    · go_enter Tryd.func53, Tryd.ntmps53
      go_wp2_with fail
      refine (H0.out _ hA).mono ?_
      rintro e w1 ⟨rfl, hb1⟩
      have hb01 := nx hA hb1
      have HX1 := Lib.hid (HX.out.below hb1)
      go_wp2
      go_ret
      exact ⟨rfl, hb01⟩
    · by_cases k1 : (n1 : Int) ≤ 10
      · by_cases k2 : (n3 : Int) ≤ 31
        · rw [decide_eq_true k1, decide_eq_true k2]
          go_enter Tryd.func53, Tryd.ntmps53
          go_wp2_with fail
          refine (H0.out _ hA).mono ?_
          rintro e w1 ⟨rfl, hb1⟩
          have hb01 := nx hA hb1
          have HX1 := Lib.hid (HX.out.below hb1)
          obtain ⟨y0, y1, y2⟩ := HX1.out
          go_wp2_with fail
          go_loopw [3] (fun i w5 => ∃ k : Nat, k ≤ n1 ∧ i = .int .i64 k ∧ Below w1.heap.size w1 w5 ∧ ∀ j, j < k → (h' : j < t1.length) → isPath t1[j] = true) (fun i _ => n1 - (intOf i).toNat)
          case atStart => exact ⟨0, Nat.zero_le _, rfl, Below.refl _ _, fun j h => by omega⟩
          case round =>
            obtain ⟨k, hk, rfl, hb, hall⟩ := hrel
            have HA := Lib.hid hall
            clear hall
            obtain ⟨y0, y1, y2⟩ := HX1.out.below hb
            by_cases hlt : k < n1
            · have hkx : k < t1.length := by have := HE1.out; omega
              obtain ⟨b, off, rfl, hbl, hcell⟩ := P1.out.2.resolve_left (by omega)
              have hc1 : wr.cell? ⟨b, off + k, none⟩ = some (.string (str t1[k])) := by rw [below_at (nx hb01 hb) hbl]; exact hcell k hkx
              have HC : Hid (Calls Tryd.prog 30 #[.string (str t1[k])] wr fun e w' => e = .returned (.bool (isPath (str t1[k]).data.toList)) ∧ Below wr.heap.size wr w') := boxE _ wr (by rw [str_size]; have := P5.out _ (List.getElem_mem hkx); omega)
              rw [str_list] at HC
              clear hcell
              cases hp : isPath t1[k]
              · have HE : Hid (t1.all isPath = false) := all_bad hkx hp
                rw [hp] at HC
                generalize str t1[k] = z at *
                clear hp
                go_wp2_with fail
                refine HC.out.mono ?_
                rintro e w2 ⟨rfl, hb2⟩
                go_wp2
                go_ret
                exact ⟨ret_bool (by rw [HE.out]; simp), nx hb01 (nx hb hb2)⟩
              · have HQ := Lib.hid hp
                rw [hp] at HC
                generalize str t1[k] = z at *
                clear hp
                go_wp2_with fail
                refine HC.out.mono ?_
                rintro e w2 ⟨rfl, hb2⟩
                go_wp2
                go_roundw
                case rel => exact ⟨k + 1, by omega, by go_num, nx hb hb2, fun j h h' => by
                  by_cases e : j = k
                  · subst e; exact HQ.out
                  · exact HA.out j (by omega) h'⟩
                case measure => simp [intOf]; omega
            · have HT : Hid (t1.all isPath = true) := all_good (n := n1) (by have := HE1.out; omega) (fun j h h' => HA.out j (by omega) h')
              go_wp2_with fail
              go_loopw [4] (fun i w5 => ∃ k : Nat, k ≤ n3 ∧ i = .int .i64 k ∧ Below w1.heap.size w1 w5 ∧ ∀ j, j < k → (h' : j < l1.length) → isText l1[j] = true) (fun i _ => n3 - (intOf i).toNat)
              case atStart => exact ⟨0, Nat.zero_le _, rfl, hb, fun j h => by omega⟩
              case round =>
                clear y0 y1 y2 hlt hb hk
                obtain ⟨k2, hk, rfl, hb, hall⟩ := hrel
                have HA2 := Lib.hid hall
                clear hall
                obtain ⟨y0, y1, y2⟩ := HX1.out.below hb
                by_cases hlt : k2 < n3
                · have hkx : k2 < l1.length := by have := HE3.out; omega
                  obtain ⟨b, off, rfl, hbl, hcell⟩ := P2.out.2.resolve_left (by omega)
                  have hc1 : wr.cell? ⟨b, off + k2, none⟩ = some (.string (str l1[k2])) := by rw [below_at (nx hb01 hb) hbl]; exact hcell k2 hkx
                  have HC : Hid (Calls Tryd.prog 68 #[.string (str l1[k2])] wr fun e w' => e = .returned (.bool (isText (str l1[k2]).data.toList)) ∧ Below wr.heap.size wr w') := textSE _ wr (by rw [str_size]; have := P6.out _ (List.getElem_mem hkx); omega)
                  rw [str_list] at HC
                  clear hcell
                  cases hp : isText l1[k2]
                  · have HE : Hid (l1.all isText = false) := all_bad hkx hp
                    rw [hp] at HC
                    generalize str l1[k2] = z at *
                    clear hp
                    go_wp2_with fail
                    refine HC.out.mono ?_
                    rintro e w2 ⟨rfl, hb2⟩
                    go_wp2
                    go_ret
                    exact ⟨ret_bool (by rw [HE.out]; simp), nx hb01 (nx hb hb2)⟩
                  · have HQ := Lib.hid hp
                    rw [hp] at HC
                    generalize str l1[k2] = z at *
                    clear hp
                    go_wp2_with fail
                    refine HC.out.mono ?_
                    rintro e w2 ⟨rfl, hb2⟩
                    go_wp2
                    go_roundw
                    case rel => exact ⟨k2 + 1, by omega, by go_num, nx hb hb2, fun j h h' => by
                      by_cases e : j = k2
                      · subst e; exact HQ.out
                      · exact HA2.out j (by omega) h'⟩
                    case measure => simp [intOf]; omega
                · have HL : Hid (l1.all isText = true) := all_good (n := n3) (by have := HE3.out; omega) (fun j h h' => HA2.out j (by omega) h')
                  go_wp2
                  go_ret
                  exact ⟨ret_bool (by rw [HT.out, HL.out]; rfl), nx hb01 hb⟩
        · rw [decide_eq_false k2]
          go_enter Tryd.func53, Tryd.ntmps53
          go_wp2_with fail
          refine (H0.out _ hA).mono ?_
          rintro e w1 ⟨rfl, hb1⟩
          have hb01 := nx hA hb1
          have HX1 := Lib.hid (HX.out.below hb1)
          obtain ⟨y0, y1, y2⟩ := HX1.out
          go_wp2
          go_ret
          exact ⟨ret_bool (by simp), hb01⟩
      · rw [decide_eq_false k1]
        go_enter Tryd.func53, Tryd.ntmps53
        go_wp2_with fail
        refine (H0.out _ hA).mono ?_
        rintro e w1 ⟨rfl, hb1⟩
        have hb01 := nx hA hb1
        have HX1 := Lib.hid (HX.out.below hb1)
        obtain ⟨y0, y1, y2⟩ := HX1.out
        go_wp2
        go_ret
        exact ⟨ret_bool (by simp), hb01⟩
  · by_cases k1 : (n1 : Int) ≤ 10
    · by_cases k2 : (n3 : Int) ≤ 31
      · rw [decide_eq_true k1, decide_eq_true k2]
        go_enter Tryd.func53, Tryd.ntmps53
        have hb01 := hA
        have HX1 := HX
        obtain ⟨y0, y1, y2⟩ := HX1.out
        go_wp2_with fail
        generalize w.alloc (.cells #[.string s1, .slice a1 n1 c1, .slice b1 n3 d1] 36) = w1 at *
        go_loopw [3] (fun i w5 => ∃ k : Nat, k ≤ n1 ∧ i = .int .i64 k ∧ Below w1.heap.size w1 w5 ∧ ∀ j, j < k → (h' : j < t1.length) → isPath t1[j] = true) (fun i _ => n1 - (intOf i).toNat)
        case atStart => exact ⟨0, Nat.zero_le _, rfl, Below.refl _ _, fun j h => by omega⟩
        case round =>
          obtain ⟨k, hk, rfl, hb, hall⟩ := hrel
          have HA := Lib.hid hall
          clear hall
          obtain ⟨y0, y1, y2⟩ := HX1.out.below hb
          by_cases hlt : k < n1
          · have hkx : k < t1.length := by have := HE1.out; omega
            obtain ⟨b, off, rfl, hbl, hcell⟩ := P1.out.2.resolve_left (by omega)
            have hc1 : wr.cell? ⟨b, off + k, none⟩ = some (.string (str t1[k])) := by rw [below_at (nx hb01 hb) hbl]; exact hcell k hkx
            have HC : Hid (Calls Tryd.prog 30 #[.string (str t1[k])] wr fun e w' => e = .returned (.bool (isPath (str t1[k]).data.toList)) ∧ Below wr.heap.size wr w') := boxE _ wr (by rw [str_size]; have := P5.out _ (List.getElem_mem hkx); omega)
            rw [str_list] at HC
            clear hcell
            cases hp : isPath t1[k]
            · have HE : Hid (t1.all isPath = false) := all_bad hkx hp
              rw [hp] at HC
              generalize str t1[k] = z at *
              clear hp
              go_wp2_with fail
              refine HC.out.mono ?_
              rintro e w2 ⟨rfl, hb2⟩
              go_wp2
              go_ret
              exact ⟨ret_bool (by rw [HE.out]; simp), nx hb01 (nx hb hb2)⟩
            · have HQ := Lib.hid hp
              rw [hp] at HC
              generalize str t1[k] = z at *
              clear hp
              go_wp2_with fail
              refine HC.out.mono ?_
              rintro e w2 ⟨rfl, hb2⟩
              go_wp2
              go_roundw
              case rel => exact ⟨k + 1, by omega, by go_num, nx hb hb2, fun j h h' => by
                by_cases e : j = k
                · subst e; exact HQ.out
                · exact HA.out j (by omega) h'⟩
              case measure => simp [intOf]; omega
          · have HT : Hid (t1.all isPath = true) := all_good (n := n1) (by have := HE1.out; omega) (fun j h h' => HA.out j (by omega) h')
            go_wp2_with fail
            go_loopw [4] (fun i w5 => ∃ k : Nat, k ≤ n3 ∧ i = .int .i64 k ∧ Below w1.heap.size w1 w5 ∧ ∀ j, j < k → (h' : j < l1.length) → isText l1[j] = true) (fun i _ => n3 - (intOf i).toNat)
            case atStart => exact ⟨0, Nat.zero_le _, rfl, hb, fun j h => by omega⟩
            case round =>
              clear y0 y1 y2 hlt hb hk
              obtain ⟨k2, hk, rfl, hb, hall⟩ := hrel
              have HA2 := Lib.hid hall
              clear hall
              obtain ⟨y0, y1, y2⟩ := HX1.out.below hb
              by_cases hlt : k2 < n3
              · have hkx : k2 < l1.length := by have := HE3.out; omega
                obtain ⟨b, off, rfl, hbl, hcell⟩ := P2.out.2.resolve_left (by omega)
                have hc1 : wr.cell? ⟨b, off + k2, none⟩ = some (.string (str l1[k2])) := by rw [below_at (nx hb01 hb) hbl]; exact hcell k2 hkx
                have HC : Hid (Calls Tryd.prog 68 #[.string (str l1[k2])] wr fun e w' => e = .returned (.bool (isText (str l1[k2]).data.toList)) ∧ Below wr.heap.size wr w') := textSE _ wr (by rw [str_size]; have := P6.out _ (List.getElem_mem hkx); omega)
                rw [str_list] at HC
                clear hcell
                cases hp : isText l1[k2]
                · have HE : Hid (l1.all isText = false) := all_bad hkx hp
                  rw [hp] at HC
                  generalize str l1[k2] = z at *
                  clear hp
                  go_wp2_with fail
                  refine HC.out.mono ?_
                  rintro e w2 ⟨rfl, hb2⟩
                  go_wp2
                  go_ret
                  exact ⟨ret_bool (by rw [HE.out]; simp), nx hb01 (nx hb hb2)⟩
                · have HQ := Lib.hid hp
                  rw [hp] at HC
                  generalize str l1[k2] = z at *
                  clear hp
                  go_wp2_with fail
                  refine HC.out.mono ?_
                  rintro e w2 ⟨rfl, hb2⟩
                  go_wp2
                  go_roundw
                  case rel => exact ⟨k2 + 1, by omega, by go_num, nx hb hb2, fun j h h' => by
                    by_cases e : j = k2
                    · subst e; exact HQ.out
                    · exact HA2.out j (by omega) h'⟩
                  case measure => simp [intOf]; omega
              · have HL : Hid (l1.all isText = true) := all_good (n := n3) (by have := HE3.out; omega) (fun j h h' => HA2.out j (by omega) h')
                go_wp2
                go_ret
                exact ⟨ret_bool (by rw [HT.out, HL.out]; rfl), nx hb01 hb⟩
      · rw [decide_eq_false k2]
        go_enter Tryd.func53, Tryd.ntmps53
        go_wp2
        go_ret
        exact ⟨ret_bool (by simp), hA⟩
    · rw [decide_eq_false k1]
      go_enter Tryd.func53, Tryd.ntmps53
      go_wp2
      go_ret
      exact ⟨ret_bool (by simp), hA⟩
set_option maxRecDepth 100000 in
set_option maxHeartbeats 2000000 in
theorem mailValidS_any (M : Nat) (x : MlA) (w : World) (h1 : RdM M w x) (hM : M ≤ 1073741000) :
    Calls Tryd.prog 31 #[mlV x] w fun e w' => e = .returned (.bool (isMail x.m)) ∧ Below w.heap.size w w' := by
  have hA0 : ∀ o, Below w.heap.size w (w.alloc o) := fun o => (Below.refl _ _).alloc (Nat.le_refl _) o
  have H0 : Hid (∀ u, Below w.heap.size w u → Calls Tryd.prog 53 #[mlV x] u fun e w' => e = .returned (.bool (isDraft x.m)) ∧ Below u.heap.size u w') := fun u hb => l10Draft_any M x u (h1.below hb) hM
  obtain ⟨⟨f1, t1, l1⟩, a1, c1, b1, d1⟩ := x
  obtain ⟨⟨p1, _, _⟩, ⟨p2, _, _⟩, p0, p3, p5, p4, p6⟩ := h1
  dsimp only at *
  unfold isMail
  unfold mlV at *
  dsimp only at *
  have e1 : decide (0 < t1.length) = decide ((0 : Int) < (t1.length : Int)) := decide_eq_decide.2 (by omega)
  have e2 : decide (l1.length ≤ 30) = decide ((l1.length : Int) ≤ 30) := decide_eq_decide.2 (by omega)
  rw [e1, e2]
  have hz1 : t1.length ≤ 1073741000 := by omega
  have hz2 : l1.length ≤ 1073741000 := by omega
  clear p1 p2 p3 p4 p5 p6 p0 hM e1 e2
  generalize isDraft ⟨f1, t1, l1⟩ = g0 at *
  generalize t1.length = n1 at *
  generalize l1.length = n3 at *
  generalize str f1 = s1 at *
  have HX := Lib.hid (MK3.new w (.string s1) (.slice a1 n1 c1) (.slice b1 n3 d1) 36)
  go_enter Tryd.func31, Tryd.ntmps31
  go_wp2_with fail
  refine (H0.out _ (hA0 _)).mono ?_
  rintro e w1 ⟨rfl, hb1⟩
  have hb01 := nx (hA0 _) hb1
  obtain ⟨y0, y1, y2⟩ := HX.out.below hb1
  cases g0
  · go_wp2
    go_ret
    exact ⟨rfl, hb01⟩
  · by_cases k1 : (0 : Int) < (n1 : Int)
    · have z1 := decide_eq_true k1
      go_wp2
      go_ret
      exact ⟨ret_bool (by rw [z1]; rfl), hb01⟩
    · have z1 := decide_eq_false k1
      go_wp2
      go_ret
      exact ⟨ret_bool (by rw [z1]; rfl), hb01⟩
end Go.Proofs.YtfiaankfmdpmkaaDoor
end

section
namespace Go.Proofs.YtfiaankfmdpmkaaDoor
open Go.RowKit

structure RelT (Rel : World → World → Prop) (W : World) where
  val : World
  rel : Rel W val
/-- E: what the operations that are taken first may do to the world; S: what all of them may do. -/
structure RelOk (E S : World → World → Prop) : Prop where
  refl : ∀ w, E w w
  trans : ∀ {a b c : World}, E a b → E b c → E a c
  strans : ∀ {a b c : World}, S a b → S b c → S a c
  sub : ∀ {a b : World}, E a b → S a b
theorem RelOk.srefl {E S : World → World → Prop} (ok : RelOk E S) (w : World) : S w w := ok.sub (ok.refl w)
instance (R : Nat) (W : World) : Nonempty (RelT (Touch R) W) := ⟨⟨W, Touch.refl R W⟩⟩
instance (W : World) : Nonempty (RelT Grow W) := ⟨⟨W, Grow.refl W⟩⟩
theorem touchOk (R : Nat) : RelOk Grow (Touch R) := ⟨Grow.refl, Grow.trans, Touch.trans, Touch.of_below⟩
theorem calls_relT {P : Program} {f : FuncId} {args : Array Value} {W : World} {x : RelT Grow W} {v : Value}
    (h : Calls P f args x.val fun e w' => e = .returned v ∧ Below x.val.heap.size x.val w') : Calls P f args x.val fun e w'' => e = .returned v ∧ ∃ y : RelT Grow W, w'' = y.val :=
  h.mono fun _ w' ⟨he, hb⟩ => ⟨he, ⟨w', Grow.trans x.rel hb⟩, rfl⟩
section
variable {P : Program} {E S : World → World → Prop} {ops : Array Oper} {Q : Exit → Act → World → Prop} {md : Region.Mode}

def relUpon (P : Program) (E : World → World → Prop) (w : World) (v : Value) : Result Next → Prop
  | .ok (.value u) w' => w' = w ∧ u = v
  | .ok .skip w' => w' = w ∧ v = undef
  | .ok (.enter f args) w' => w' = w ∧ Calls P f args w (fun e w'' => e = .returned v ∧ E w w'')
  | _ => False
def relAt (P : Program) (E : World → World → Prop) (o : Oper) (a : Act) (w : World) (v : Value) : Prop := relUpon P E w v ((execOp a.eval o).run P w)
/-- In state a, in every world grown from w, operation o leaves v in its temporary and turns nothing. -/
def RYields (P : Program) (E S : World → World → Prop) (ops : Array Oper) (o : Oper) (v : Value) (a : Act) (w : World) : Prop :=
  (Region.wanted o (yielded ops a.tmps) = true ∧ ∀ w', S w w' → relAt P E o a w' v) ∨ (Region.wanted o (yielded ops a.tmps) = false ∧ v = undef)
theorem RYields.grow (ok : RelOk E S) {o : Oper} {v : Value} {a : Act} {w u : World} (h : RYields P E S ops o v a w) (g : S w u) : RYields P E S ops o v a u :=
  h.imp (fun ⟨h1, h2⟩ => ⟨h1, fun w' k => h2 w' (ok.strans g k)⟩) id
theorem RYields.of_same {o : Oper} {v : Value} {a a' : Act} {w : World} (hy : RYields P E S ops o v a w) (he : execOp a'.eval o = execOp a.eval o)
    (hw : Region.wanted o (yielded ops a'.tmps) = Region.wanted o (yielded ops a.tmps)) : RYields P E S ops o v a' w := by
  unfold RYields relAt at *
  rw [he, hw]
  exact hy
theorem RYields.wpOp (ok : RelOk E S) {i : Nat} {o : Oper} {v : Value} {a : Act} {w : World} (hi : ops[i]? = some o) (hy : RYields P E S ops o v a w)
    {K : Act → World → Prop} (h : ∀ w', E w w' → K (a.put o.dst v) w') : wpOp P ops Q i K a w := by
  unfold Go.wpOp
  simp only [hi]
  rcases hy with ⟨hw, hv⟩ | ⟨hw, rfl⟩
  · rw [if_pos hw]
    refine .inl ?_
    have h1 := hv w (ok.srefl w)
    unfold relAt at h1
    unfold Oper.wp
    generalize (execOp a.eval o).run P w = r at *
    cases r with
    | ok n w' =>
      cases n <;> simp only [relUpon] at h1 <;> simp only [Oper.upon]
      case value u =>
        obtain ⟨e1, e2⟩ := h1
        rw [e1, e2]
        exact h _ (ok.refl w)
      case skip =>
        obtain ⟨e1, e2⟩ := h1
        rw [e1, ← e2]
        exact h _ (ok.refl w)
      case enter f args =>
        obtain ⟨e1, hc⟩ := h1
        rw [e1]
        exact hc.mono fun e w'' ⟨he, hw''⟩ => by subst he; exact h _ hw''
    | halt x w' => simp only [relUpon] at h1
  · rw [if_neg (by rw [hw]; exact Bool.false_ne_true)]; exact h _ (ok.refl w)

theorem wpOp_putR {j : Nat} {oi oj : Oper} {v : Value} (hj : ops[j]? = some oj) (hap : oi.apart ops oj = true)
    (hsi : ∀ cs b, oi.op ≠ .select cs b) (hsj : ∀ cs b, oj.op ≠ .select cs b)
    (hQ : ∀ c a w, Q (.panic c) (a.put oi.dst v) w → Q (.panic c) a w) {K : Act → World → Prop} {a : Act} {w u : World}
    (hy : RYields P E S ops oi v a u) (h : wpOp P ops Q j K (a.put oi.dst v) w) :
    wpOp P ops Q j (fun a' w' => RYields P E S ops oi v a' u ∧ K (a'.put oi.dst v) w') a w := by
  obtain ⟨h1, h2, h3⟩ := Oper.apart_spec hap
  have keep : ∀ (a : Act), RYields P E S ops oi v a u → ∀ x, RYields P E S ops oi v (a.put oj.dst x) u := fun a hy x =>
    hy.of_same (execOp_put oi hsi a oj.dst x h3) (wanted_put oi a oj.dst x h3)
  have keepD : ∀ d, RYields P E S ops oi v { a with defers := d :: a.defers } u := fun d => hy.of_same rfl rfl
  unfold Go.wpOp at *
  simp only [hj] at *
  rw [wanted_put oj a oi.dst v h1] at h
  split
  · rename_i hw
    simp only [hw, if_true] at h
    rcases h with h | ⟨hasks, hlets⟩
    case inr => exact .inr ⟨by unfold Oper.asks at *; rw [execOp_put oj hsj a oi.dst v h1] at hasks; exact hasks, hlets⟩
    refine .inl ?_
    unfold Oper.wp at *
    rw [execOp_put oj hsj a oi.dst v h1] at h
    generalize (execOp a.eval oj).run P w = r at *
    cases r with
    | ok n w' =>
      cases n <;> simp only [Oper.upon] at h ⊢
      case value x => exact ⟨keep a hy x, by rw [← Act.put_comm a v x h2]; exact h⟩
      case skip => exact ⟨keep a hy _, by rw [← Act.put_comm a v undef h2]; exact h⟩
      case defer d =>
        refine ⟨keep _ (keepD d) _, ?_⟩
        rw [← Act.put_comm _ v undef h2, ← Act.put_defers]
        exact h
      case enter f args =>
        refine Calls.mono h fun e w'' he => ?_
        cases e with
        | returned x => exact ⟨keep a hy x, by rw [← Act.put_comm a v x h2]; exact he⟩
        | panicked c => exact hQ _ _ _ he
        | outgrown => exact he
      case row row args => exact Rows.mono h fun x w'' he => ⟨keep a hy x, by rw [← Act.put_comm a v x h2]; exact he⟩
    | halt x w' =>
      cases x <;> simp only [Oper.upon] at h ⊢
      case panic x => exact hQ _ _ _ h
  · rename_i hw
    simp only [hw] at h
    exact ⟨keep a hy _, by rw [← Act.put_comm a v undef h2]; exact h⟩

/-- Whatever order is picked, till all but the tail T is listed. -/
def wpAnyW (P : Program) (E S : World → World → Prop) (md : Region.Mode) (ops : Array Oper) (Q : Exit → Act → World → Prop) (T : List Nat) (tf : Nat) : Nat → Array Bool → Act → World → Prop
  | 0, listed, a, w => (∀ k, k < ops.size → k ∉ T → listed.getD k false = true) ∧ ∀ w', E w w' → wpAny P md ops Q tf listed a w'
  | fuel + 1, listed, a, w => ∀ w', E w w' → (Region.ready md ops listed = [] → Q .normal a w') ∧
    ∀ i ∈ Region.ready md ops listed, wpOp P ops Q i (fun a' w'' => S w' w'' ∧ wpAnyW P E S md ops Q T tf fuel (listed.setIfInBounds i true) a' w'') a w'
theorem wpAny_of_W (ok : RelOk E S) {T : List Nat} {tf : Nat} : ∀ (fuel : Nat) (listed : Array Bool) (a : Act) (w : World), wpAnyW P E S md ops Q T tf fuel listed a w → wpAny P md ops Q (fuel + tf) listed a w
  | 0, _, _, w, h => by rw [Nat.zero_add]; exact h.2 w (ok.refl w)
  | fuel + 1, _, _, w, h => by
    rw [show fuel + 1 + tf = (fuel + tf) + 1 by omega]
    exact ⟨(h w (ok.refl w)).1, fun i hi => wpOp_mono (fun a' w' h' => wpAny_of_W ok fuel _ a' w' h'.2) ((h w (ok.refl w)).2 i hi)⟩
theorem wpAnyW_grow (ok : RelOk E S) {T : List Nat} {tf fuel : Nat} {listed : Array Bool} {a : Act} {w u : World} (g : E w u) (h : wpAnyW P E S md ops Q T tf fuel listed a w) : wpAnyW P E S md ops Q T tf fuel listed a u := by
  cases fuel with
  | zero => exact ⟨h.1, fun w' k => h.2 w' (ok.trans g k)⟩
  | succ fuel => exact fun w' k => h w' (ok.trans g k)
theorem wpAnyW_first (ok : RelOk E S) {T : List Nat} {tf i : Nat} {oi : Oper} {v : Value} (hi : ops[i]? = some oi) (hsel : ∀ (j : Nat) (o : Oper) cs b, ops[j]? = some o → o.op ≠ .select cs b)
    (hQ : ∀ c a w, Q (.panic c) (a.put oi.dst v) w → Q (.panic c) a w) (hT : ∀ t ∈ T, reachB md ops ops.size t i = true) :
    ∀ (fuel : Nat) (listed : Array Bool) (a : Act) (w : World), Fit md ops listed →
      (∀ j oj, ops[j]? = some oj → j ≠ i → listed.getD j true = false → (∀ e ∈ oj.after, Region.binds md e = true → e.on ≠ i) → oi.apart ops oj = true) →
      i ∈ Region.ready md ops listed → RYields P E S ops oi v a w →
      wpAnyW P E S md ops Q T tf fuel (listed.setIfInBounds i true) (a.put oi.dst v) w → wpAnyW P E S md ops Q T tf (fuel + 1) listed a w := by
  have hun : ∀ {L : Array Bool} {k : Nat}, L.getD k true = false → L.getD k false = true → False := fun {L k} h0 h1 => by
    rcases Nat.lt_or_ge k L.size with h' | h'
    · simp [h'] at h0 h1; rw [h0] at h1; cases h1
    · simp [Array.getElem?_eq_none h'] at h1
  intro fuel
  induction fuel with
  | zero =>
    intro listed a w hfit _ hr hy H w' g
    refine ⟨fun h => (by rw [h] at hr; cases hr), fun j hj => ?_⟩
    by_cases hji : j = i
    · subst hji; exact (hy.grow ok (ok.sub g)).wpOp ok hi fun w'' k => ⟨ok.sub k, wpAnyW_grow ok (ok.trans g k) H⟩
    · exfalso
      obtain ⟨hjun, oj, hoj, hall⟩ := mem_ready.1 hj
      have hjT : j ∈ T := by
        refine Classical.byContradiction fun hn => ?_
        have := H.1 j (Array.getElem?_eq_some_iff.1 hoj).1 hn
        rw [getD_set_ne false (Ne.symm hji)] at this
        exact hun hjun this
      exact hun (mem_ready.1 hr).1 (reach_listed hfit _ j i oj hoj hall (hT j hjT))
  | succ fuel ih =>
    intro listed a w hfit hfree hr hy H w' g
    refine ⟨fun h => (by rw [h] at hr; cases hr), fun j hj => ?_⟩
    by_cases hji : j = i
    · subst hji; exact (hy.grow ok (ok.sub g)).wpOp ok hi fun w'' k => ⟨ok.sub k, wpAnyW_grow ok (ok.trans g k) H⟩
    · have h1 := (H w' g).2 j (ready_mono hj hji)
      obtain ⟨hjun, oj, hoj, hall⟩ := mem_ready.1 hj
      have hnot : ∀ e ∈ oj.after, Region.binds md e = true → e.on ≠ i := fun e he hb heq => by
        have h1 := hall e he hb
        rw [heq] at h1
        exact hun (mem_ready.1 hr).1 h1
      have h2 := wpOp_putR hoj (hfree j oj hoj hji hjun hnot) (fun cs b => hsel i oi cs b hi) (fun cs b => hsel j oj cs b hoj) hQ (hy.grow ok (ok.sub g)) h1
      have hfree' : ∀ k ok, ops[k]? = some ok → k ≠ i → (listed.setIfInBounds j true).getD k true = false →
          (∀ e ∈ ok.after, Region.binds md e = true → e.on ≠ i) → oi.apart ops ok = true := fun k ok hk hki hun hno => by
        refine hfree k ok hk hki ?_ hno
        by_cases hjk : j = k
        · subst hjk; exact hjun
        · rw [getD_set_ne true hjk] at hun; exact hun
      refine wpOp_mono (fun a' w'' h3 => ⟨h3.2.1, ih (listed.setIfInBounds j true) a' w'' (hfit.set hj) hfree' (ready_mono hr (Ne.symm hji)) (h3.1.grow ok h3.2.1) ?_⟩) h2
      rw [Array.setIfInBounds_comm _ _ hji]
      exact h3.2.2
theorem wpAnyW_mask (ok : RelOk E S) {T : List Nat} {tf : Nat} {A : Act} {n : Nat} (hsel : Region.noSelect ops = true) (hQ : ∀ c a o v w, Q (.panic c) (a.put o v) w → Q (.panic c) a w) {w : World} {fuel : Nat} : ∀ (m : List Bool) (l : List Oper) (k : Nat) (listed : Array Bool) (a : Act),
    (∀ j, l[j]? = ops[k + j]?) → a.tmps.size = n → Fit md ops listed → maskOk md ops n m l k listed = true → maskReach md ops T m k = true →
    (∀ x : RelT S w, wpQuiet P ops (fun w' => ∃ y : RelT E x.val, w' = y.val) (fun a' => a' = A) (pickL m l) a) →
    wpAnyW P E S md ops Q T tf fuel (maskListed m k listed) A w → wpAnyW P E S md ops Q T tf (maskCount m + fuel) listed a w
  | [], l, k, listed, a, _, _, _, _, _, h, H => by
    have h1 : a = A := by have := h ⟨w, ok.srefl w⟩; rw [pickL] at this; exact this; all_goals simp
    rw [h1]
    simpa [maskCount, maskListed] using H
  | false :: m, [], k, listed, a, _, _, _, hB, _, _, _ => by simp [maskOk] at hB
  | true :: m, [], k, listed, a, _, _, _, hB, _, _, _ => by simp [maskOk] at hB
  | false :: m, o :: l, k, listed, a, hl, hn, hfit, hB, hR, h, H => by
    simp only [maskCount, maskListed, maskOk, maskReach, pickL] at *
    exact wpAnyW_mask ok hsel hQ m l (k + 1) listed a (fun j => by have := hl (j + 1); simpa [Nat.add_assoc, Nat.add_comm 1 j] using this) hn hfit hB hR h H
  | true :: m, o :: l, k, listed, a, hl, hn, hfit, hB, hR, h, H => by
    have h0 : ops[k]? = some o := by simpa using (hl 0).symm
    simp only [maskCount, maskListed, maskOk, maskReach, pickL, Bool.and_eq_true] at *
    obtain ⟨⟨⟨hr, hf⟩, hd⟩, hB'⟩ := hB
    obtain ⟨hR0, hR'⟩ := hR
    have hT : ∀ t ∈ T, reachB md ops ops.size t k = true := fun t ht => List.all_eq_true.1 hR0 t ht
    have hrk : k ∈ Region.ready md ops listed := by simpa using hr
    cases ho : o.dst with
    | none => rw [ho] at hd; cases hd
    | some d =>
      rw [ho] at hd
      simp only [Bool.and_eq_true, decide_eq_true_eq, List.all_eq_true, bne_iff_ne] at hd
      have hslot : ∀ v, (a.put (some d) v).tmps[d]? = some v := fun v => by simp [Act.put, hn, hd.1]
      by_cases hw : Region.wanted o (yielded ops a.tmps) = true
      · have h' : ∀ x : RelT S w, (∀ w', (∃ y : RelT E x.val, w' = y.val) → o.quietAt P a (fun w' => ∃ y : RelT E x.val, w' = y.val) w' ((A.tmps[d]?).getD undef)) ∧
            wpQuiet P ops (fun w' => ∃ y : RelT E x.val, w' = y.val) (fun a' => a' = A) (pickL m l) (a.put (some d) ((A.tmps[d]?).getD undef)) := fun x => by
          have h1 := h x
          unfold wpQuiet at h1
          rw [if_pos hw] at h1
          obtain ⟨v, h2, h3⟩ := h1
          rw [ho] at h3
          have h4 := quiet_slot (d := d) (pickL m l) _ hd.2 h3
          rw [hslot] at h4
          rw [h4]
          exact ⟨h2, h3⟩
        have hy : RYields P E S ops o ((A.tmps[d]?).getD undef) a w := .inl ⟨hw, fun w' g => by
          have h1 := (h' ⟨w', g⟩).1 w' ⟨⟨w', ok.refl w'⟩, rfl⟩
          unfold Oper.quietAt at h1
          unfold relAt
          generalize (execOp a.eval o).run P w' = r at *
          cases r with
          | ok nx w2 =>
            cases nx <;> simp only [Oper.quietUpon] at h1 <;> simp only [relUpon]
            case value u => exact h1
            case skip => exact h1
            case enter f args => exact ⟨h1.1, h1.2.mono fun e w3 ⟨he, y, hy⟩ => ⟨he, by rw [hy]; exact y.rel⟩⟩
          | halt x w2 => simp only [Oper.quietUpon] at h1⟩
        rw [show maskCount m + 1 + fuel = (maskCount m + fuel) + 1 by omega]
        refine wpAnyW_first ok h0 (Region.noSelect_spec hsel) (fun c a w => hQ c a _ _ w) hT _ listed a w hfit (Region.free_spec h0 hf) hrk hy ?_
        rw [ho]
        exact wpAnyW_mask ok hsel hQ m l (k + 1) _ _ (fun j => by have := hl (j + 1); simpa [Nat.add_assoc, Nat.add_comm 1 j] using this) (by rw [put_size]; exact hn) (hfit.set hrk) hB' hR' (fun x => (h' x).2) H
      · have hwf : Region.wanted o (yielded ops a.tmps) = false := by simpa using hw
        rw [show maskCount m + 1 + fuel = (maskCount m + fuel) + 1 by omega]
        refine wpAnyW_first ok h0 (Region.noSelect_spec hsel) (fun c a w => hQ c a _ _ w) hT _ listed a w hfit (Region.free_spec h0 hf) hrk (.inr ⟨hwf, rfl⟩) ?_
        refine wpAnyW_mask ok hsel hQ m l (k + 1) _ _ (fun j => by have := hl (j + 1); simpa [Nat.add_assoc, Nat.add_comm 1 j] using this) (by rw [put_size]; exact hn) (hfit.set hrk) hB' hR' (fun x => ?_) H
        have h1 := h x
        unfold wpQuiet at h1
        rw [if_neg hw] at h1
        exact h1
/-- The tail stands by itself: all else that is not listed is taken by masks and one by one. -/
theorem wpAny_tailW (ok : RelOk E S) {F fuel tf : Nat} (T : List Nat) {listed : Array Bool} {a : Act} {w : World} (hF : fuel + tf = F) (h : wpAnyW P E S md ops Q T tf fuel listed a w) : wpAny P md ops Q F listed a w := by
  rw [← hF]; exact wpAny_of_W ok _ _ _ _ h
theorem wpAnyW_take (ok : RelOk E S) {T : List Nat} {tf F fuel n : Nat} {l : List Oper} {listed : Array Bool} {a : Act} {w : World} (m : List Bool) (hF : maskCount m + fuel = F) (hsel : Region.noSelect l.toArray = true)
    (hn : a.tmps.size = n) (hfit : fitB md l.toArray listed = true) (hB : maskOk md l.toArray n m l 0 listed = true) (hR : maskReach md l.toArray T m 0 = true)
    (h : ∃ A, (∀ x : RelT S w, wpQuiet P l.toArray (fun w' => ∃ y : RelT E x.val, w' = y.val) (fun a' => a' = A) (pickL m l) a) ∧ wpAnyW P E S md l.toArray (NoPanic Q) T tf fuel (maskListed m 0 listed) A w) : wpAnyW P E S md l.toArray (NoPanic Q) T tf F listed a w := by
  obtain ⟨A, h1, h2⟩ := h
  rw [← hF]
  exact wpAnyW_mask ok hsel (fun _ _ _ _ _ h => h) m l 0 listed a (fun j => by simp) hn (fit_of hfit) hB hR h1 h2
theorem wpAnyW_one {T : List Nat} {tf m fuel : Nat} {listed : Array Bool} {a : Act} {w : World} (hr : Region.ready md ops listed = [m])
    (h : ∀ w', E w w' → wpOp P ops Q m (fun a' w'' => S w' w'' ∧ wpAnyW P E S md ops Q T tf fuel (listed.setIfInBounds m true) a' w'') a w') : wpAnyW P E S md ops Q T tf (fuel + 1) listed a w :=
  fun w' g => ⟨fun h0 => (by rw [hr] at h0; cases h0), fun i hi => by
    rw [hr] at hi
    have : i = m := by simpa using hi
    subst this
    exact h w' g⟩
theorem wpAnyW_rest {T : List Nat} {tf : Nat} {listed : Array Bool} {a : Act} {w : World} (hl : allBut T ops.size listed = true) (h : ∀ w', E w w' → wpAny P md ops Q tf listed a w') : wpAnyW P E S md ops Q T tf 0 listed a w := by
  refine ⟨fun k hk hT => ?_, h⟩
  have := List.all_eq_true.1 hl k (List.mem_range.2 hk)
  simpa [hT] using this
/-- Two operations may come up. -/
theorem wpAnyW_two {T : List Nat} {tf m n fuel : Nat} {listed : Array Bool} {a : Act} {w : World} (hr : Region.ready md ops listed = [m, n])
    (h1 : ∀ w', E w w' → wpOp P ops Q m (fun a' w'' => S w' w'' ∧ wpAnyW P E S md ops Q T tf fuel (listed.setIfInBounds m true) a' w'') a w')
    (h2 : ∀ w', E w w' → wpOp P ops Q n (fun a' w'' => S w' w'' ∧ wpAnyW P E S md ops Q T tf fuel (listed.setIfInBounds n true) a' w'') a w') : wpAnyW P E S md ops Q T tf (fuel + 1) listed a w :=
  fun w' g => ⟨fun h0 => (by rw [hr] at h0; cases h0), fun i hi => by
    rw [hr] at hi
    rcases (by simpa using hi : i = m ∨ i = n) with e | e
    · subst e; exact h1 w' g
    · subst e; exact h2 w' g⟩
end
end Go.Proofs.YtfiaankfmdpmkaaDoor
end

section
namespace Go.Proofs.YtfiaankfmdpmkaaDoor
open Go.RowKit

/-- Blocks below B stay, from a world on that has B blocks. -/
def SB (B : Nat) (a b : World) : Prop := B ≤ a.heap.size → Below B a b
theorem sbOk (B : Nat) : RelOk Grow (SB B) := ⟨Grow.refl, Grow.trans, fun h k hB => (h hB).trans (k (Nat.le_trans hB (h hB).size)), fun h hB => Below.mono h hB⟩
instance (B : Nat) (W : World) : Nonempty (RelT (SB B) W) := ⟨⟨W, fun _ => Below.refl _ _⟩⟩
set_option maxRecDepth 100000 in
set_option maxHeartbeats 400000 in
theorem wp_append_H {o : Oper} {Q : Exit → Act → World → Prop} {K : Act → World → Prop} {a : Act} {w : World} (s x : Operand)
    (ho : o.op = .call { callee := .builtin .append, args := #[s, x], argTypes := #[30, 30] })
    (B : Nat) (v : Value) (xs ys : List (List UInt8)) (ad : Option Addr) (n c : Nat) (hs : a.eval s = v) (hx : a.eval x = .slice ad n c) (hown : OwnL B v xs w) (hy : RdL w ad n ys) (hac : ad = none → c = 0) (hB : B ≤ w.heap.size) (hl : xs.length + ys.length ≤ 10000000)
    (h : ∀ v' w', OwnL B v' (xs ++ ys) w' → w.grownBy w' v.ownBlock → (v'.ownBlock = v.ownBlock ∨ v'.ownBlock = some w.heap.size) → K (a.put o.dst v') w') : o.wp Tryd.prog a w K Q := by
  obtain ⟨i0, hi, hz0, hz1, hz2⟩ := info_parts sInfo
  have hn := hy.1
  unfold OwnL at hown
  cases ad with
  | none =>
    have h0 : n = 0 := by
      rcases hy.2 with e | ⟨b, off, e, _⟩
      · exact e
      · cases e
    obtain rfl := hac rfl
    subst h0
    have hn0 : ys = [] := List.length_eq_zero_iff.1 hn
    have hrun := run_append_owned_none (P := Tryd.prog) (w := w) B 30 o.type 9 i0 1 Tryd.underlying30 hi v xs.length (xs.map strV) hown
    unfold Oper.wp
    simp [execOp, ho, resolve, invoke, builtin, hs, hx, hrun, Result.andThen]
    refine h v w ?_ ⟨rfl, rfl, rfl, Nat.le_refl _, fun _ _ _ => rfl⟩ (.inl rfl)
    subst hn0
    rw [List.append_nil]; exact hown
  | some q =>
    obtain ⟨v', w', hr, h2, h3, _, h5⟩ := run_append_own_at (P := Tryd.prog) w B 30 o.type 9 i0 (.string ⟨#[]⟩) 1 16 Tryd.underlying30 hi hz0 hz1 hz2 rfl (by decide) v xs.length (xs.map strV) hown q n c (ys.map strV) (by simp [hn])
      (fun j u hu => by
        have hj : j < ys.length := by rcases Nat.lt_or_ge j ys.length with h | h; exact h; rw [List.getElem?_eq_none (by simpa using h)] at hu; cases hu
        rcases hy.2 with e | ⟨b, off, e, _, hc⟩
        · omega
        · injection e with e
          subst e
          rw [addr_add, hc j hj]
          rw [List.getElem?_map, List.getElem?_eq_getElem hj] at hu
          exact hu)
      (fun z hz => by obtain ⟨q, _, rfl⟩ := List.mem_map.1 hz; rfl) (by unfold maxLen; omega) (by omega) hB
    unfold Oper.wp execOp
    simp only [ho, resolve, invoke, builtin, Sem.run_bind, Sem.run_pure, Result.andThen_ok, List.map_toArray, List.map_cons, List.map_nil, hs, hx, hr]
    refine h v' w' ?_ h3 h5
    unfold OwnL; rw [List.length_append, List.map_append, hn]; exact h2
/-- Two rows of the call's own, apart. -/
structure St2 (B : Nat) (w : World) (v : Value) (xs : List (List UInt8)) (u : Value) (ys : List (List UInt8)) : Prop where
  a : OwnL B v xs w
  b : OwnL B u ys w
  ap : ∀ g, v.ownBlock = some g → u.ownBlock ≠ some g
theorem St2.keep {B : Nat} {w w' : World} {v u : Value} {xs ys : List (List UInt8)} (h : St2 B w v xs u ys) (k : Below w.heap.size w w') : St2 B w' v xs u ys := ⟨h.a.keep k, h.b.keep k, h.ap⟩
theorem St2.swap {B : Nat} {w : World} {v u : Value} {xs ys : List (List UInt8)} (h : St2 B w v xs u ys) : St2 B w u ys v xs := ⟨h.b, h.a, fun g hg e => h.ap g e hg⟩
theorem St2.new {B : Nat} {w : World} {v : Value} {xs : List (List UInt8)} (h : OwnL B v xs w) (hB : B ≤ w.heap.size) : St2 B (w.alloc (.cells #[] 9)) v xs (.slice (some ⟨w.heap.size, 0, none⟩) 0 0) [] :=
  ⟨h.keep ((Below.refl _ _).alloc (Nat.le_refl _) _), (OwnL.empty w).base hB, fun g hg e => by
    have := (h.lt g hg).2
    have e' : some w.heap.size = some g := e
    injection e' with e'
    omega⟩
theorem St2.appR {B : Nat} {w w' : World} {v u u' : Value} {xs ys zs : List (List UInt8)} (h : St2 B w v xs u ys) (ho : OwnL B u' zs w') (hg : w.grownBy w' u.ownBlock) (hat : u'.ownBlock = u.ownBlock ∨ u'.ownBlock = some w.heap.size) : St2 B w' v xs u' zs :=
  ⟨h.a.grown hg (fun g hv e => h.ap g hv e), ho, fun g hv e => by
    rcases hat with h' | h'
    · exact h.ap g hv (by rw [← h']; exact e)
    · rw [h'] at e
      injection e with e
      have := (h.a.lt g hv).2
      omega⟩
theorem grown_below {B : Nat} {w w' : World} {u : Value} {xs : List (List UInt8)} (h : OwnL B u xs w) (hg : w.grownBy w' u.ownBlock) (hB : B ≤ w.heap.size) : Below B w w' := (Below.refl _ _).grown hg hB (fun g hv => (h.lt g hv).1)
theorem St2.touch {B R : Nat} {w w' : World} {v u : Value} {xs ys : List (List UInt8)} (h : St2 B w v xs u ys) (t : Touch R w w') (hR : R < B) : St2 B w' v xs u ys := ⟨h.a.touch t hR, h.b.touch t hR, h.ap⟩
theorem St2.off {B g i : Nat} {w : World} {v u : Value} {xs ys : List (List UInt8)} (h : St2 B w v xs u ys) (h1 : ∀ q, v.ownBlock = some q → q ≠ g) (h2 : ∀ q, u.ownBlock = some q → q ≠ g) (z : Value) : St2 B (w.setCell ⟨g, i, none⟩ z) v xs u ys := by
  have key : ∀ {v : Value} {xs : List (List UInt8)}, OwnL B v xs w → (∀ q, v.ownBlock = some q → q ≠ g) → OwnL B v xs (w.setCell ⟨g, i, none⟩ z) := fun {v xs} h hv => by
    refine ⟨h.1, ?_⟩
    rcases h.2 with hn | ⟨q, cap, cur, e, hg1, hg2, rest⟩
    · exact .inl hn
    · exact .inr ⟨q, cap, cur, e, hg1, by rw [Below.heap_setCell _ _ _ _ (hv q (by rw [e]; rfl)), hg2], rest⟩
  exact ⟨key h.a h1, key h.b h2, h.ap⟩
theorem St2.base {B C : Nat} {w : World} {v u : Value} {xs ys : List (List UInt8)} (h : St2 B w v xs u ys) (k : C ≤ B) : St2 C w v xs u ys := ⟨h.a.base k, h.b.base k, h.ap⟩
theorem mf3_grown {w w' : World} {o : Option Nat} {g : Nat} {v0 v1 v2 : Value} (h : MF3 w g v0 v1 v2) (t : w.grownBy w' o) (hne : ∀ q, o = some q → q ≠ g) : MF3 w' g v0 v1 v2 := by
  have hl := lt_of_cell h.1.1
  have hb := t.block g hl (fun e => hne g e.symm rfl)
  have hc : ∀ i, w'.cell? ⟨g, i, none⟩ = w.cell? ⟨g, i, none⟩ := fun i => by unfold World.cell?; rw [hb]
  have hf : ∀ i, w'.frozen? ⟨g, i, none⟩ = w.frozen? ⟨g, i, none⟩ := fun i => by unfold World.frozen?; rw [hb]
  exact ⟨⟨(hc 0).trans h.1.1, (hc 1).trans h.1.2.1, (hc 2).trans h.1.2.2⟩, fun i => (hf i).trans (h.2 i)⟩
end Go.Proofs.YtfiaankfmdpmkaaDoor
end

section
namespace Go.Proofs.YtfiaankfmdpmkaaDoor
open Go.RowKit

set_option maxRecDepth 100000 in
set_option maxHeartbeats 2000000 in
theorem l11Has_any (a : Option Addr) (n c : Nat) (xs : List (List UInt8)) (y : List UInt8) (w : World) (hr : RdL w a n xs) (hn : n ≤ 1073741824) :
    Calls Tryd.prog 42 #[.slice a n c, .string (str y)] w fun e w' => e = .returned (.bool (xs.contains y)) ∧ Below w.heap.size w w' := by
  have HLEN := Lib.hid hr.1
  have HR := Lib.hid hr.2
  clear hr
  obtain ⟨Y, hY⟩ : ∃ Y, Y = str y := ⟨_, rfl⟩
  have HY := Lib.hid hY
  rw [← hY]
  clear hY
  go_enter Tryd.func42, Tryd.ntmps42
  go_wp2_with fail
  go_loopw [5] (fun i wr => ∃ (k : Nat), k ≤ n ∧ i = .int .i64 k ∧ Below w.heap.size w wr ∧ ∀ j, j < k → (hj : j < xs.length) → xs[j] ≠ y) (fun i _ => n - (intOf i).toNat)
  case atStart => exact ⟨0, Nat.zero_le _, rfl, Below.refl _ _, fun j h => by omega⟩
  case round =>
    obtain ⟨k, hk, rfl, hb, hall⟩ := hrel
    have HA := Lib.hid hall
    clear hall
    by_cases hlt : k < n
    · have hkx : k < xs.length := by rw [HLEN.out]; exact hlt
      obtain ⟨b, off, rfl, hbl, hcell⟩ := HR.out.resolve_left (by omega)
      have q0 : wr.cell? ⟨b, off + k, none⟩ = some (.string (str xs[k])) := by rw [below_at hb hbl]; exact hcell k hkx
      have hkn : (k : Int) < (n : Int) := by omega
      have hk0 : (0 : Int) ≤ (k : Int) := by omega
      clear hcell
      have HQ : Hid ((str xs[k] = Y) = (xs[k] = y)) := by
        show _ = _
        rw [HY.out]
        exact propext ⟨fun h => by rw [← str_list xs[k], h, str_list], fun h => by rw [h]⟩
      by_cases hq : xs[k] = y
      · have HF : Hid (xs.contains y = true) := by show _ = _; rw [List.contains_iff_mem]; exact hq ▸ List.getElem_mem hkx
        have e2 : ((str xs[k]).toList == Y.toList) = true := by rw [beq_dec, decide_eq_true_iff]; exact (HQ.out.symm ▸ hq : str xs[k] = Y)
        clear hq HQ
        generalize str xs[k] = X at *
        go_wp2
        go_ret
        exact ⟨ret_bool HF.out.symm, hb⟩
      · have e2 : ((str xs[k]).toList == Y.toList) = false := by rw [beq_dec, decide_eq_false_iff_not]; intro h; exact hq (HQ.out ▸ h)
        have HN := Lib.hid hq
        clear hq HQ
        generalize str xs[k] = X at *
        go_wp2
        go_roundw
        case rel => exact ⟨k + 1, by omega, by go_num, hb, fun j hj hjx => by
          by_cases e : j = k
          · subst e; exact HN.out
          · exact HA.out j (by omega) hjx⟩
        case measure => simp [intOf]; omega
    · have HF : Hid (xs.contains y = false) := by
        show _ = _
        rw [Bool.eq_false_iff]; intro h
        obtain ⟨j, hj, e⟩ := List.getElem_of_mem (List.contains_iff_mem.1 h)
        exact HA.out j (by have := HLEN.out; omega) hj e
      go_wp2
      go_ret
      exact ⟨ret_bool HF.out.symm, hb⟩
theorem OwnL.away {B g i : Nat} {w : World} {v : Value} {xs : List (List UInt8)} (h : OwnL B v xs w) (hv : ∀ q, v.ownBlock = some q → q ≠ g) (z : Value) : OwnL B v xs (w.setCell ⟨g, i, none⟩ z) :=
  ((⟨h, OwnL.nil B w, fun g _ e => by cases e⟩ : St2 B w v xs (.slice none 0 0) []).off hv (fun q hq => by cases hq) z).a
/-- A mail that is being made in a block of its own. -/
structure OutM (W : World) (s : ByteArray) (v : Value) (ts : List (List UInt8)) (u : Value) (ls : List (List UInt8)) (g : Nat) (w : World) : Prop where
  cells : MF3 w g (.string s) v u
  tl : OwnL W.heap.size v ts w
  ln : OwnL W.heap.size u ls w
  ap : ∀ q, v.ownBlock = some q → u.ownBlock ≠ some q
  bel : Below W.heap.size W w
  low : W.heap.size ≤ g
  o1 : ∀ q, v.ownBlock = some q → q ≠ g
  o2 : ∀ q, u.ownBlock = some q → q ≠ g
theorem OutM.below {W w w' : World} {s : ByteArray} {v u : Value} {ts ls : List (List UInt8)} {g : Nat} (h : OutM W s v ts u ls g w) (hb : Below w.heap.size w w') : OutM W s v ts u ls g w' :=
  ⟨h.cells.below hb, h.tl.keep hb, h.ln.keep hb, h.ap, nx h.bel hb, h.low, h.o1, h.o2⟩
theorem outM_mk {W w : World} {s : ByteArray} {a : Option Addr} {n c : Nat} {ls : List (List UInt8)} {g : Nat} (E : Below W.heap.size W w) (T : OwnL W.heap.size (.slice a n c) ls w) (Z : MF3 w g (.string ⟨#[]⟩) (.slice none 0 0) (.slice none 0 0)) (hg : W.heap.size ≤ g) (hn : ∀ q, (Value.slice a n c).ownBlock = some q → q ≠ g) :
    OutM W s (.slice none 0 0) [] (.slice a n c) ls g (((w.setCell ⟨g, 0, none⟩ (.string s)).setCell ⟨g, 1, none⟩ (.slice none 0 0)).setCell ⟨g, 2, none⟩ (.slice a n c)) :=
  ⟨((Z.set0 _).set1 _).set2 _, OwnL.nil _ _, ((T.away hn _).away hn _).away hn _, fun q hq => (by cases hq), ((E.setCell hg _).setCell hg _).setCell hg _, hg, fun q hq => (by cases hq), hn⟩
theorem OutM.app {W w w' : World} {s : ByteArray} {v v' u : Value} {ts ts' ls : List (List UInt8)} {g : Nat} (h : OutM W s v ts u ls g w) (ho : OwnL W.heap.size v' ts' w') (gr : w.grownBy w' v.ownBlock) (at' : v'.ownBlock = v.ownBlock ∨ v'.ownBlock = some w.heap.size) : OutM W s v' ts' u ls g (w'.setCell ⟨g, 1, none⟩ v') := by
  have hg := lt_of_cell h.cells.1.1
  have n1 : ∀ q, v'.ownBlock = some q → q ≠ g := fun q hq => by
    rcases at' with e | e
    · exact h.o1 q (by rw [← e]; exact hq)
    · rw [hq] at e; injection e with e; omega
  have hb : Below W.heap.size W w' := h.bel.trans (grown_below h.tl gr h.bel.size)
  refine ⟨(mf3_grown h.cells gr h.o1).set1 _, ho.away n1 _, (h.ln.grown gr (fun q hq e => h.ap q e hq)).away h.o2 _, fun q hq e => ?_, hb.setCell h.low _, h.low, n1, h.o2⟩
  rcases at' with e' | e'
  · exact h.ap q (by rw [← e']; exact hq) e
  · rw [hq] at e'; injection e' with e'
    have := (h.ln.lt q e).2
    omega
set_option maxRecDepth 100000 in
set_option maxHeartbeats 4000000 in
theorem normalMailS_any (M : Nat) (x : MlA) (w : World) (h1 : RdM M w x) (hM : M ≤ 1048576) :
    Calls Tryd.prog 20 #[mlV x] w (NrmRet x.m w) := by
  have H0 : Hid (∀ u, Below w.heap.size w u → Calls Tryd.prog 31 #[mlV x] u fun e w' => e = .returned (.bool (isMail x.m)) ∧ Below u.heap.size u w') := fun u hb => mailValidS_any M x u (h1.below hb) (by omega)
  obtain ⟨m, a1, c1, b1, d1⟩ := x
  obtain ⟨⟨p1, _, pn1⟩, ⟨p2, _, pn2⟩, _⟩ := h1
  dsimp only at *
  have P1 := Lib.hid p1
  have P2 := Lib.hid p2
  have PN2 := Lib.hid pn2
  clear p1 p2 pn1 pn2
  cases hv : isMail m
  · have HN : Hid (∀ w', Below w.heap.size w w' → NrmRet m w (.returned (.tuple #[.agg #[.string ⟨#[]⟩, .slice none 0 0, .slice none 0 0], .bool false])) w') := fun w' hb => nrmRet_none hv hb
    rw [hv] at H0
    unfold mlV at *
    dsimp only at *
    generalize m.to.length = n1 at *
    generalize m.lines.length = n3 at *
    generalize str m.frm = s1 at *
    clear hv
    obtain ⟨hb0, hx0, hz0, hzl⟩ := two_mals w (.string s1) (.slice a1 n1 c1) (.slice b1 n3 d1) (.string ⟨#[]⟩) (.slice none 0 0) (.slice none 0 0) 36
    have HX := Lib.hid hx0
    have HZ := Lib.hid hz0
    clear hx0 hz0
    go_enter Tryd.func20, Tryd.ntmps20
    go_wp2_with fail
    generalize (w.alloc (.cells #[.string s1, .slice a1 n1 c1, .slice b1 n3 d1] 36)).alloc (.cells #[.string ⟨#[]⟩, .slice none 0 0, .slice none 0 0] 36) = W0 at *
    refine (H0.out W0 hb0).mono ?_
    rintro e w1 ⟨rfl, hb1⟩
    obtain ⟨⟨q0, q1, q2⟩, qf⟩ := HZ.out.below hb1
    have hbw := nx hb0 hb1
    go_wp2
    refine bodyPost_ret (v := .tuple #[.agg #[.string ⟨#[]⟩, .slice none 0 0, .slice none 0 0], .bool false]) (by simp [results, Tryd.results20, go_sem, q0, q1, q2]) rfl ?_
    exact HN.out _ (((hbw.setCell (by show w.heap.size ≤ w.heap.size + 1; omega) _).setCell (by show w.heap.size ≤ w.heap.size + 1; omega) _).setCell (by show w.heap.size ≤ w.heap.size + 1; omega) _)
  · obtain ⟨hd, _, h30⟩ := isMail_iff.1 hv
    obtain ⟨_, h10, _, _, _⟩ := isDraft_iff.1 hd
    have HN : Hid (∀ w' (a : Option Addr) (n c : Nat) (b : Option Addr) (d : Nat) (acc : List (List UInt8)), acc = nrm [] m.to → n = acc.length → OwnL w.heap.size (.slice a n c) acc w' → OwnL w.heap.size (.slice b m.lines.length d) m.lines w' → (∀ g, (Value.slice a n c).ownBlock = some g → (Value.slice b m.lines.length d).ownBlock ≠ some g) → Below w.heap.size w w' → NrmRet m w (.returned (.tuple #[.agg #[.string (str m.frm), .slice a n c, .slice b m.lines.length d], .bool true])) w') := fun w' a n c b d acc ha hn q1 q2 q3 hb => by
      subst ha
      exact nrmRet_some hv rfl hn rfl q1 q2 q3 hb
    rw [hv] at H0
    unfold mlV at *
    dsimp only at *
    clear hv hd
    generalize hn1 : m.to.length = n1 at *
    generalize hn3 : m.lines.length = n3 at *
    have HE1 := Lib.hid hn1
    have HE3 := Lib.hid hn3
    clear hn1 hn3
    generalize str m.frm = s1 at *
    obtain ⟨hb0, hx0, hz0, hzl⟩ := two_mals w (.string s1) (.slice a1 n1 c1) (.slice b1 n3 d1) (.string ⟨#[]⟩) (.slice none 0 0) (.slice none 0 0) 36
    have HX := Lib.hid hx0
    have HZ := Lib.hid hz0
    clear hx0 hz0
    go_enter Tryd.func20, Tryd.ntmps20
    go_wp2_with fail
    generalize (w.alloc (.cells #[.string s1, .slice a1 n1 c1, .slice b1 n3 d1] 36)).alloc (.cells #[.string ⟨#[]⟩, .slice none 0 0, .slice none 0 0] 36) = W0 at *
    refine (H0.out _ hb0).mono ?_
    rintro e w1 ⟨rfl, hb1⟩
    have hb01 := nx hb0 hb1
    have HX1 := Lib.hid (HX.out.below hb1)
    have HZ1 := Lib.hid (HZ.out.below hb1)
    have hlw : w.heap.size + 1 < w1.heap.size := Nat.lt_of_lt_of_le hzl hb1.size
    obtain ⟨y0, y1, y2⟩ := HX1.out
    clear H0
    go_upto_region 3 with fail
    have Q2 : ∀ u, Below w1.heap.size w1 u → RdL u b1 n3 m.lines := fun u hu => P2.out.below (nx hb01 hu)
    have D0 : Below w1.heap.size w1 w1.drew := (Below.refl _ _).drew
    have HB : Hid (∀ u, Below w1.heap.size w1 u → MK3 u w.heap.size (.string s1) (.slice a1 n1 c1) (.slice b1 n3 d1)) := fun u hu => HX1.out.below hu
    clear y0 y1 y2
    go_cut [4] from 10 to 16 (fun p wx => ∃ (g : Nat) (ax : Option Addr) (cx : Nat), p = .pointer (some ⟨g, 0, none⟩) ∧ OutM w1 s1 (.slice none 0 0) [] (.slice ax n3 cx) m.lines g wx)
    case first =>
      refine wp_region_tail (by kernel_rfl) ?_
      refine wpAny_tailW (sbOk w1.heap.size) (fuel := 8) (tf := 1) [8] (by kernel_rfl) ?_
      refine wpAnyW_take (sbOk w1.heap.size) (fuel := 4) [true, true, false, true, true] (by kernel_rfl) (by kernel_rfl) (by rfl) (by kernel_rfl) (by kernel_rfl) (by kernel_rfl) ?_
      apply Exists.intro
      refine ⟨fun x => ?_, ?_⟩
      · have hx := x.rel (by exact D0.size)
        have y0 := fun (y : RelT Grow x.val) => (HB.out y.val ((D0.trans hx).trans (y.rel.mono (Nat.le_trans D0.size hx.size)))).1
        have y1 := fun (y : RelT Grow x.val) => (HB.out y.val ((D0.trans hx).trans (y.rel.mono (Nat.le_trans D0.size hx.size)))).2.1
        have y2 := fun (y : RelT Grow x.val) => (HB.out y.val ((D0.trans hx).trans (y.rel.mono (Nat.le_trans D0.size hx.size)))).2.2
        simp only [pickL]
        repeat (go_big_quiet_step (fail))
        exact wpQuiet_nil rfl
      refine wpAnyW_two (m := 2) (n := 7) (by kernel_rfl) (fun u1x g1 => ?_) (fun u1x g1 => ?_)
      · skip
        have E1 : Below w1.heap.size w1 u1x := nx D0 g1
        refine wpOp_at (o := _) (by rfl) (by rfl) ?_
        go_simp
        refine ⟨fun h => ((Below.refl _ _).alloc (Nat.le_refl _) _).mono h, ?_⟩
        try simp only [Act.put, List.setIfInBounds_toArray, List.set_cons_zero, List.set_cons_succ]
        have F1 : Below w1.heap.size w1 (u1x.alloc (.cells #[] 9)) := nx E1 ((Below.refl _ _).alloc (Nat.le_refl _) _)
        have R1 : OwnL w1.heap.size (.slice (some ⟨u1x.heap.size, 0, none⟩) 0 0) [] (u1x.alloc (.cells #[] 9)) := (OwnL.empty u1x).base E1.size
        generalize u1x.alloc (.cells #[] 9) = V1 at *
        generalize hX1 : u1x.heap.size = X1 at R1 ⊢
        clear hX1
        refine wpAnyW_two (m := 5) (n := 7) (by kernel_rfl) (fun u2x g2 => ?_) (fun u2x g2 => ?_)
        · skip
          have E2 : Below w1.heap.size w1 u2x := nx F1 g2
          have T2 := R1.keep g2
          refine wpOp_at (o := _) (by rfl) (by rfl) ?_
          refine wp_append_H _ _ rfl w1.heap.size _ [] m.lines b1 n3 d1 rfl rfl T2 (Q2 _ E2) PN2.out E2.size (by rw [HE3.out]; simp; omega) ?_
          intro v2 V2 o2 gr2 at2
          have G2 : Below w1.heap.size u2x V2 := grown_below T2 gr2 E2.size
          refine ⟨fun _ => G2, ?_⟩
          have F2 : Below w1.heap.size w1 V2 := E2.trans G2
          replace o2 : OwnL w1.heap.size v2 m.lines V2 := o2
          obtain ⟨ax, cx, hvx, _, _, _⟩ := o2.readc
          rw [HE3.out] at hvx
          subst hvx
          have R2 := o2
          clear o2 gr2 at2 G2
          try simp only [Act.put, List.setIfInBounds_toArray, List.getElem_toArray, List.getElem_cons_succ, List.getElem_cons_zero, List.set_cons_succ, List.set_cons_zero]
          refine wpAnyW_take (sbOk w1.heap.size) (fuel := 1) [false, false, false, false, false, false, true] (by kernel_rfl) (by kernel_rfl) (by rfl) (by kernel_rfl) (by kernel_rfl) (by kernel_rfl) ?_
          apply Exists.intro
          refine ⟨fun x => ?_, ?_⟩
          · skip
            simp only [pickL]
            repeat (go_big_quiet_step (fail))
            exact wpQuiet_nil rfl
          refine wpAnyW_one (m := 7) (by kernel_rfl) (fun u3x g3 => ?_)
          have E3 : Below w1.heap.size w1 u3x := nx F2 g3
          have T3 := R2.keep g3
          refine wpOp_at (o := _) (by rfl) (by rfl) ?_
          go_simp
          refine ⟨fun h => ((Below.refl _ _).alloc (Nat.le_refl _) _).mono h, ?_⟩
          try simp only [Act.put, List.setIfInBounds_toArray, List.set_cons_zero, List.set_cons_succ]
          have F3 : Below w1.heap.size w1 (u3x.alloc (.cells #[.string ⟨#[]⟩, .slice none 0 0, .slice none 0 0] 36)) := nx E3 ((Below.refl _ _).alloc (Nat.le_refl _) _)
          have Y3 : MF3 (u3x.alloc (.cells #[.string ⟨#[]⟩, .slice none 0 0, .slice none 0 0] 36)) u3x.heap.size (.string ⟨#[]⟩) (.slice none 0 0) (.slice none 0 0) := MF3.new u3x _ _ _ _
          have GB : w1.heap.size ≤ u3x.heap.size := E3.size
          have R3 := T3.keep ((Below.refl _ _).alloc (Nat.le_refl _) (.cells #[.string ⟨#[]⟩, .slice none 0 0, .slice none 0 0] 36))
          have NR : ∀ q, (Value.slice ax n3 cx).ownBlock = some q → q ≠ u3x.heap.size := fun q hq => by have := (T3.lt q hq).2; omega
          generalize u3x.alloc (.cells #[.string ⟨#[]⟩, .slice none 0 0, .slice none 0 0] 36) = V3 at *
          generalize hX3 : u3x.heap.size = gO at Y3 GB NR ⊢
          clear hX3
          refine wpAnyW_rest (by kernel_rfl) (fun u4x g4 => ?_)
          have E4 : Below w1.heap.size w1 u4x := nx F3 g4
          have T4 := R3.keep g4
          have Z4 := Y3.below g4
          obtain ⟨⟨z0, z1, z2⟩, zf⟩ := Z4
          refine wpAny_one (m := 8) (by kernel_rfl) ?_
          refine wpOp_at (o := _) (by rfl) (by rfl) ?_
          go_simp
          try simp only [Act.put]
          refine wpAny_end (by kernel_rfl) ?_ _
          try simp only [Act.put, List.setIfInBounds_toArray, List.set_cons_zero, List.set_cons_succ]
          go_wp2_with fail
          go_meet
          exact ⟨gO, ax, cx, rfl, outM_mk E4 T4 ⟨⟨z0, z1, z2⟩, zf⟩ GB NR⟩
        · skip
          have E2 : Below w1.heap.size w1 u2x := nx F1 g2
          have T2 := R1.keep g2
          refine wpOp_at (o := _) (by rfl) (by rfl) ?_
          go_simp
          refine ⟨fun h => ((Below.refl _ _).alloc (Nat.le_refl _) _).mono h, ?_⟩
          try simp only [Act.put, List.setIfInBounds_toArray, List.set_cons_zero, List.set_cons_succ]
          have F2 : Below w1.heap.size w1 (u2x.alloc (.cells #[.string ⟨#[]⟩, .slice none 0 0, .slice none 0 0] 36)) := nx E2 ((Below.refl _ _).alloc (Nat.le_refl _) _)
          have Y2 : MF3 (u2x.alloc (.cells #[.string ⟨#[]⟩, .slice none 0 0, .slice none 0 0] 36)) u2x.heap.size (.string ⟨#[]⟩) (.slice none 0 0) (.slice none 0 0) := MF3.new u2x _ _ _ _
          have GB : w1.heap.size ≤ u2x.heap.size := E2.size
          have R2 := T2.keep ((Below.refl _ _).alloc (Nat.le_refl _) (.cells #[.string ⟨#[]⟩, .slice none 0 0, .slice none 0 0] 36))
          have NE2 : X1 ≠ u2x.heap.size := by have := (T2.lt X1 rfl).2; omega
          generalize u2x.alloc (.cells #[.string ⟨#[]⟩, .slice none 0 0, .slice none 0 0] 36) = V2 at *
          generalize hX2 : u2x.heap.size = gO at Y2 GB NE2 ⊢
          clear hX2
          refine wpAnyW_one (m := 5) (by kernel_rfl) (fun u3x g3 => ?_)
          have E3 : Below w1.heap.size w1 u3x := nx F2 g3
          have T3 := R2.keep g3
          have Z3 := Y2.below g3
          refine wpOp_at (o := _) (by rfl) (by rfl) ?_
          refine wp_append_H _ _ rfl w1.heap.size _ [] m.lines b1 n3 d1 rfl rfl T3 (Q2 _ E3) PN2.out E3.size (by rw [HE3.out]; simp; omega) ?_
          intro v3 V3 o3 gr3 at3
          have G3 : Below w1.heap.size u3x V3 := grown_below T3 gr3 E3.size
          refine ⟨fun _ => G3, ?_⟩
          have F3 : Below w1.heap.size w1 V3 := E3.trans G3
          replace o3 : OwnL w1.heap.size v3 m.lines V3 := o3
          have Y3 := mf3_grown Z3 gr3 (fun q hq => by injection hq with hq; rw [← hq]; exact NE2)
          have NR : ∀ q, v3.ownBlock = some q → q ≠ gO := fun q hq e => by
            rcases at3 with h | h
            · rw [hq] at h; injection h with h; exact NE2 (h.symm.trans e)
            · rw [hq] at h; injection h with h; have := lt_of_cell Z3.1.1; omega
          obtain ⟨ax, cx, hvx, _, _, _⟩ := o3.readc
          rw [HE3.out] at hvx
          subst hvx
          have R3 := o3
          clear o3 gr3 at3 G3
          try simp only [Act.put, List.setIfInBounds_toArray, List.getElem_toArray, List.getElem_cons_succ, List.getElem_cons_zero, List.set_cons_succ, List.set_cons_zero]
          refine wpAnyW_take (sbOk w1.heap.size) (fuel := 0) [false, false, false, false, false, false, true] (by kernel_rfl) (by kernel_rfl) (by rfl) (by kernel_rfl) (by kernel_rfl) (by kernel_rfl) ?_
          apply Exists.intro
          refine ⟨fun x => ?_, ?_⟩
          · skip
            simp only [pickL]
            repeat (go_big_quiet_step (fail))
            exact wpQuiet_nil rfl
          refine wpAnyW_rest (by kernel_rfl) (fun u4x g4 => ?_)
          have E4 : Below w1.heap.size w1 u4x := nx F3 g4
          have T4 := R3.keep g4
          have Z4 := Y3.below g4
          obtain ⟨⟨z0, z1, z2⟩, zf⟩ := Z4
          refine wpAny_one (m := 8) (by kernel_rfl) ?_
          refine wpOp_at (o := _) (by rfl) (by rfl) ?_
          go_simp
          try simp only [Act.put]
          refine wpAny_end (by kernel_rfl) ?_ _
          try simp only [Act.put, List.setIfInBounds_toArray, List.set_cons_zero, List.set_cons_succ]
          go_wp2_with fail
          go_meet
          exact ⟨gO, ax, cx, rfl, outM_mk E4 T4 ⟨⟨z0, z1, z2⟩, zf⟩ GB NR⟩
      · skip
        have E1 : Below w1.heap.size w1 u1x := nx D0 g1
        refine wpOp_at (o := _) (by rfl) (by rfl) ?_
        go_simp
        refine ⟨fun h => ((Below.refl _ _).alloc (Nat.le_refl _) _).mono h, ?_⟩
        try simp only [Act.put, List.setIfInBounds_toArray, List.set_cons_zero, List.set_cons_succ]
        have F1 : Below w1.heap.size w1 (u1x.alloc (.cells #[.string ⟨#[]⟩, .slice none 0 0, .slice none 0 0] 36)) := nx E1 ((Below.refl _ _).alloc (Nat.le_refl _) _)
        have Y1 : MF3 (u1x.alloc (.cells #[.string ⟨#[]⟩, .slice none 0 0, .slice none 0 0] 36)) u1x.heap.size (.string ⟨#[]⟩) (.slice none 0 0) (.slice none 0 0) := MF3.new u1x _ _ _ _
        have GB : w1.heap.size ≤ u1x.heap.size := E1.size
        generalize u1x.alloc (.cells #[.string ⟨#[]⟩, .slice none 0 0, .slice none 0 0] 36) = V1 at *
        generalize hX1 : u1x.heap.size = gO at Y1 GB ⊢
        clear hX1
        refine wpAnyW_one (m := 2) (by kernel_rfl) (fun u2x g2 => ?_)
        have E2 : Below w1.heap.size w1 u2x := nx F1 g2
        have Z2 := Y1.below g2
        refine wpOp_at (o := _) (by rfl) (by rfl) ?_
        go_simp
        refine ⟨fun h => ((Below.refl _ _).alloc (Nat.le_refl _) _).mono h, ?_⟩
        try simp only [Act.put, List.setIfInBounds_toArray, List.set_cons_zero, List.set_cons_succ]
        have F2 : Below w1.heap.size w1 (u2x.alloc (.cells #[] 9)) := nx E2 ((Below.refl _ _).alloc (Nat.le_refl _) _)
        have R2 : OwnL w1.heap.size (.slice (some ⟨u2x.heap.size, 0, none⟩) 0 0) [] (u2x.alloc (.cells #[] 9)) := (OwnL.empty u2x).base E2.size
        have Y2 := Z2.below ((Below.refl _ _).alloc (Nat.le_refl _) (.cells #[] 9))
        have NE2 : u2x.heap.size ≠ gO := by have := lt_of_cell Z2.1.1; omega
        generalize u2x.alloc (.cells #[] 9) = V2 at *
        generalize hX2 : u2x.heap.size = X2 at R2 ⊢ NE2
        clear hX2
        refine wpAnyW_one (m := 5) (by kernel_rfl) (fun u3x g3 => ?_)
        have E3 : Below w1.heap.size w1 u3x := nx F2 g3
        have T3 := R2.keep g3
        have Z3 := Y2.below g3
        refine wpOp_at (o := _) (by rfl) (by rfl) ?_
        refine wp_append_H _ _ rfl w1.heap.size _ [] m.lines b1 n3 d1 rfl rfl T3 (Q2 _ E3) PN2.out E3.size (by rw [HE3.out]; simp; omega) ?_
        intro v3 V3 o3 gr3 at3
        have G3 : Below w1.heap.size u3x V3 := grown_below T3 gr3 E3.size
        refine ⟨fun _ => G3, ?_⟩
        have F3 : Below w1.heap.size w1 V3 := E3.trans G3
        replace o3 : OwnL w1.heap.size v3 m.lines V3 := o3
        have Y3 := mf3_grown Z3 gr3 (fun q hq => by injection hq with hq; rw [← hq]; exact NE2)
        have NR : ∀ q, v3.ownBlock = some q → q ≠ gO := fun q hq e => by
          rcases at3 with h | h
          · rw [hq] at h; injection h with h; exact NE2 (h.symm.trans e)
          · rw [hq] at h; injection h with h; have := lt_of_cell Z3.1.1; omega
        obtain ⟨ax, cx, hvx, _, _, _⟩ := o3.readc
        rw [HE3.out] at hvx
        subst hvx
        have R3 := o3
        clear o3 gr3 at3 G3
        try simp only [Act.put, List.setIfInBounds_toArray, List.getElem_toArray, List.getElem_cons_succ, List.getElem_cons_zero, List.set_cons_succ, List.set_cons_zero]
        refine wpAnyW_take (sbOk w1.heap.size) (fuel := 0) [false, false, false, false, false, false, true] (by kernel_rfl) (by kernel_rfl) (by rfl) (by kernel_rfl) (by kernel_rfl) (by kernel_rfl) ?_
        apply Exists.intro
        refine ⟨fun x => ?_, ?_⟩
        · skip
          simp only [pickL]
          repeat (go_big_quiet_step (fail))
          exact wpQuiet_nil rfl
        refine wpAnyW_rest (by kernel_rfl) (fun u4x g4 => ?_)
        have E4 : Below w1.heap.size w1 u4x := nx F3 g4
        have T4 := R3.keep g4
        have Z4 := Y3.below g4
        obtain ⟨⟨z0, z1, z2⟩, zf⟩ := Z4
        refine wpAny_one (m := 8) (by kernel_rfl) ?_
        refine wpOp_at (o := _) (by rfl) (by rfl) ?_
        go_simp
        try simp only [Act.put]
        refine wpAny_end (by kernel_rfl) ?_ _
        try simp only [Act.put, List.setIfInBounds_toArray, List.set_cons_zero, List.set_cons_succ]
        go_wp2_with fail
        go_meet
        exact ⟨gO, ax, cx, rfl, outM_mk E4 T4 ⟨⟨z0, z1, z2⟩, zf⟩ GB NR⟩
    case rest =>
      obtain ⟨gO, ax, cx, rfl, hout⟩ := hcut
      have HOUT := Lib.hid hout
      clear hout Q2 D0
      go_wp2_with fail
      go_loopw [5] (fun i wr => ∃ (k : Nat) (acc : List (List UInt8)) (a3 : Option Addr) (c3 : Nat), k ≤ n1 ∧ i = .int .i64 k ∧ acc.length ≤ k ∧ nrm acc (m.to.drop k) = nrm [] m.to ∧ OutM w1 s1 (.slice a3 acc.length c3) acc (.slice ax n3 cx) m.lines gO wr) (fun i _ => n1 - (intOf i).toNat)
      case atStart => exact ⟨0, [], none, 0, Nat.zero_le _, rfl, Nat.le_refl _, by simp, HOUT.out⟩
      case round =>
        obtain ⟨k, acc, a3, c3, hk, rfl, hal, hnr, ho⟩ := hrel
        have HO := Lib.hid ho
        have HNR := Lib.hid hnr
        clear ho hnr
        obtain ⟨y0, y1, y2⟩ := HB.out _ HO.out.bel
        have HR3 : Hid (RdL wr a3 acc.length acc ∧ (a3 = none → c3 = 0)) := by
          obtain ⟨a', c', e, h1, _, h3, _⟩ := HO.out.tl.readc
          injection e with e1 _ e3
          subst e1 e3
          exact ⟨h1, h3⟩
        by_cases hlt : k < n1
        · have hkx : k < m.to.length := by have := HE1.out; omega
          obtain ⟨b, off, rfl, hbl, hcell⟩ := P1.out.2.resolve_left (by omega)
          have hblr : b < wr.heap.size := Nat.lt_of_lt_of_le (Nat.lt_of_lt_of_le hbl hb01.size) HO.out.bel.size
          have hc1 : wr.cell? ⟨b, off + k, none⟩ = some (.string (str m.to[k])) := by rw [below_at (nx hb01 HO.out.bel) hbl]; exact hcell k hkx
          have HC : Hid (∀ y : BelowT wr, Calls Tryd.prog 42 #[.slice a3 acc.length c3, .string (str m.to[k])] y.val fun e w' => e = .returned (.bool (acc.contains m.to[k])) ∧ Below y.val.heap.size y.val w') := fun y => l11Has_any a3 acc.length c3 acc m.to[k] y.val (HR3.out.1.below y.below) (by omega)
          have HIN := Lib.hid (nrm_in (acc := acc) hkx)
          have HNW := Lib.hid (nrm_new (acc := acc) hkx)
          have HSL : Hid ((str m.to[k]).data.toList = m.to[k]) := str_list _
          have hkn : (k : Int) < (n1 : Int) := by omega
          have hk0 : (0 : Int) ≤ (k : Int) := by omega
          have HPC : Hid (∀ u, Below wr.heap.size wr u → MK3 u w.heap.size (.string s1) (.slice (some ⟨b, off, none⟩) n1 c1) (.slice b1 n3 d1) ∧ u.cell? ⟨b, off + k, none⟩ = some (.string (str m.to[k]))) := fun u hu => ⟨HB.out u (nx HO.out.bel hu), (below_at hu hblr).trans hc1⟩
          clear hcell hc1
          generalize hq : acc.contains m.to[k] = q at *
          have HQ := Lib.hid hq
          clear hq
          generalize hzt : m.to[k] = t at *
          clear hzt
          generalize str t = z at *
          cases q
          · have HS : Hid (nrm (acc ++ [t]) (m.to.drop (k + 1)) = nrm [] m.to) := by show _ = _; rw [← HNW.out (by first | rfl | exact HQ.out)]; exact HNR.out
            go_wp2_with fail
            have zc0 := fun (y : BelowT wr) => (HPC.out _ y.below).1.1
            have zc1 := fun (y : BelowT wr) => (HPC.out _ y.below).1.2.1
            have zc2 := fun (y : BelowT wr) => (HPC.out _ y.below).2
            have zc3 := fun (y : BelowT wr) => (HO.out.below y.below).cells.1.2.1
            refine wp_region_quietB (W := wr) (by kernel_rfl) (by kernel_rfl) (Below.refl _ _) ?_
            repeat (go_big_quiet_step (first
              | (go_at_call 42; exact calls_belowT (HC.out _))))
            refine wpQuiet_nil ?_
            intro wz hwz
            obtain ⟨x9, rfl⟩ := hwz
            have hb9 := x9.below
            clear zc0 zc1 zc2 zc3 y0 y1 y2
            generalize x9.val = w9 at *
            go_wp2_with fail
            refine wp_region_tail (by kernel_rfl) ?_
            refine wpAny_tail (fuel := 8) (tf := 3) [8, 9, 10] (by kernel_rfl) ?_
            refine wpAnyZ_take (fuel := 1) [true, true, true, true, true, true, true] (by kernel_rfl) (by kernel_rfl) (by rfl) (by kernel_rfl) (by kernel_rfl) (by kernel_rfl) ?_
            apply Exists.intro
            refine ⟨fun x => ?_, ?_⟩
            · have zd0 := fun (y : BelowT x.val) => (HPC.out y.val (nx hb9 (nx ((Below.refl _ _).drew) (nx x.below y.below)))).1.1
              have zd1 := fun (y : BelowT x.val) => (HPC.out y.val (nx hb9 (nx ((Below.refl _ _).drew) (nx x.below y.below)))).1.2.1
              have zd2 := fun (y : BelowT x.val) => (HPC.out y.val (nx hb9 (nx ((Below.refl _ _).drew) (nx x.below y.below)))).2
              have zd3 := fun (y : BelowT x.val) => (HO.out.below (nx hb9 (nx ((Below.refl _ _).drew) (nx x.below y.below)))).cells.1.2.1
              simp only [pickL]
              repeat (go_big_quiet_step (fail))
              exact wpQuiet_nil rfl
            refine wpAnyZ_one (m := 7) (by kernel_rfl) (fun ua g1 => ?_)
            refine wpOp_at (o := _) (by rfl) (by rfl) ?_
            go_simp
            refine ⟨(Below.refl _ _).alloc (Nat.le_refl _) _, ?_⟩
            try simp only [Act.put, List.setIfInBounds_toArray, List.set_cons_zero, List.set_cons_succ]
            have ha1 : Below wr.heap.size wr ua := nx hb9 (nx ((Below.refl _ _).drew) g1)
            have hcx : (ua.alloc (.cells #[.string z] 9)).cell? ⟨ua.heap.size, 0, none⟩ = some (.string z) := cell_one _ _ _
            have ha2 : Below wr.heap.size wr (ua.alloc (.cells #[.string z] 9)) := nx ha1 ((Below.refl _ _).alloc (Nat.le_refl _) _)
            generalize ua.alloc (.cells #[.string z] 9) = V1 at *
            generalize ua.heap.size = X1 at hcx ⊢
            refine wpAnyZ_rest (by kernel_rfl) (fun ub g2 => ?_)
            have hOb := HO.out.below (nx ha2 g2)
            have hcy : RdL ub (some ⟨X1, 0, none⟩) 1 [t] := ⟨rfl, .inr ⟨X1, 0, rfl, Nat.lt_of_lt_of_le (lt_of_cell hcx) g2.size, fun i hi => by
              obtain rfl : i = 0 := by simpa using hi
              rw [Nat.add_zero, below_at g2 (lt_of_cell hcx), hcx]
              show some (Value.string z) = some (Value.string (str t))
              rw [← HSL.out, str_of]⟩⟩
            clear hcx g1 ha1 ha2
            refine wpAny_one (m := 8) (by kernel_rfl) ?_
            refine wpOp_at (o := _) (by rfl) (by rfl) ?_
            refine wp_append_H _ _ rfl w1.heap.size _ acc [t] (some ⟨X1, 0, none⟩) 1 1 rfl rfl hOb.tl hcy (fun e => by cases e) hOb.bel.size (by simp; omega) ?_
            intro v3 w3 ho3 gr3 at3
            have HN3 := Lib.hid (hOb.app ho3 gr3 at3)
            have hf3 := (mf3_grown hOb.cells gr3 hOb.o1)
            obtain ⟨⟨z0, z1, z2⟩, zf⟩ := hf3
            obtain ⟨a4, c4, rfl, _⟩ := ho3.readc
            clear ho3 gr3 at3 hOb hcy
            try simp only [Act.put, List.setIfInBounds_toArray]
            refine wpAny_one (m := 9) (by kernel_rfl) ?_
            refine wpOp_at (o := _) (by rfl) (by rfl) ?_
            go_simp
            try simp only [Act.put, List.setIfInBounds_toArray, List.set_cons_zero, List.set_cons_succ]
            refine wpAny_one (m := 10) (by kernel_rfl) ?_
            refine wpOp_at (o := _) (by rfl) (by rfl) ?_
            go_simp
            try simp only [Act.put]
            refine wpAny_end (by kernel_rfl) ?_ _
            clear z0 z1 z2 zf
            go_wp2
            go_roundw
            case rel => exact ⟨k + 1, acc ++ [t], a4, c4, by omega, by go_num, by simp; omega, HS.out, (by
                have h3 := HN3.out
                have hl3 : (acc ++ [t]).length = acc.length + 1 := by simp
                rw [hl3] at h3 ⊢
                exact h3)⟩
            case measure => simp [intOf]; omega
          · have HS : Hid (nrm acc (m.to.drop (k + 1)) = nrm [] m.to) := by show _ = _; rw [← HIN.out (by first | rfl | exact HQ.out)]; exact HNR.out
            go_wp2_with fail
            have zc0 := fun (y : BelowT wr) => (HPC.out _ y.below).1.1
            have zc1 := fun (y : BelowT wr) => (HPC.out _ y.below).1.2.1
            have zc2 := fun (y : BelowT wr) => (HPC.out _ y.below).2
            have zc3 := fun (y : BelowT wr) => (HO.out.below y.below).cells.1.2.1
            refine wp_region_quietB (W := wr) (by kernel_rfl) (by kernel_rfl) (Below.refl _ _) ?_
            repeat (go_big_quiet_step (first
              | (go_at_call 42; exact calls_belowT (HC.out _))))
            refine wpQuiet_nil ?_
            intro wz hwz
            obtain ⟨x9, rfl⟩ := hwz
            have HN3 := Lib.hid (HO.out.below x9.below)
            clear zc0 zc1 zc2 zc3 y0 y1 y2
            generalize x9.val = w9 at *
            go_wp2
            go_roundw
            case rel => exact ⟨k + 1, acc, a3, c3, by omega, by go_num, by omega, HS.out, HN3.out⟩
            case measure => simp [intOf]; omega
        · have HS : Hid (acc = nrm [] m.to) := by show _ = _; rw [← HNR.out, nrm_end (by have := HE1.out; omega)]
          have hlwr : w.heap.size + 2 ≤ w1.heap.size := by omega
          have hbx := nx hb01 HO.out.bel
          have HOO := Lib.hid HO.out
          generalize hL : acc.length = L at *
          have HL := Lib.hid hL
          clear hL
          obtain ⟨⟨z0, z1, z2⟩, zf⟩ := HOO.out.cells
          obtain ⟨⟨q0, q1', q2'⟩, qf⟩ := HZ1.out.below HOO.out.bel
          go_wp2
          refine bodyPost_ret (v := .tuple #[.agg #[.string s1, .slice a3 L c3, .slice ax n3 cx], .bool true]) (by simp [results, Tryd.results20, go_sem, q0, q1', q2']) rfl ?_
          exact HN.out _ a3 L c3 ax cx acc HS.out HL.out.symm ((((HOO.out.tl.off (g := w.heap.size + 1) (i := 0) (by omega) _).off (g := w.heap.size + 1) (i := 1) (by omega) _).off (g := w.heap.size + 1) (i := 2) (by omega) _).base (by omega)) ((((HOO.out.ln.off (g := w.heap.size + 1) (i := 0) (by omega) _).off (g := w.heap.size + 1) (i := 1) (by omega) _).off (g := w.heap.size + 1) (i := 2) (by omega) _).base (by omega)) HOO.out.ap (((hbx.setCell (by show w.heap.size ≤ w.heap.size + 1; omega) _).setCell (by show w.heap.size ≤ w.heap.size + 1; omega) _).setCell (by show w.heap.size ≤ w.heap.size + 1; omega) _)
end Go.Proofs.YtfiaankfmdpmkaaDoor
end
