import Derived.OrdersHeld
import Derived.Tactics
namespace Go.Proofs.YtploagfjajlloaaGreatDoor

/-- What is asked ahead of the last operation. -/
def lastQ (P : Program) (ops : Array Oper) (o : Oper) (Q : Exit → Act → World → Prop) : Exit → Act → World → Prop
  | .normal, a, w => wpList P ops Q [o] a w
  | e, a, w => Q e a w
theorem wp_lastQ {P : Program} {ops : Array Oper} {o oi : Oper} {Q : Exit → Act → World → Prop} {K K' : Act → World → Prop} {a : Act} {w : World} (h : oi.wp P a w K (lastQ P ops o Q)) (hK : ∀ a w, K a w → K' a w) : oi.wp P a w K' Q := by
  unfold Oper.wp at h ⊢
  generalize (execOp a.eval oi).run P w = r at *
  cases r with
  | ok n w' =>
    cases n <;> simp only [Oper.upon] at h ⊢
    case value u => exact hK _ _ h
    case skip => exact hK _ _ h
    case defer d => exact hK _ _ h
    case enter f args =>
      refine Calls.mono h fun e w'' he => ?_
      cases e with
      | returned u => exact hK _ _ he
      | panicked c => exact he
      | outgrown => exact he
    case row row args => exact Rows.mono h fun u w'' he => hK _ _ he
  | halt x w' =>
    cases x <;> simp only [Oper.upon] at h ⊢
    case panic u => exact h

section
variable {P : Program} {md : Region.Mode} {head : Array Oper} {o : Oper} {Q : Exit → Act → World → Prop}
theorem push_lt {i : Nat} {d : Bool} {l : Array Bool} (h : i < l.size) : (l.push false).getD i d = l.getD i d := by
  simp [Array.getD_eq_getD_getElem?, Array.getElem?_push, Nat.ne_of_lt h]
theorem push_last {d : Bool} {l : Array Bool} : (l.push false).getD l.size d = false := by simp [Array.getD_eq_getD_getElem?]
theorem ready_push {listed : Array Bool} (hs : listed.size = head.size) (hac : ∀ (i : Nat) oi, head[i]? = some oi → ∀ e ∈ oi.after, e.on < i) (hlast : ∀ e ∈ o.after, e.on < head.size) (j : Nat) :
    j ∈ Region.ready md (head.push o) (listed.push false) ↔ (j < head.size ∧ j ∈ Region.ready md head listed) ∨ (j = head.size ∧ ∀ e ∈ o.after, Region.binds md e = true → listed.getD e.on false = true) := by
  rw [mem_ready, mem_ready]
  rcases Nat.lt_trichotomy j head.size with h | h | h
  · have e1 : (head.push o)[j]? = head[j]? := by simp [Array.getElem?_push, Nat.ne_of_lt h]
    rw [e1, push_lt (by omega)]
    constructor
    · rintro ⟨h0, oj, hoj, h1⟩
      exact Or.inl ⟨h, h0, oj, hoj, fun e he hb => by
        have := hac j oj hoj e he
        rw [← h1 e he hb, push_lt (by omega)]⟩
    · rintro (⟨_, h0, oj, hoj, h1⟩ | ⟨h', _⟩)
      · exact ⟨h0, oj, hoj, fun e he hb => by
          have := hac j oj hoj e he
          rw [push_lt (by omega)]; exact h1 e he hb⟩
      · omega
  · subst h
    have e1 : (head.push o)[head.size]? = some o := by simp
    rw [e1]
    constructor
    · rintro ⟨_, oj, hoj, h1⟩
      obtain rfl := Option.some.inj hoj
      exact Or.inr ⟨rfl, fun e he hb => by
        have := hlast e he
        rw [← h1 e he hb, push_lt (by omega)]⟩
    · rintro (⟨h', _⟩ | ⟨_, h1⟩)
      · omega
      · refine ⟨by rw [← hs]; exact push_last, o, rfl, fun e he hb => ?_⟩
        have := hlast e he
        rw [push_lt (by omega)]; exact h1 e he hb
  · have e1 : (head.push o)[j]? = none := by simp; omega
    rw [e1]
    constructor
    · rintro ⟨_, oj, hoj, _⟩; cases hoj
    · rintro (⟨h', _⟩ | ⟨h', _⟩) <;> omega
theorem all_listed {listed : Array Bool} (hs : listed.size = head.size) (hac : ∀ (i : Nat) oi, head[i]? = some oi → ∀ e ∈ oi.after, e.on < i) (hr : Region.ready md head listed = []) : ∀ i, i < head.size → listed.getD i false = true := by
  intro i
  induction i using Nat.strongRecOn with
  | ind i ih =>
    intro hi
    cases hb : listed.getD i false with
    | true => rfl
    | false =>
      exfalso
      have : i ∈ Region.ready md head listed := mem_ready.2 ⟨by
        rw [← hb]; simp [Array.getD_eq_getD_getElem?, show i < listed.size by omega], head[i], by simp [hi], fun e he _ => ih e.on (hac i _ (by simp [hi]) e he) (by have := hac i _ (by simp [hi] : head[i]? = some head[i]) e he; omega)⟩
      rw [hr] at this; cases this
theorem full_ready {listed : Array Bool} (hs : listed.size = head.size) (hall : ∀ i, i < head.size → listed.getD i false = true) : Region.ready md (head.push o) ((listed.push false).setIfInBounds head.size true) = [] := by
  rw [List.eq_nil_iff_forall_not_mem]
  intro j hj
  obtain ⟨h0, oj, hoj, _⟩ := mem_ready.1 hj
  have hj' : j < head.size + 1 := by have := (Array.getElem?_eq_some_iff.1 hoj).1; simpa using this
  by_cases h : j = head.size
  · subst h
    simp [Array.getD_eq_getD_getElem?, hs] at h0
  · have := hall j (by omega)
    rw [getD_set_ne true (Ne.symm h), push_lt (by omega)] at h0
    simp [Array.getD_eq_getD_getElem?, show j < listed.size by omega] at this h0
    rw [this] at h0; cases h0

theorem wpAny_last (hg : ∀ (i : Nat) oi, head[i]? = some oi → oi.guard = none) (hac : ∀ (i : Nat) oi, head[i]? = some oi → ∀ e ∈ oi.after, e.on < i) (hlast : ∀ e ∈ o.after, e.on < head.size)
    (hw : ∀ i, i < head.size → (∃ e ∈ o.after, Region.binds md e = true ∧ e.on = i) ∨ ∃ (j : Nat) (oj : Oper), head[j]? = some oj ∧ (∃ e ∈ o.after, Region.binds md e = true ∧ e.on = j) ∧ ∃ e ∈ oj.after, Region.binds md e = true ∧ e.on = i) :
    ∀ (fuel : Nat) (listed : Array Bool) (a : Act) (w : World), listed.size = head.size →
      (∀ (i : Nat) oi, head[i]? = some oi → listed.getD i false = true → ∀ e ∈ oi.after, Region.binds md e = true → listed.getD e.on false = true) →
      wpAny P md head (lastQ P (head.push o) o Q) fuel listed a w → wpAny P md (head.push o) Q (fuel + 1) (listed.push false) a w := by
  have hon : (head.push o)[head.size]? = some o := by simp
  have done : ∀ (fuel : Nat) (listed : Array Bool) (a : Act) (w : World), listed.size = head.size → Region.ready md head listed = [] → wpList P (head.push o) Q [o] a w → wpAny P md (head.push o) Q (fuel + 1) (listed.push false) a w := fun fuel listed a w hs hr hq => by
    have hall := all_listed hs hac hr
    refine ⟨fun h => ?_, fun i hi => ?_⟩
    · have : head.size ∈ Region.ready md (head.push o) (listed.push false) := (ready_push hs hac hlast _).2 (Or.inr ⟨rfl, fun e he _ => hall _ (hlast e he)⟩)
      rw [h] at this; cases this
    · rcases (ready_push hs hac hlast i).1 hi with ⟨_, h⟩ | ⟨rfl, _⟩
      · rw [hr] at h; cases h
      · have hq' : wpOp P (head.push o) Q head.size (fun a w => Q .normal a w) a w := by
          unfold wpOp; rw [hon]; exact hq
        refine wpOp_mono (fun a' w' h => ?_) hq'
        have hf := full_ready (md := md) (o := o) hs hall
        cases fuel with
        | zero => exact ⟨hf, h⟩
        | succ fuel => exact ⟨fun _ => h, fun i hi => by rw [hf] at hi; cases hi⟩
  intro fuel
  induction fuel with
  | zero => intro listed a w hs _ H; exact done 0 listed a w hs H.1 H.2
  | succ fuel ih =>
    intro listed a w hs hcl H
    by_cases hr : Region.ready md head listed = []
    · exact done _ listed a w hs hr (H.1 hr)
    · refine ⟨fun h => ?_, fun i hi => ?_⟩
      · obtain ⟨j, hj⟩ := List.exists_mem_of_ne_nil _ hr
        have hjn : j < head.size := by obtain ⟨_, oj, hoj, _⟩ := mem_ready.1 hj; exact (Array.getElem?_eq_some_iff.1 hoj).1
        have := (ready_push (md := md) hs hac hlast j).2 (Or.inl ⟨hjn, hj⟩)
        rw [h] at this; cases this
      · rcases (ready_push hs hac hlast i).1 hi with ⟨hin, hri⟩ | ⟨rfl, hno⟩
        · have hH := H.2 i hri
          obtain ⟨hun, oi, hoi, hed⟩ := mem_ready.1 hri
          have hpi : (head.push o)[i]? = some oi := by rw [← hoi]; simp [Array.getElem?_push, Nat.ne_of_lt hin]
          unfold wpOp at hH ⊢
          rw [hoi] at hH
          rw [hpi]
          have hwn : ∀ y, Region.wanted oi y = true := fun y => by simp [Region.wanted, hg i oi hoi]
          simp only [hwn, if_true] at hH ⊢
          have hK : ∀ a w, wpAny P md head (lastQ P (head.push o) o Q) fuel (listed.setIfInBounds i true) a w → wpAny P md (head.push o) Q (fuel + 1) ((listed.push false).setIfInBounds i true) a w := fun a w h => by
            have e : (listed.push false).setIfInBounds i true = (listed.setIfInBounds i true).push false := by
              apply Array.ext_getElem?
              intro k
              have hil : i < listed.size := by omega
              simp only [Array.getElem?_setIfInBounds, Array.getElem?_push, Array.size_setIfInBounds, Array.size_push]
              by_cases c1 : i = k
              · subst c1; simp [hil, Nat.ne_of_lt hil, show i < listed.size + 1 by omega]
              · simp [c1]
            rw [e]
            refine ih (listed.setIfInBounds i true) a w (by simpa using hs) (fun j oj hoj hl e he hb => ?_) h
            by_cases hij : i = j
            · subst hij
              obtain rfl := Option.some.inj (hoi.symm.trans hoj)
              exact getD_set_true (hed e he hb)
            · rw [getD_set_ne false hij] at hl
              exact getD_set_true (hcl j oj hoj hl e he hb)
          rcases hH with hH | ⟨h1, h2⟩
          · exact Or.inl (wp_lastQ hH hK)
          · exact Or.inr ⟨h1, h2⟩
        · exfalso
          apply hr
          rw [List.eq_nil_iff_forall_not_mem]
          intro j hj
          obtain ⟨hun, oj, hoj, _⟩ := mem_ready.1 hj
          have hjn : j < head.size := (Array.getElem?_eq_some_iff.1 hoj).1
          have hl : listed.getD j false = true := by
            rcases hw j hjn with ⟨e, he, hb, rfl⟩ | ⟨k, ok, hok, ⟨e, he, hb, rfl⟩, e', he', hb', rfl⟩
            · exact hno e he hb
            · exact hcl _ ok hok (hno e he hb) e' he' hb'
          simp [Array.getD_eq_getD_getElem?, show j < listed.size by omega] at hl hun
          rw [hl] at hun; cases hun
end

/-- All that the law asks of the operations, as one Bool. -/
def lastB (head : Array Oper) (o : Oper) : Bool :=
  (List.range head.size).all (fun i => match head[i]? with
    | some oi => oi.guard.isNone && oi.after.all (fun e => decide (e.on < i)) && (o.after.any (fun e => Region.binds .any e && e.on == i) || (List.range head.size).any fun j => match head[j]? with
        | some oj => o.after.any (fun e => Region.binds .any e && e.on == j) && oj.after.any (fun e => Region.binds .any e && e.on == i)
        | none => false)
    | none => false) && o.after.all fun e => decide (e.on < head.size)
theorem lastB_spec {head : Array Oper} {o : Oper} (h : lastB head o = true) : (∀ (i : Nat) oi, head[i]? = some oi → oi.guard = none) ∧ (∀ (i : Nat) oi, head[i]? = some oi → ∀ e ∈ oi.after, e.on < i) ∧ (∀ e ∈ o.after, e.on < head.size) ∧
    (∀ i, i < head.size → (∃ e ∈ o.after, Region.binds .any e = true ∧ e.on = i) ∨ ∃ (j : Nat) (oj : Oper), head[j]? = some oj ∧ (∃ e ∈ o.after, Region.binds .any e = true ∧ e.on = j) ∧ ∃ e ∈ oj.after, Region.binds .any e = true ∧ e.on = i) := by
  unfold lastB at h
  rw [Bool.and_eq_true, List.all_eq_true] at h
  obtain ⟨h, hl⟩ := h
  have key : ∀ (i : Nat) oi, head[i]? = some oi → oi.guard = none ∧ (∀ e ∈ oi.after, e.on < i) ∧ ((∃ e ∈ o.after, Region.binds .any e = true ∧ e.on = i) ∨ ∃ (j : Nat) (oj : Oper), head[j]? = some oj ∧ (∃ e ∈ o.after, Region.binds .any e = true ∧ e.on = j) ∧ ∃ e ∈ oj.after, Region.binds .any e = true ∧ e.on = i) := fun i oi hoi => by
    have hi : i < head.size := (Array.getElem?_eq_some_iff.1 hoi).1
    have := h i (List.mem_range.2 hi)
    rw [hoi] at this
    simp only [Bool.and_eq_true, Bool.or_eq_true] at this
    obtain ⟨⟨h1, h2⟩, h3⟩ := this
    refine ⟨Option.isNone_iff_eq_none.1 h1, fun e he => ?_, ?_⟩
    · exact of_decide_eq_true (Array.all_eq_true_iff_forall_mem.1 h2 e he)
    · rcases h3 with h3 | h3
      · obtain ⟨e, he, hb⟩ := Array.any_eq_true'.1 h3
        simp only [Bool.and_eq_true, beq_iff_eq] at hb
        exact Or.inl ⟨e, he, hb⟩
      · obtain ⟨j, _, hj⟩ := List.any_eq_true.1 h3
        cases hoj : head[j]? with
        | none => rw [hoj] at hj; cases hj
        | some oj =>
          rw [hoj] at hj
          simp only [Bool.and_eq_true] at hj
          obtain ⟨e, he, hb⟩ := Array.any_eq_true'.1 hj.1
          obtain ⟨e', he', hb'⟩ := Array.any_eq_true'.1 hj.2
          simp only [Bool.and_eq_true, beq_iff_eq] at hb hb'
          exact Or.inr ⟨j, oj, hoj, ⟨e, he, hb⟩, e', he', hb'⟩
  refine ⟨fun i oi h => (key i oi h).1, fun i oi h => (key i oi h).2.1, fun e he => of_decide_eq_true (Array.all_eq_true_iff_forall_mem.1 hl e he), fun i hi => (key i head[i] (by simp [hi])).2.2⟩
theorem wp_region_last {P : Program} {id : Nat} {l : List Oper} {o : Oper} {Q : Exit → Act → World → Prop} {a : Act} {w : World} {S : World → Prop} (hm : P.follows .mixedOrders = true) (hl : l.getLast? = some o) (hB : lastB l.dropLast.toArray o = true)
    (h : wpAnyH P .any l.dropLast.toArray (lastQ P l.toArray o Q) S l.dropLast.length (Array.replicate l.dropLast.length false) a w.drew) : (Code.region id l.toArray true).wp P Q a w := by
  obtain ⟨h1, h2, h3, h4⟩ := lastB_spec hB
  have hpush : l.toArray = l.dropLast.toArray.push o := by
    rw [List.push_toArray]
    congr 1
    have hne : l ≠ [] := fun e => by subst e; cases hl
    rw [List.getLast?_eq_some_getLast hne] at hl
    obtain rfl := Option.some.inj hl
    exact (List.dropLast_concat_getLast hne).symm
  refine wp_region_any hm ?_
  rw [hpush] at h ⊢
  have hw := wpAny_last h1 h2 h3 h4 _ _ _ _ (by simp) (fun i oi _ hf => by simp [Array.getD_eq_getD_getElem?, Array.getElem?_replicate] at hf; split at hf <;> simp at hf) (wpAny_of_held _ _ _ _ h)
  have e1 : (l.dropLast.toArray.push o).size = l.dropLast.length + 1 := by simp
  have e2 : Array.replicate (l.dropLast.length + 1) false = (Array.replicate l.dropLast.length false).push false := by simp [Array.replicate_succ]
  rw [e1, e2]; exact hw
end Go.Proofs.YtploagfjajlloaaGreatDoor
