/- A region that draws its order, whose operations may make memory and call what lays blocks: one fact an operation, on what it leaves in its slot, that stands in every later world; each operation is looked at once. -/
import Derived.Test.YtonmojinijpneaaBase
import Derived.Orders
namespace Go.Proofs.Ytonmojinijpneaa
open Go Go.RowKit
set_option linter.unusedVariables false
set_option linter.unusedSimpArgs false
section
variable {P : Program} {Q : Exit → Act → World → Prop}
def slotsOf (l : List Oper) : List Nat := l.filterMap (·.dst)
/-- Closed facts of a region: every operation has a slot of its own and no guard; what it waits for stands ahead of it in the text; the slots that it reads are those of what it waits for, or are no operation's. -/
def relB (l : List Oper) : Bool :=
  (slotsOf l).Nodup && (l.all fun o => o.dst.isSome && o.guard.isNone) &&
  ((List.range l.length).all fun i => (l[i]?.map fun o => (o.after.toList.all fun e => !Region.binds .any e || decide (e.on < i)) &&
    (o.op.operands.toList.all fun x => match x with
      | .tmp t => !(slotsOf l).contains t || o.after.toList.any fun e => Region.binds .any e && ((l[e.on]?).bind (·.dst) == some t)
      | _ => true)).getD true)
/-- What is owed of one operation. -/
def StepR (P : Program) (Q : Exit → Act → World → Prop) (R : Nat → Value → World → Prop) (l : List Oper) (a0 : Act) (w0 : World) (o : Oper) : Prop :=
  ∀ (a : Act) (w : World), Below w0.heap.size w0 w → (∀ t, t ∉ slotsOf l → a.eval (.tmp t) = a0.eval (.tmp t)) → (∀ t, t ∈ slotsOf l → Operand.tmp t ∈ o.op.operands → R t (a.eval (.tmp t)) w) →
    o.wp P a w (fun a' w' => ∃ v, a' = a.put o.dst v ∧ (∀ t, o.dst = some t → R t v w') ∧ Below w.heap.size w w') Q
/-- The state behind some of the operations. -/
structure InvR (R : Nat → Value → World → Prop) (l : List Oper) (a0 : Act) (w0 : World) (listed : Array Bool) (a : Act) (w : World) : Prop where
  size : listed.size = l.length
  below : Below w0.heap.size w0 w
  tsize : a.tmps.size = a0.tmps.size
  defers : a.defers = a0.defers
  same : ∀ t, (∀ i o, l[i]? = some o → listed.getD i false = true → o.dst ≠ some t) → a.eval (.tmp t) = a0.eval (.tmp t)
  rel : ∀ i o t, l[i]? = some o → listed.getD i false = true → o.dst = some t → R t (a.eval (.tmp t)) w
theorem put_same {a : Act} {t : Nat} {v : Value} (h : t < a.tmps.size) : (a.put (some t) v).eval (.tmp t) = v := by
  simp [Act.put, Act.eval, h]
theorem put_other {a : Act} {t s : Nat} {v : Value} (h : s ≠ t) : (a.put (some t) v).eval (.tmp s) = a.eval (.tmp s) := by
  simp [Act.put, Act.eval, Array.getElem?_setIfInBounds, h.symm]
theorem put_size {a : Act} {t : Option Nat} {v : Value} : (a.put t v).tmps.size = a.tmps.size := by
  cases t <;> simp [Act.put]
theorem mem_slots {l : List Oper} {i : Nat} {o : Oper} {t : Nat} (h : l[i]? = some o) (ht : o.dst = some t) : t ∈ slotsOf l :=
  List.mem_filterMap.2 ⟨o, List.mem_of_getElem? h, ht⟩
theorem slots_inj : ∀ {l : List Oper}, (slotsOf l).Nodup → ∀ {i j : Nat} {o o' : Oper} {t : Nat}, l[i]? = some o → l[j]? = some o' → o.dst = some t → o'.dst = some t → i = j
  | [], _, i, j, o, o', t, h, _, _, _ => by simp at h
  | x :: l, hn, i, j, o, o', t, h, h', ht, ht' => by
    have hn' : (slotsOf l).Nodup := by
      unfold slotsOf at hn ⊢
      rw [List.filterMap_cons] at hn
      split at hn
      · exact hn
      · exact (List.nodup_cons.1 hn).2
    cases i with
    | zero =>
      cases j with
      | zero => rfl
      | succ j =>
        exfalso
        simp only [List.getElem?_cons_zero, Option.some.injEq, List.getElem?_cons_succ] at h h'
        subst h
        unfold slotsOf at hn
        rw [List.filterMap_cons, ht] at hn
        exact (List.nodup_cons.1 hn).1 (mem_slots h' ht')
    | succ i =>
      cases j with
      | zero =>
        exfalso
        simp only [List.getElem?_cons_zero, Option.some.injEq, List.getElem?_cons_succ] at h h'
        subst h'
        unfold slotsOf at hn
        rw [List.filterMap_cons, ht'] at hn
        exact (List.nodup_cons.1 hn).1 (mem_slots h ht)
      | succ j =>
        simp only [List.getElem?_cons_succ] at h h'
        rw [slots_inj hn' h h' ht ht']
/-- The frame behind all operations. -/
def putAll (a0 : Act) (f : Nat → Value) (l : List Nat) : Act := l.foldl (fun a t => a.put (some t) (f t)) a0
theorem putAll_size (f : Nat → Value) : ∀ (l : List Nat) (a : Act), (putAll a f l).tmps.size = a.tmps.size
  | [], a => rfl
  | t :: l, a => by rw [putAll, List.foldl_cons]; exact (putAll_size f l _).trans put_size
theorem putAll_defers (f : Nat → Value) : ∀ (l : List Nat) (a : Act), (putAll a f l).defers = a.defers
  | [], a => rfl
  | t :: l, a => by rw [putAll, List.foldl_cons]; exact (putAll_defers f l _).trans rfl
theorem putAll_other (f : Nat → Value) : ∀ (l : List Nat) (a : Act) (s : Nat), s ∉ l → (putAll a f l).eval (.tmp s) = a.eval (.tmp s)
  | [], a, s, _ => rfl
  | t :: l, a, s, h => by
    rw [putAll, List.foldl_cons]
    exact (putAll_other f l _ s fun h' => h (List.mem_cons_of_mem _ h')).trans (put_other fun e => h (by rw [e]; exact List.mem_cons_self))
theorem putAll_same (f : Nat → Value) : ∀ (l : List Nat) (a : Act) (s : Nat), s ∈ l → s < a.tmps.size → (putAll a f l).eval (.tmp s) = f s
  | t :: l, a, s, h, hs => by
    rw [putAll, List.foldl_cons]
    by_cases hm : s ∈ l
    · exact putAll_same f l _ s hm (by rw [put_size]; exact hs)
    · obtain rfl : s = t := by exact (List.mem_cons.1 h).resolve_right hm
      exact (putAll_other f l _ s hm).trans (put_same hs)
theorem act_ext {a b : Act} (hs : a.tmps.size = b.tmps.size) (hd : a.defers = b.defers) (h : ∀ t, a.eval (.tmp t) = b.eval (.tmp t)) : a = b := by
  obtain ⟨x, dx⟩ := a
  obtain ⟨y, dy⟩ := b
  simp only at hs hd
  subst hd
  congr 1
  apply Array.ext hs
  intro i h1 h2
  have := h i
  simp only [Act.eval, Array.getD_eq_getD_getElem?] at this
  rw [Array.getElem?_eq_getElem h1, Array.getElem?_eq_getElem h2] at this
  simpa using this
theorem set_getD (x : Array Bool) (i j : Nat) (hi : i < x.size) : (x.setIfInBounds i true).getD j false = if i = j then true else x.getD j false := by
  simp only [Array.getD_eq_getD_getElem?, Array.getElem?_setIfInBounds]
  by_cases h : i = j
  · subst h; simp [hi]
  · simp [h]
def unl (x : Array Bool) (n : Nat) : Nat := (List.range n).countP fun i => !x.getD i false
theorem unl_set (x : Array Bool) (i : Nat) (hi : i < x.size) (h : x.getD i false = false) : ∀ n, i < n → unl (x.setIfInBounds i true) n + 1 = unl x n
  | 0, hn => absurd hn (Nat.not_lt_zero _)
  | n + 1, hn => by
    unfold unl
    rw [List.range_succ, List.countP_append, List.countP_append]
    by_cases e : i = n
    · subst e
      have h1 : (List.range i).countP (fun k => !(x.setIfInBounds i true).getD k false) = (List.range i).countP (fun k => !x.getD k false) := by
        apply List.countP_congr
        intro k hk
        have hk' := List.mem_range.1 hk
        rw [set_getD x i k hi, if_neg (by omega)]
      have e1 : [i].countP (fun k => !(x.setIfInBounds i true).getD k false) = 0 := by
        rw [List.countP_eq_zero]
        intro k hk
        obtain rfl : k = i := by simpa using hk
        rw [set_getD x k k hi, if_pos rfl]
        decide
      have e2 : [i].countP (fun k => !x.getD k false) = 1 := by
        rw [List.countP_cons, List.countP_nil, h]
        rfl
      rw [h1, e1, e2]
    · have ih := unl_set x i hi h n (by omega)
      unfold unl at ih
      have h2 : [n].countP (fun k => !(x.setIfInBounds i true).getD k false) = [n].countP (fun k => !x.getD k false) := by
        apply List.countP_congr
        intro k hk
        obtain rfl : k = n := by simpa using hk
        rw [set_getD x i k hi, if_neg e]
      rw [h2]
      omega
theorem unl_zero {x : Array Bool} {n : Nat} (h : unl x n = 0) (i : Nat) (hi : i < n) : x.getD i false = true := by
  unfold unl at h
  rw [List.countP_eq_zero] at h
  have := h i (List.mem_range.2 hi)
  simpa using this
theorem ready_mem {l : List Oper} {listed : Array Bool} {i : Nat} : i ∈ Region.ready .any l.toArray listed ↔ ∃ o, l[i]? = some o ∧ listed.getD i true = false ∧ ∀ e ∈ o.after, Region.binds .any e = true → listed.getD e.on false = true := by
  unfold Region.ready
  rw [List.mem_filter, List.mem_range]
  constructor
  · rintro ⟨h1, h2⟩
    have hl : i < l.length := by simpa using h1
    have ho : l[i]? = some l[i] := List.getElem?_eq_getElem hl
    have ho' : l.toArray[i]? = some l[i] := by simp [ho]
    rw [ho'] at h2
    simp only [Bool.and_eq_true, Bool.not_eq_true', Option.map_some, Option.getD_some, Array.all_eq_true_iff_forall_mem] at h2
    refine ⟨_, ho, h2.1, fun e he hb => ?_⟩
    have := h2.2 e he
    rw [hb] at this
    simpa using this
  · rintro ⟨o, ho, h1, h2⟩
    have hl : i < l.length := (List.getElem?_eq_some_iff.1 ho).1
    have ho' : l.toArray[i]? = some o := by simp [ho]
    refine ⟨by simp; exact hl, ?_⟩
    rw [ho']
    simp only [Bool.and_eq_true, Bool.not_eq_true', Option.map_some, Option.getD_some, Array.all_eq_true_iff_forall_mem]
    refine ⟨h1, fun e he => ?_⟩
    cases hb : Region.binds .any e with
    | false => rfl
    | true => simp [h2 e he hb]
theorem getD_tf {x : Array Bool} {i : Nat} (h : i < x.size) : x.getD i true = x.getD i false := by
  simp [Array.getD_eq_getD_getElem?, Array.getElem?_eq_getElem h]
structure RelF (l : List Oper) : Prop where
  nodup : (slotsOf l).Nodup
  each : ∀ o ∈ l, (∃ t, o.dst = some t) ∧ o.guard = none
  back : ∀ (i : Nat) (o : Oper), l[i]? = some o → ∀ e ∈ o.after, Region.binds .any e = true → e.on < i
  reads : ∀ (i : Nat) (o : Oper), l[i]? = some o → ∀ t, Operand.tmp t ∈ o.op.operands → t ∈ slotsOf l → ∃ e ∈ o.after, Region.binds .any e = true ∧ ∃ o', l[e.on]? = some o' ∧ o'.dst = some t
theorem relF {l : List Oper} (h : relB l = true) : RelF l := by
  unfold relB at h
  simp only [Bool.and_eq_true, decide_eq_true_eq, List.all_eq_true, Option.isSome_iff_exists, Option.isNone_iff_eq_none] at h
  obtain ⟨⟨h1, h2⟩, h3⟩ := h
  have get : ∀ (i : Nat) (o : Oper), l[i]? = some o → (∀ e ∈ o.after, Region.binds .any e = true → e.on < i) ∧ ∀ t, Operand.tmp t ∈ o.op.operands → t ∈ slotsOf l → ∃ e ∈ o.after, Region.binds .any e = true ∧ ∃ o', l[e.on]? = some o' ∧ o'.dst = some t := by
    intro i o ho
    have hl : i < l.length := (List.getElem?_eq_some_iff.1 ho).1
    have h4 := h3 i (List.mem_range.2 hl)
    rw [ho] at h4
    rw [Option.map_some, Option.getD_some, Bool.and_eq_true, List.all_eq_true, List.all_eq_true] at h4
    refine ⟨fun e he hb => ?_, fun t ht hs => ?_⟩
    · have h5 := h4.1 e (Array.mem_toList_iff.2 he)
      rw [hb] at h5
      simpa using h5
    · have h5 := h4.2 _ (Array.mem_toList_iff.2 ht)
      simp only [Bool.or_eq_true, Bool.not_eq_true', List.any_eq_true, Bool.and_eq_true, beq_iff_eq] at h5
      rcases h5 with h5 | ⟨e, he, hb, h6⟩
      · rw [List.contains_iff_mem.2 hs] at h5; cases h5
      · obtain ⟨o', h7, h8⟩ := Option.bind_eq_some_iff.1 h6
        exact ⟨e, Array.mem_toList_iff.1 he, hb, o', h7, h8⟩
  exact ⟨h1, h2, fun i o ho => (get i o ho).1, fun i o ho => (get i o ho).2⟩
theorem all_listed {l : List Oper} (hF : RelF l) {listed : Array Bool} (hs : listed.size = l.length) (h : Region.ready .any l.toArray listed = []) : ∀ i, i < l.length → listed.getD i false = true := by
  intro i
  induction i using Nat.strongRecOn with
  | _ i ih =>
    intro hi
    cases hc : listed.getD i false with
    | true => rfl
    | false =>
      exfalso
      have : i ∈ Region.ready .any l.toArray listed := ready_mem.2 ⟨l[i], List.getElem?_eq_getElem hi, by rw [getD_tf (by omega)]; exact hc, fun e he hb => by
        have := hF.back i _ (List.getElem?_eq_getElem hi) e he hb
        exact ih e.on this (by omega)⟩
      rw [h] at this
      cases this
theorem wpAny_rel {R : Nat → Value → World → Prop} (hR : ∀ t v w w', R t v w → Below w.heap.size w w' → R t v w') {l : List Oper} {a0 : Act} {w0 : World} (hF : RelF l) (hs : ∀ t ∈ slotsOf l, t < a0.tmps.size)
    (step : ∀ o ∈ l, StepR P Q R l a0 w0 o) (fin : ∀ (f : Nat → Value) (w : World), Below w0.heap.size w0 w → (∀ t ∈ slotsOf l, R t (f t) w) → Q .normal (putAll a0 f (slotsOf l)) w) :
    ∀ (fuel : Nat) (listed : Array Bool) (a : Act) (w : World), InvR R l a0 w0 listed a w → unl listed l.length ≤ fuel → wpAny P .any l.toArray Q fuel listed a w := by
  have finish : ∀ (listed : Array Bool) (a : Act) (w : World), InvR R l a0 w0 listed a w → (∀ i, i < l.length → listed.getD i false = true) → Q .normal a w := by
    intro listed a w I hall
    have h1 : ∀ t ∈ slotsOf l, R t (a.eval (.tmp t)) w := by
      intro t ht
      obtain ⟨o, ho, hd⟩ := List.mem_filterMap.1 ht
      obtain ⟨i, hi⟩ := List.getElem?_of_mem ho
      exact I.rel i o t hi (hall i (List.getElem?_eq_some_iff.1 hi).1) hd
    have h2 := fin (fun t => a.eval (.tmp t)) w I.below h1
    have e : putAll a0 (fun t => a.eval (.tmp t)) (slotsOf l) = a := by
      refine act_ext (by rw [putAll_size, I.tsize]) (by rw [putAll_defers, I.defers]) fun t => ?_
      by_cases ht : t ∈ slotsOf l
      · exact putAll_same _ _ _ _ ht (hs t ht)
      · rw [putAll_other _ _ _ _ ht]
        exact (I.same t fun i o ho _ hd => ht (mem_slots ho hd)).symm
    rwa [e] at h2
  intro fuel
  induction fuel with
  | zero =>
    intro listed a w I hu
    have hall := fun i hi => unl_zero (by omega : unl listed l.length = 0) i hi
    refine ⟨?_, finish listed a w I hall⟩
    rw [List.eq_nil_iff_forall_not_mem]
    intro i hi
    obtain ⟨o, ho, h1, _⟩ := ready_mem.1 hi
    have hl : i < l.length := (List.getElem?_eq_some_iff.1 ho).1
    rw [getD_tf (by rw [I.size]; exact hl), hall i hl] at h1
    cases h1
  | succ fuel ih =>
    intro listed a w I hu
    refine ⟨fun h => finish listed a w I (all_listed hF I.size h), fun i hi => ?_⟩
    obtain ⟨o, ho, h1, h2⟩ := ready_mem.1 hi
    have hl : i < l.length := (List.getElem?_eq_some_iff.1 ho).1
    have hil : i < listed.size := by rw [I.size]; exact hl
    rw [getD_tf hil] at h1
    have hm : o ∈ l := List.mem_of_getElem? ho
    obtain ⟨⟨t0, hd0⟩, hg⟩ := hF.each o hm
    have ho' : l.toArray[i]? = some o := by simp [ho]
    have hw : Region.wanted o (yielded l.toArray a.tmps) = true := by simp [Region.wanted, hg]
    unfold wpOp
    rw [ho']
    simp only [hw, if_true]
    refine .inl ?_
    have hst := step o hm a w I.below (fun t ht => I.same t fun j o' hj _ hd => ht (mem_slots hj hd)) (fun t ht hop => by
      obtain ⟨e, he, hb, o', h3, h4⟩ := hF.reads i o ho t hop ht
      exact I.rel e.on o' t h3 (h2 e he hb) h4)
    refine Oper.wp_mono (fun a' w' h => ?_) hst
    obtain ⟨v, rfl, hv, hbw⟩ := h
    have ht0 : t0 < a.tmps.size := by rw [I.tsize]; exact hs t0 (mem_slots ho hd0)
    refine ih _ _ _ ⟨by simp [I.size], I.below.trans (hbw.mono I.below.size), by rw [put_size, I.tsize], by rw [hd0]; exact I.defers, fun t hn => ?_, fun j o' t hj hlj hd => ?_⟩ ?_
    · have hne : t ≠ t0 := by
        rintro rfl
        exact hn i o ho (by rw [set_getD _ _ _ hil, if_pos rfl]) hd0
      rw [hd0, put_other hne]
      exact I.same t fun j o' hj hlj => hn j o' hj (by rw [set_getD _ _ _ hil, hlj]; split <;> rfl)
    · by_cases hij : i = j
      · subst hij
        obtain rfl : o = o' := Option.some.inj (ho.symm.trans hj)
        obtain rfl : t0 = t := Option.some.inj (hd0.symm.trans hd)
        rw [hd0, put_same ht0]
        exact hv _ hd0
      · rw [set_getD _ _ _ hil, if_neg hij] at hlj
        have hne : t ≠ t0 := by
          rintro rfl
          exact hij (slots_inj hF.nodup ho hj hd0 hd)
        rw [hd0, put_other hne]
        exact hR _ _ _ _ (I.rel j o' t hj hlj hd) hbw
    · have := unl_set listed i hil h1 l.length hl
      omega
/-- The region. -/
theorem wp_region_rel {id : Nat} (R : Nat → Value → World → Prop) {l : List Oper} {a0 : Act} {w0 : World} (hm : P.follows .mixedOrders = true) (hB : relB l = true) (hs : ((slotsOf l).all fun t => decide (t < a0.tmps.size)) = true)
    (hR : ∀ t v w w', R t v w → Below w.heap.size w w' → R t v w')
    (step : ∀ o ∈ l, StepR P Q R l a0 w0 o) (fin : ∀ (f : Nat → Value) (w : World), Below w0.heap.size w0 w → (∀ t ∈ slotsOf l, R t (f t) w) → Q .normal (putAll a0 f (slotsOf l)) w) :
    (Code.region id l.toArray true).wp P Q a0 w0 := by
  refine wp_region_any hm ?_
  have hs' : ∀ t ∈ slotsOf l, t < a0.tmps.size := fun t ht => by
    have := List.all_eq_true.1 hs t ht
    simpa using this
  refine wpAny_rel hR (relF hB) hs' step fin _ _ _ _ ⟨by simp, (Below.refl _ _).drew, rfl, rfl, fun _ _ => rfl, fun i o t ho hl => ?_⟩ ?_
  · exfalso
    rw [Array.getD_eq_getD_getElem?, Array.getElem?_replicate] at hl
    split at hl <;> simp at hl
  · exact Nat.le_trans List.countP_le_length (by simp)
end
end Go.Proofs.Ytonmojinijpneaa
