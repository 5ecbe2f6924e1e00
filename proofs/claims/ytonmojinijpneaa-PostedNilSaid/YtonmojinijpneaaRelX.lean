/- As wp_region_relS, but an operation may have no slot (a store): what is done is told by the operations' places in the region; and a step is told that what it waits for is done. -/
import Derived.Test.YtonmojinijpneaaRel
namespace Go.Proofs.Ytonmojinijpneaa
open Go Go.RowKit
set_option linter.unusedVariables false
set_option linter.unusedSimpArgs false
section
variable {P : Program} {Q : Exit → Act → World → Prop}
/-- Closed facts of a region: no guard; no two operations have one slot; what an operation waits for stands ahead of it in the text; the slots that it reads are those of what it waits for, or are no operation's. -/
def relXB (l : List Oper) : Bool :=
  (slotsOf l).Nodup && (l.all fun o => o.guard.isNone) &&
  ((List.range l.length).all fun i => (l[i]?.map fun o => (o.after.toList.all fun e => !Region.binds .any e || decide (e.on < i)) &&
    (o.op.operands.toList.all fun x => match x with
      | .tmp t => !(slotsOf l).contains t || o.after.toList.any fun e => Region.binds .any e && ((l[e.on]?).bind (·.dst) == some t)
      | _ => true)).getD true)
structure RelXF (l : List Oper) : Prop where
  nodup : (slotsOf l).Nodup
  each : ∀ o ∈ l, o.guard = none
  back : ∀ (i : Nat) (o : Oper), l[i]? = some o → ∀ e ∈ o.after, Region.binds .any e = true → e.on < i
  reads : ∀ (i : Nat) (o : Oper), l[i]? = some o → ∀ t, Operand.tmp t ∈ o.op.operands → t ∈ slotsOf l → ∃ e ∈ o.after, Region.binds .any e = true ∧ ∃ o', l[e.on]? = some o' ∧ o'.dst = some t
theorem relXF {l : List Oper} (h : relXB l = true) : RelXF l := by
  unfold relXB at h
  simp only [Bool.and_eq_true, decide_eq_true_eq, List.all_eq_true, Option.isNone_iff_eq_none] at h
  obtain ⟨⟨h1, h2⟩, h3⟩ := h
  have get : ∀ (i : Nat) (o : Oper), l[i]? = some o → (∀ e ∈ o.after, Region.binds .any e = true → e.on < i) ∧ ∀ t, Operand.tmp t ∈ o.op.operands → t ∈ slotsOf l → ∃ e ∈ o.after, Region.binds .any e = true ∧ ∃ o', l[e.on]? = some o' ∧ o'.dst = some t := by
    intro i o ho
    have hl : i < l.length := (List.getElem?_eq_some_iff.1 ho).1
    have h4 := h3 i (List.mem_range.2 hl)
    rw [ho] at h4
    rw [Option.map_some, Option.getD_some, Bool.and_eq_true, List.all_eq_true, List.all_eq_true] at h4
    refine ⟨fun e he hb => ?_, fun t ht hs => ?_⟩
    · have h5 := h4.1 e (Array.mem_toList_iff.2 he)
      rw [hb] at h5
      simpa using h5
    · have h5 := h4.2 _ (Array.mem_toList_iff.2 ht)
      simp only [Bool.or_eq_true, Bool.not_eq_true', List.any_eq_true, Bool.and_eq_true, beq_iff_eq] at h5
      rcases h5 with h5 | ⟨e, he, hb, h6⟩
      · rw [List.contains_iff_mem.2 hs] at h5; cases h5
      · obtain ⟨o', h7, h8⟩ := Option.bind_eq_some_iff.1 h6
        exact ⟨e, Array.mem_toList_iff.1 he, hb, o', h7, h8⟩
  exact ⟨h1, h2, fun i o ho => (get i o ho).1, fun i o ho => (get i o ho).2⟩
theorem all_listedX {l : List Oper} (hF : RelXF l) {listed : Array Bool} (hs : listed.size = l.length) (h : Region.ready .any l.toArray listed = []) : ∀ i, i < l.length → listed.getD i false = true := by
  intro i
  induction i using Nat.strongRecOn with
  | _ i ih =>
    intro hi
    cases hc : listed.getD i false with
    | true => rfl
    | false =>
      exfalso
      have : i ∈ Region.ready .any l.toArray listed := ready_mem.2 ⟨l[i], List.getElem?_eq_getElem hi, by rw [getD_tf (by omega)]; exact hc, fun e he hb => by
        have := hF.back i _ (List.getElem?_eq_getElem hi) e he hb
        exact ih e.on this (by omega)⟩
      rw [h] at this
      cases this
/-- What is owed of the operation at a place. -/
def StepX (P : Program) (Q : Exit → Act → World → Prop) (R : Nat → Value → World → Prop) (K : World → World → Prop) (J : (Nat → Prop) → World → Prop) (l : List Oper) (a0 : Act) (i : Nat) (o : Oper) : Prop :=
  ∀ (D : Nat → Prop) (a : Act) (w : World), ¬ D i → (∀ e ∈ o.after, Region.binds .any e = true → D e.on) → J D w → (∀ t, t ∉ slotsOf l → a.eval (.tmp t) = a0.eval (.tmp t)) → (∀ t, t ∈ slotsOf l → Operand.tmp t ∈ o.op.operands → R t (a.eval (.tmp t)) w) →
    o.wp P a w (fun a' w' => ∃ v, a' = a.put o.dst v ∧ (∀ t, o.dst = some t → R t v w') ∧ K w w' ∧ J (fun j => D j ∨ j = i) w') Q
structure InvX (R : Nat → Value → World → Prop) (J : (Nat → Prop) → World → Prop) (l : List Oper) (a0 : Act) (listed : Array Bool) (a : Act) (w : World) : Prop where
  size : listed.size = l.length
  st : J (fun i => listed.getD i false = true) w
  tsize : a.tmps.size = a0.tmps.size
  defers : a.defers = a0.defers
  same : ∀ t, (∀ i o, l[i]? = some o → listed.getD i false = true → o.dst ≠ some t) → a.eval (.tmp t) = a0.eval (.tmp t)
  rel : ∀ i o t, l[i]? = some o → listed.getD i false = true → o.dst = some t → R t (a.eval (.tmp t)) w
theorem put_none {a : Act} {v : Value} : a.put none v = a := by simp [Act.put]
theorem wpAny_relX {R : Nat → Value → World → Prop} {K : World → World → Prop} {J : (Nat → Prop) → World → Prop} (hR : ∀ t v w w', R t v w → K w w' → R t v w') {l : List Oper} {a0 : Act} (hF : RelXF l) (hs : ∀ t ∈ slotsOf l, t < a0.tmps.size)
    (step : ∀ i o, l[i]? = some o → StepX P Q R K J l a0 i o) (fin : ∀ (f : Nat → Value) (w : World), J (fun i => i < l.length) w → (∀ t ∈ slotsOf l, R t (f t) w) → Q .normal (putAll a0 f (slotsOf l)) w) :
    ∀ (fuel : Nat) (listed : Array Bool) (a : Act) (w : World), InvX R J l a0 listed a w → unl listed l.length ≤ fuel → wpAny P .any l.toArray Q fuel listed a w := by
  have finish : ∀ (listed : Array Bool) (a : Act) (w : World), InvX R J l a0 listed a w → (∀ i, i < l.length → listed.getD i false = true) → Q .normal a w := by
    intro listed a w I hall
    have h1 : ∀ t ∈ slotsOf l, R t (a.eval (.tmp t)) w := by
      intro t ht
      obtain ⟨o, ho, hd⟩ := List.mem_filterMap.1 ht
      obtain ⟨i, hi⟩ := List.getElem?_of_mem ho
      exact I.rel i o t hi (hall i (List.getElem?_eq_some_iff.1 hi).1) hd
    have hD : (fun i => listed.getD i false = true) = fun i => i < l.length := by
      funext i
      refine propext ⟨fun h => ?_, hall i⟩
      rcases Nat.lt_or_ge i l.length with h2 | h2
      · exact h2
      · rw [Array.getD_eq_getD_getElem?, Array.getElem?_eq_none (by rw [I.size]; exact h2)] at h
        cases h
    have h2 := fin (fun t => a.eval (.tmp t)) w (hD ▸ I.st) h1
    have e : putAll a0 (fun t => a.eval (.tmp t)) (slotsOf l) = a := by
      refine act_ext (by rw [putAll_size, I.tsize]) (by rw [putAll_defers, I.defers]) fun t => ?_
      by_cases ht : t ∈ slotsOf l
      · exact putAll_same _ _ _ _ ht (hs t ht)
      · rw [putAll_other _ _ _ _ ht]
        exact (I.same t fun i o ho _ hd => ht (mem_slots ho hd)).symm
    rwa [e] at h2
  intro fuel
  induction fuel with
  | zero =>
    intro listed a w I hu
    have hall := fun i hi => unl_zero (by omega : unl listed l.length = 0) i hi
    refine ⟨?_, finish listed a w I hall⟩
    rw [List.eq_nil_iff_forall_not_mem]
    intro i hi
    obtain ⟨o, ho, h1, _⟩ := ready_mem.1 hi
    have hl : i < l.length := (List.getElem?_eq_some_iff.1 ho).1
    rw [getD_tf (by rw [I.size]; exact hl), hall i hl] at h1
    cases h1
  | succ fuel ih =>
    intro listed a w I hu
    refine ⟨fun h => finish listed a w I (all_listedX hF I.size h), fun i hi => ?_⟩
    obtain ⟨o, ho, h1, h2⟩ := ready_mem.1 hi
    have hl : i < l.length := (List.getElem?_eq_some_iff.1 ho).1
    have hil : i < listed.size := by rw [I.size]; exact hl
    rw [getD_tf hil] at h1
    have hm : o ∈ l := List.mem_of_getElem? ho
    have hg := hF.each o hm
    have ho' : l.toArray[i]? = some o := by simp [ho]
    have hw : Region.wanted o (yielded l.toArray a.tmps) = true := by simp [Region.wanted, hg]
    unfold wpOp
    rw [ho']
    simp only [hw, if_true]
    refine .inl ?_
    have hst := step i o ho (fun j => listed.getD j false = true) a w (by rw [h1]; decide) h2 I.st (fun t ht => I.same t fun j o' hj _ hd => ht (mem_slots hj hd)) (fun t ht hop => by
      obtain ⟨e, he, hb, o', h3, h4⟩ := hF.reads i o ho t hop ht
      exact I.rel e.on o' t h3 (h2 e he hb) h4)
    refine Oper.wp_mono (fun a' w' h => ?_) hst
    obtain ⟨v, rfl, hv, hbw, hjd⟩ := h
    have hD2 : (fun j => listed.getD j false = true ∨ j = i) = fun j => (listed.setIfInBounds i true).getD j false = true := by
      funext j
      rw [set_getD _ _ _ hil]
      refine propext ⟨fun h => ?_, fun h => ?_⟩
      · rcases h with h | rfl
        · rw [h]; split <;> rfl
        · rw [if_pos rfl]
      · by_cases e : i = j
        · exact .inr e.symm
        · rw [if_neg e] at h; exact .inl h
    rw [hD2] at hjd
    refine ih _ _ _ ⟨by simp [I.size], hjd, by rw [put_size, I.tsize], ?_, fun t hn => ?_, fun j o' t hj hlj hd => ?_⟩ ?_
    · cases o.dst with
      | none => rw [put_none]; exact I.defers
      | some t0 => exact I.defers
    · have hold := I.same t fun j o' hj hlj => hn j o' hj (by rw [set_getD _ _ _ hil, hlj]; split <;> rfl)
      cases hd0 : o.dst with
      | none => rw [put_none]; exact hold
      | some t0 =>
        have hne : t ≠ t0 := by
          rintro rfl
          exact hn i o ho (by rw [set_getD _ _ _ hil, if_pos rfl]) hd0
        rw [put_other hne]
        exact hold
    · by_cases hij : i = j
      · subst hij
        obtain rfl : o = o' := Option.some.inj (ho.symm.trans hj)
        have ht0 : t < a.tmps.size := by rw [I.tsize]; exact hs t (mem_slots ho hd)
        rw [hd, put_same ht0]
        exact hv _ hd
      · rw [set_getD _ _ _ hil, if_neg hij] at hlj
        have hold := hR _ _ _ _ (I.rel j o' t hj hlj hd) hbw
        cases hd0 : o.dst with
        | none => rw [put_none]; exact hold
        | some t0 =>
          have hne : t ≠ t0 := by
            rintro rfl
            exact hij (slots_inj hF.nodup ho hj hd0 hd)
          rw [put_other hne]
          exact hold
    · have := unl_set listed i hil h1 l.length hl
      omega
/-- The region: J knows which operations, by their places, are done. -/
theorem wp_region_relX {id : Nat} (R : Nat → Value → World → Prop) (K : World → World → Prop) (J : (Nat → Prop) → World → Prop) {l : List Oper} {a0 : Act} {w0 : World} (hm : P.follows .mixedOrders = true) (hB : relXB l = true) (hs : ((slotsOf l).all fun t => decide (t < a0.tmps.size)) = true)
    (hR : ∀ t v w w', R t v w → K w w' → R t v w') (hJ0 : J (fun _ => False) w0.drew)
    (step : ∀ i o, l[i]? = some o → StepX P Q R K J l a0 i o) (fin : ∀ (f : Nat → Value) (w : World), J (fun i => i < l.length) w → (∀ t ∈ slotsOf l, R t (f t) w) → Q .normal (putAll a0 f (slotsOf l)) w) :
    (Code.region id l.toArray true).wp P Q a0 w0 := by
  refine wp_region_any hm ?_
  have hs' : ∀ t ∈ slotsOf l, t < a0.tmps.size := fun t ht => by
    have := List.all_eq_true.1 hs t ht
    simpa using this
  have no : ∀ i, (Array.replicate l.toArray.size false).getD i false ≠ true := fun i hl => by
    rw [Array.getD_eq_getD_getElem?, Array.getElem?_replicate] at hl
    split at hl <;> simp at hl
  have hD0 : (fun i => (Array.replicate l.toArray.size false).getD i false = true) = fun _ => False := by
    funext i
    exact propext ⟨fun h => no i h, fun h => h.elim⟩
  refine wpAny_relX hR (relXF hB) hs' step fin _ _ _ _ ⟨by simp, by rw [hD0]; exact hJ0, rfl, rfl, fun _ _ => rfl, fun i o t ho hl => absurd hl (no i)⟩ ?_
  exact Nat.le_trans List.countP_le_length (by simp)
end
end Go.Proofs.Ytonmojinijpneaa
