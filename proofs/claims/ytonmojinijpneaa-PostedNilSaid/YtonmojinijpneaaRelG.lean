/- As wp_region_relV, but operations may be guarded: which of them are wanted is told ahead, and a guard's value tells so. -/
import Derived.Test.YtonmojinijpneaaRelV
namespace Go.Proofs.Ytonmojinijpneaa
open Go Go.RowKit
set_option linter.unusedVariables false
set_option linter.unusedSimpArgs false
section
variable {P : Program} {Q : Exit → Act → World → Prop}
/-- Closed facts of a region: no two operations have one slot; what an operation waits for stands ahead of it in the text; the slots that it reads, and its guard's, are those of what it waits for, or are no operation's. -/
def relGB (l : List Oper) : Bool :=
  (slotsOf l).Nodup &&
  ((List.range l.length).all fun i => (l[i]?.map fun o => (o.after.toList.all fun e => !Region.binds .any e || decide (e.on < i)) &&
    (o.op.operands.toList.all fun x => match x with
      | .tmp t => !(slotsOf l).contains t || o.after.toList.any fun e => Region.binds .any e && ((l[e.on]?).bind (·.dst) == some t)
      | _ => true) &&
    (match o.guard with
      | none => true
      | some (g, _) => ((l[g]?).bind (·.dst)).isSome && o.after.toList.any fun e => Region.binds .any e && e.on == g)).getD true)
structure RelGF (l : List Oper) : Prop where
  nodup : (slotsOf l).Nodup
  back : ∀ (i : Nat) (o : Oper), l[i]? = some o → ∀ e ∈ o.after, Region.binds .any e = true → e.on < i
  reads : ∀ (i : Nat) (o : Oper), l[i]? = some o → ∀ t, Operand.tmp t ∈ o.op.operands → t ∈ slotsOf l → ∃ e ∈ o.after, Region.binds .any e = true ∧ ∃ o', l[e.on]? = some o' ∧ o'.dst = some t
  guards : ∀ (i : Nat) (o : Oper), l[i]? = some o → ∀ g b, o.guard = some (g, b) → (∃ o' t, l[g]? = some o' ∧ o'.dst = some t) ∧ ∃ e ∈ o.after, Region.binds .any e = true ∧ e.on = g
theorem relGF {l : List Oper} (h : relGB l = true) : RelGF l := by
  unfold relGB at h
  simp only [Bool.and_eq_true, decide_eq_true_eq, List.all_eq_true] at h
  obtain ⟨h1, h3⟩ := h
  have get : ∀ (i : Nat) (o : Oper), l[i]? = some o → (∀ e ∈ o.after, Region.binds .any e = true → e.on < i) ∧ (∀ t, Operand.tmp t ∈ o.op.operands → t ∈ slotsOf l → ∃ e ∈ o.after, Region.binds .any e = true ∧ ∃ o', l[e.on]? = some o' ∧ o'.dst = some t) ∧ ∀ g b, o.guard = some (g, b) → (∃ o' t, l[g]? = some o' ∧ o'.dst = some t) ∧ ∃ e ∈ o.after, Region.binds .any e = true ∧ e.on = g := by
    intro i o ho
    have hl : i < l.length := (List.getElem?_eq_some_iff.1 ho).1
    have h4 := h3 i (List.mem_range.2 hl)
    rw [ho] at h4
    rw [Option.map_some, Option.getD_some, Bool.and_eq_true, Bool.and_eq_true, List.all_eq_true, List.all_eq_true] at h4
    refine ⟨fun e he hb => ?_, fun t ht hs => ?_, fun g b hg => ?_⟩
    · have h5 := h4.1.1 e (Array.mem_toList_iff.2 he)
      rw [hb] at h5
      simpa using h5
    · have h5 := h4.1.2 _ (Array.mem_toList_iff.2 ht)
      simp only [Bool.or_eq_true, Bool.not_eq_true', List.any_eq_true, Bool.and_eq_true, beq_iff_eq] at h5
      rcases h5 with h5 | ⟨e, he, hb, h6⟩
      · rw [List.contains_iff_mem.2 hs] at h5; cases h5
      · obtain ⟨o', h7, h8⟩ := Option.bind_eq_some_iff.1 h6
        exact ⟨e, Array.mem_toList_iff.1 he, hb, o', h7, h8⟩
    · have h5 := h4.2
      rw [hg] at h5
      simp only [Bool.and_eq_true, List.any_eq_true, beq_iff_eq] at h5
      obtain ⟨h6, e, he, hb, h7⟩ := h5
      obtain ⟨t, h8⟩ := Option.isSome_iff_exists.1 h6
      obtain ⟨o', h9, h10⟩ := Option.bind_eq_some_iff.1 h8
      exact ⟨⟨o', t, h9, h10⟩, e, Array.mem_toList_iff.1 he, hb, h7⟩
  exact ⟨h1, fun i o ho => (get i o ho).1, fun i o ho => (get i o ho).2.1, fun i o ho => (get i o ho).2.2⟩
theorem all_listedG {l : List Oper} (hF : RelGF l) {listed : Array Bool} (hs : listed.size = l.length) (h : Region.ready .any l.toArray listed = []) : ∀ i, i < l.length → listed.getD i false = true := by
  intro i
  induction i using Nat.strongRecOn with
  | _ i ih =>
    intro hi
    cases hc : listed.getD i false with
    | true => rfl
    | false =>
      exfalso
      have : i ∈ Region.ready .any l.toArray listed := ready_mem.2 ⟨l[i], List.getElem?_eq_getElem hi, by rw [getD_tf (by omega)]; exact hc, fun e he hb => by
        have := hF.back i _ (List.getElem?_eq_getElem hi) e he hb
        exact ih e.on this (by omega)⟩
      rw [h] at this
      cases this
theorem wpAny_relG (G : Nat → Bool) {R : Nat → Value → World → Prop} {K : World → World → Prop} {J : (Nat → Option Value) → World → Prop} (hR : ∀ t v w w', R t v w → K w w' → R t v w') (hK : ∀ w, K w w) {l : List Oper} {a0 : Act} (hF : RelGF l) (hs : ∀ t ∈ slotsOf l, t < a0.tmps.size)
    (hG0 : ∀ i o, l[i]? = some o → o.guard = none → G i = true)
    (hG : ∀ i o g b o' t u w, l[i]? = some o → o.guard = some (g, b) → l[g]? = some o' → o'.dst = some t → R t u w → (match u with | .bool c => decide (c = b) | _ => false) = G i)
    (step : ∀ i o, l[i]? = some o → G i = true → StepV P Q R K J l a0 i o)
    (skip : ∀ i o, l[i]? = some o → G i = false → ∀ V w, V i = none → J V w → (∀ t, o.dst = some t → R t undef w) ∧ J (setV V i undef) w)
    (fin : ∀ (f : Nat → Value) (V : Nat → Option Value) (w : World), (∀ i o, l[i]? = some o → V i = some (match o.dst with | some t => f t | none => undef)) → J V w → (∀ t ∈ slotsOf l, R t (f t) w) → Q .normal (putAll a0 f (slotsOf l)) w) :
    ∀ (fuel : Nat) (listed : Array Bool) (a : Act) (w : World), InvV R J l a0 listed a w → unl listed l.length ≤ fuel → wpAny P .any l.toArray Q fuel listed a w := by
  have finish : ∀ (listed : Array Bool) (a : Act) (w : World), InvV R J l a0 listed a w → (∀ i, i < l.length → listed.getD i false = true) → Q .normal a w := by
    intro listed a w I hall
    have h1 : ∀ t ∈ slotsOf l, R t (a.eval (.tmp t)) w := by
      intro t ht
      obtain ⟨o, ho, hd⟩ := List.mem_filterMap.1 ht
      obtain ⟨i, hi⟩ := List.getElem?_of_mem ho
      exact I.rel i o t hi (hall i (List.getElem?_eq_some_iff.1 hi).1) hd
    have h2 := fin (fun t => a.eval (.tmp t)) (valsOf l listed a) w (fun i o ho => by
      have hi := (List.getElem?_eq_some_iff.1 ho).1
      unfold valsOf
      rw [hall i hi, if_pos rfl, ho]
      rfl) I.st h1
    have e : putAll a0 (fun t => a.eval (.tmp t)) (slotsOf l) = a := by
      refine act_ext (by rw [putAll_size, I.tsize]) (by rw [putAll_defers, I.defers]) fun t => ?_
      by_cases ht : t ∈ slotsOf l
      · exact putAll_same _ _ _ _ ht (hs t ht)
      · rw [putAll_other _ _ _ _ ht]
        exact (I.same t fun i o ho _ hd => ht (mem_slots ho hd)).symm
    rwa [e] at h2
  intro fuel
  induction fuel with
  | zero =>
    intro listed a w I hu
    have hall := fun i hi => unl_zero (by omega : unl listed l.length = 0) i hi
    refine ⟨?_, finish listed a w I hall⟩
    rw [List.eq_nil_iff_forall_not_mem]
    intro i hi
    obtain ⟨o, ho, h1, _⟩ := ready_mem.1 hi
    have hl : i < l.length := (List.getElem?_eq_some_iff.1 ho).1
    rw [getD_tf (by rw [I.size]; exact hl), hall i hl] at h1
    cases h1
  | succ fuel ih =>
    intro listed a w I hu
    refine ⟨fun h => finish listed a w I (all_listedG hF I.size h), fun i hi => ?_⟩
    obtain ⟨o, ho, h1, h2⟩ := ready_mem.1 hi
    have hl : i < l.length := (List.getElem?_eq_some_iff.1 ho).1
    have hil : i < listed.size := by rw [I.size]; exact hl
    rw [getD_tf hil] at h1
    have hm : o ∈ l := List.mem_of_getElem? ho
    have ho' : l.toArray[i]? = some o := by simp [ho]
    have hw : Region.wanted o (yielded l.toArray a.tmps) = G i := by
      cases hgd : o.guard with
      | none =>
        rw [hG0 i o ho hgd]
        simp [Region.wanted, hgd]
      | some gb =>
        obtain ⟨g, b⟩ := gb
        obtain ⟨⟨o2, t, hg1, hg2⟩, e, he, hb, heg⟩ := hF.guards i o ho g b hgd
        have hlg := h2 e he hb
        rw [heg] at hlg
        have hr := I.rel g o2 t hg1 hlg hg2
        have h3 := hG i o g b o2 t _ w ho hgd hg1 hg2 hr
        have ht : t < a.tmps.size := by rw [I.tsize]; exact hs t (mem_slots hg1 hg2)
        rw [← h3]
        simp only [Region.wanted, hgd, yielded, List.getElem?_toArray, hg1, Option.bind_some, hg2, Act.eval, Array.getD_eq_getD_getElem?, Array.getElem?_eq_getElem ht, Option.getD_some]
        cases a.tmps[t] with
        | bool c => cases c <;> cases b <;> rfl
        | _ => rfl
    have after : ∀ (v : Value) (w' : World), (∀ t, o.dst = some t → R t v w') → K w w' → J (setV (valsOf l listed a) i (if o.dst.isSome then v else undef)) w' → wpAny P .any l.toArray Q fuel (listed.setIfInBounds i true) (a.put o.dst v) w' := by
      intro v w' hv hbw hjd
      have hD2 : setV (valsOf l listed a) i (if o.dst.isSome then v else undef) = valsOf l (listed.setIfInBounds i true) (a.put o.dst v) := by
        funext j
        unfold setV valsOf
        rw [set_getD _ _ _ hil]
        by_cases e : j = i
        · subst e
          rw [if_pos rfl, if_pos rfl, if_pos rfl, ho]
          simp only [Option.bind_some]
          cases hd0 : o.dst with
          | none => rfl
          | some t0 =>
            have ht0 : t0 < a.tmps.size := by rw [I.tsize]; exact hs t0 (mem_slots ho hd0)
            simp only [Option.isSome_some, if_true]
            rw [put_same ht0]
        · have e' : ¬ i = j := fun h => e h.symm
          rw [if_neg e, if_neg e']
          cases hl : listed.getD j false with
          | false => rfl
          | true =>
            rw [if_pos rfl, if_pos rfl]
            cases hj : l[j]? with
            | none => rfl
            | some o' =>
              simp only [Option.bind_some]
              cases hd : o'.dst with
              | none => rfl
              | some t =>
                cases hd0 : o.dst with
                | none => rw [put_none]
                | some t0 =>
                  have hne : t ≠ t0 := by
                    rintro rfl
                    exact e (slots_inj hF.nodup hj ho hd hd0)
                  simp only
                  rw [put_other hne]
      rw [hD2] at hjd
      refine ih _ _ _ ⟨by simp [I.size], hjd, by rw [put_size, I.tsize], ?_, fun t hn => ?_, fun j o' t hj hlj hd => ?_⟩ ?_
      · cases o.dst with
        | none => rw [put_none]; exact I.defers
        | some t0 => exact I.defers
      · have hold := I.same t fun j o' hj hlj => hn j o' hj (by rw [set_getD _ _ _ hil, hlj]; split <;> rfl)
        cases hd0 : o.dst with
        | none => rw [put_none]; exact hold
        | some t0 =>
          have hne : t ≠ t0 := by
            rintro rfl
            exact hn i o ho (by rw [set_getD _ _ _ hil, if_pos rfl]) hd0
          rw [put_other hne]
          exact hold
      · by_cases hij : i = j
        · subst hij
          obtain rfl : o = o' := Option.some.inj (ho.symm.trans hj)
          have ht0 : t < a.tmps.size := by rw [I.tsize]; exact hs t (mem_slots ho hd)
          rw [hd, put_same ht0]
          exact hv _ hd
        · rw [set_getD _ _ _ hil, if_neg hij] at hlj
          have hold := hR _ _ _ _ (I.rel j o' t hj hlj hd) hbw
          cases hd0 : o.dst with
          | none => rw [put_none]; exact hold
          | some t0 =>
            have hne : t ≠ t0 := by
              rintro rfl
              exact hij (slots_inj hF.nodup ho hj hd0 hd)
            rw [put_other hne]
            exact hold
      · have := unl_set listed i hil h1 l.length hl
        omega
    have hvi : valsOf l listed a i = none := by unfold valsOf; rw [h1]; rfl
    unfold wpOp
    rw [ho']
    simp only [hw]
    cases hgi : G i with
    | false =>
      obtain ⟨h3, h4⟩ := skip i o ho hgi (valsOf l listed a) w hvi I.st
      simp only [Bool.false_eq_true, if_false]
      exact after undef w h3 (hK w) (by cases o.dst <;> exact h4)
    | true =>
      simp only [if_true]
      refine .inl ?_
      have hst := step i o ho hgi (valsOf l listed a) a w hvi (fun e he hb => by unfold valsOf; rw [h2 e he hb]; rfl) (fun j o' t hj hd hs => by
        unfold valsOf at hs ⊢
        cases hl : listed.getD j false with
        | false => rw [hl] at hs; cases hs
        | true => rw [if_pos rfl, hj]; simp only [Option.bind_some, hd]) I.st (fun t ht => I.same t fun j o' hj _ hd => ht (mem_slots hj hd)) (fun t ht hop => by
        obtain ⟨e, he, hb, o', h3, h4⟩ := hF.reads i o ho t hop ht
        exact I.rel e.on o' t h3 (h2 e he hb) h4)
      refine Oper.wp_mono (fun a' w' h => ?_) hst
      obtain ⟨v, rfl, hv, hbw, hjd⟩ := h
      exact after v w' hv hbw hjd
/-- The region: G tells which operations are wanted; J knows which, by their places, are done, and with what values. -/
theorem wp_region_relG {id : Nat} (G : Nat → Bool) (R : Nat → Value → World → Prop) (K : World → World → Prop) (J : (Nat → Option Value) → World → Prop) {l : List Oper} {a0 : Act} {w0 : World} (hm : P.follows .mixedOrders = true) (hB : relGB l = true) (hs : ((slotsOf l).all fun t => decide (t < a0.tmps.size)) = true)
    (hR : ∀ t v w w', R t v w → K w w' → R t v w') (hK : ∀ w, K w w) (hJ0 : J (fun _ => none) w0.drew)
    (hG0 : ((List.range l.length).all fun i => (l[i]?.map fun o => o.guard.isSome || G i).getD true) = true)
    (hG : ∀ i o g b o' t u w, l[i]? = some o → o.guard = some (g, b) → l[g]? = some o' → o'.dst = some t → R t u w → (match u with | .bool c => decide (c = b) | _ => false) = G i)
    (step : ∀ i o, l[i]? = some o → G i = true → StepV P Q R K J l a0 i o)
    (skip : ∀ i o, l[i]? = some o → G i = false → ∀ V w, V i = none → J V w → (∀ t, o.dst = some t → R t undef w) ∧ J (setV V i undef) w)
    (fin : ∀ (f : Nat → Value) (V : Nat → Option Value) (w : World), (∀ i o, l[i]? = some o → V i = some (match o.dst with | some t => f t | none => undef)) → J V w → (∀ t ∈ slotsOf l, R t (f t) w) → Q .normal (putAll a0 f (slotsOf l)) w) :
    (Code.region id l.toArray true).wp P Q a0 w0 := by
  refine wp_region_any hm ?_
  have hs' : ∀ t ∈ slotsOf l, t < a0.tmps.size := fun t ht => by
    have := List.all_eq_true.1 hs t ht
    simpa using this
  have no : ∀ i, (Array.replicate l.toArray.size false).getD i false ≠ true := fun i hl => by
    rw [Array.getD_eq_getD_getElem?, Array.getElem?_replicate] at hl
    split at hl <;> simp at hl
  have hD0 : valsOf l (Array.replicate l.toArray.size false) a0 = fun _ => none := by
    funext i
    unfold valsOf
    rw [if_neg (no i)]
  have hG0' : ∀ i o, l[i]? = some o → o.guard = none → G i = true := fun i o ho hgd => by
    have hl : i < l.length := (List.getElem?_eq_some_iff.1 ho).1
    have h4 := List.all_eq_true.1 hG0 i (List.mem_range.2 hl)
    rw [ho, Option.map_some, Option.getD_some, hgd] at h4
    simpa using h4
  refine wpAny_relG G hR hK (relGF hB) hs' hG0' hG step skip fin _ _ _ _ ⟨by simp, by rw [hD0]; exact hJ0, rfl, rfl, fun _ _ => rfl, fun i o t ho hl => absurd hl (no i)⟩ ?_
  exact Nat.le_trans List.countP_le_length (by simp)
/-- All guards say yes: gs lists their slots and the values that are wanted. -/
def wantB (l : List Oper) (gs : List (Nat × Bool)) : Bool :=
  (List.range l.length).all fun i => (l[i]?.map fun o => match o.guard with
    | none => true
    | some (g, b) => gs.any fun p => (l[g]?).bind (·.dst) == some p.1 && p.2 == b).getD true
theorem wp_region_relGW {id : Nat} (gs : List (Nat × Bool)) (R : Nat → Value → World → Prop) (K : World → World → Prop) (J : (Nat → Option Value) → World → Prop) {l : List Oper} {a0 : Act} {w0 : World} (hm : P.follows .mixedOrders = true) (hB : relGB l = true) (hW : wantB l gs = true) (hs : ((slotsOf l).all fun t => decide (t < a0.tmps.size)) = true)
    (hR : ∀ t v w w', R t v w → K w w' → R t v w') (hK : ∀ w, K w w) (hJ0 : J (fun _ => none) w0.drew)
    (hG : ∀ p ∈ gs, ∀ u w, R p.1 u w → u = .bool p.2)
    (step : ∀ i o, l[i]? = some o → StepV P Q R K J l a0 i o)
    (fin : ∀ (f : Nat → Value) (V : Nat → Option Value) (w : World), (∀ i o, l[i]? = some o → V i = some (match o.dst with | some t => f t | none => undef)) → J V w → (∀ t ∈ slotsOf l, R t (f t) w) → Q .normal (putAll a0 f (slotsOf l)) w) :
    (Code.region id l.toArray true).wp P Q a0 w0 := by
  refine wp_region_relG (fun _ => true) R K J hm hB hs hR hK hJ0 (by
    rw [List.all_eq_true]
    intro i _
    cases l[i]? with
    | none => rfl
    | some o => simp) (fun i o g b o' t u w ho hg hg1 hd hr => ?_) (fun i o ho _ => step i o ho) (fun i o ho h => by cases h) fin
  have hl : i < l.length := (List.getElem?_eq_some_iff.1 ho).1
  have h4 := List.all_eq_true.1 hW i (List.mem_range.2 hl)
  rw [ho, Option.map_some, Option.getD_some, hg] at h4
  simp only [List.any_eq_true, Bool.and_eq_true, beq_iff_eq] at h4
  obtain ⟨p, hp, h5, h6⟩ := h4
  rw [hg1, Option.bind_some, hd] at h5
  have h7 : t = p.1 := Option.some.inj h5
  rw [h7] at hr
  rw [hG p hp u w hr, h6]
  simp
end
end Go.Proofs.Ytonmojinijpneaa
