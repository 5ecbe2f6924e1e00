/- As wp_region_relX, but the state of the world knows the values, too, that the operations that are done left in their slots. -/
import Derived.Test.YtonmojinijpneaaRelX
namespace Go.Proofs.Ytonmojinijpneaa
open Go Go.RowKit
set_option linter.unusedVariables false
set_option linter.unusedSimpArgs false
section
variable {P : Program} {Q : Exit → Act → World → Prop}
/-- The values of what is done, by places. -/
def valsOf (l : List Oper) (listed : Array Bool) (a : Act) (i : Nat) : Option Value := if listed.getD i false then some (match (l[i]?).bind (·.dst) with | some t => a.eval (.tmp t) | none => undef) else none
def setV (V : Nat → Option Value) (i : Nat) (v : Value) : Nat → Option Value := fun j => if j = i then some v else V j
/-- What is owed of the operation at a place. -/
def StepV (P : Program) (Q : Exit → Act → World → Prop) (R : Nat → Value → World → Prop) (K : World → World → Prop) (J : (Nat → Option Value) → World → Prop) (l : List Oper) (a0 : Act) (i : Nat) (o : Oper) : Prop :=
  ∀ (V : Nat → Option Value) (a : Act) (w : World), V i = none → (∀ e ∈ o.after, Region.binds .any e = true → (V e.on).isSome = true) → (∀ j o' t, l[j]? = some o' → o'.dst = some t → (V j).isSome = true → V j = some (a.eval (.tmp t))) → J V w → (∀ t, t ∉ slotsOf l → a.eval (.tmp t) = a0.eval (.tmp t)) → (∀ t, t ∈ slotsOf l → Operand.tmp t ∈ o.op.operands → R t (a.eval (.tmp t)) w) →
    o.wp P a w (fun a' w' => ∃ v, a' = a.put o.dst v ∧ (∀ t, o.dst = some t → R t v w') ∧ K w w' ∧ J (setV V i (if o.dst.isSome then v else undef)) w') Q
structure InvV (R : Nat → Value → World → Prop) (J : (Nat → Option Value) → World → Prop) (l : List Oper) (a0 : Act) (listed : Array Bool) (a : Act) (w : World) : Prop where
  size : listed.size = l.length
  st : J (valsOf l listed a) w
  tsize : a.tmps.size = a0.tmps.size
  defers : a.defers = a0.defers
  same : ∀ t, (∀ i o, l[i]? = some o → listed.getD i false = true → o.dst ≠ some t) → a.eval (.tmp t) = a0.eval (.tmp t)
  rel : ∀ i o t, l[i]? = some o → listed.getD i false = true → o.dst = some t → R t (a.eval (.tmp t)) w
theorem wpAny_relV {R : Nat → Value → World → Prop} {K : World → World → Prop} {J : (Nat → Option Value) → World → Prop} (hR : ∀ t v w w', R t v w → K w w' → R t v w') {l : List Oper} {a0 : Act} (hF : RelXF l) (hs : ∀ t ∈ slotsOf l, t < a0.tmps.size)
    (step : ∀ i o, l[i]? = some o → StepV P Q R K J l a0 i o) (fin : ∀ (f : Nat → Value) (V : Nat → Option Value) (w : World), (∀ i o, l[i]? = some o → V i = some (match o.dst with | some t => f t | none => undef)) → J V w → (∀ t ∈ slotsOf l, R t (f t) w) → Q .normal (putAll a0 f (slotsOf l)) w) :
    ∀ (fuel : Nat) (listed : Array Bool) (a : Act) (w : World), InvV R J l a0 listed a w → unl listed l.length ≤ fuel → wpAny P .any l.toArray Q fuel listed a w := by
  have finish : ∀ (listed : Array Bool) (a : Act) (w : World), InvV R J l a0 listed a w → (∀ i, i < l.length → listed.getD i false = true) → Q .normal a w := by
    intro listed a w I hall
    have h1 : ∀ t ∈ slotsOf l, R t (a.eval (.tmp t)) w := by
      intro t ht
      obtain ⟨o, ho, hd⟩ := List.mem_filterMap.1 ht
      obtain ⟨i, hi⟩ := List.getElem?_of_mem ho
      exact I.rel i o t hi (hall i (List.getElem?_eq_some_iff.1 hi).1) hd
    have h2 := fin (fun t => a.eval (.tmp t)) (valsOf l listed a) w (fun i o ho => by
      have hi := (List.getElem?_eq_some_iff.1 ho).1
      unfold valsOf
      rw [hall i hi, if_pos rfl, ho]
      rfl) I.st h1
    have e : putAll a0 (fun t => a.eval (.tmp t)) (slotsOf l) = a := by
      refine act_ext (by rw [putAll_size, I.tsize]) (by rw [putAll_defers, I.defers]) fun t => ?_
      by_cases ht : t ∈ slotsOf l
      · exact putAll_same _ _ _ _ ht (hs t ht)
      · rw [putAll_other _ _ _ _ ht]
        exact (I.same t fun i o ho _ hd => ht (mem_slots ho hd)).symm
    rwa [e] at h2
  intro fuel
  induction fuel with
  | zero =>
    intro listed a w I hu
    have hall := fun i hi => unl_zero (by omega : unl listed l.length = 0) i hi
    refine ⟨?_, finish listed a w I hall⟩
    rw [List.eq_nil_iff_forall_not_mem]
    intro i hi
    obtain ⟨o, ho, h1, _⟩ := ready_mem.1 hi
    have hl : i < l.length := (List.getElem?_eq_some_iff.1 ho).1
    rw [getD_tf (by rw [I.size]; exact hl), hall i hl] at h1
    cases h1
  | succ fuel ih =>
    intro listed a w I hu
    refine ⟨fun h => finish listed a w I (all_listedX hF I.size h), fun i hi => ?_⟩
    obtain ⟨o, ho, h1, h2⟩ := ready_mem.1 hi
    have hl : i < l.length := (List.getElem?_eq_some_iff.1 ho).1
    have hil : i < listed.size := by rw [I.size]; exact hl
    rw [getD_tf hil] at h1
    have hm : o ∈ l := List.mem_of_getElem? ho
    have hg := hF.each o hm
    have ho' : l.toArray[i]? = some o := by simp [ho]
    have hw : Region.wanted o (yielded l.toArray a.tmps) = true := by simp [Region.wanted, hg]
    unfold wpOp
    rw [ho']
    simp only [hw, if_true]
    refine .inl ?_
    have hst := step i o ho (valsOf l listed a) a w (by unfold valsOf; rw [h1]; rfl) (fun e he hb => by unfold valsOf; rw [h2 e he hb]; rfl) (fun j o' t hj hd hs => by
      unfold valsOf at hs ⊢
      cases hl : listed.getD j false with
      | false => rw [hl] at hs; cases hs
      | true => rw [if_pos rfl, hj]; simp only [Option.bind_some, hd]) I.st (fun t ht => I.same t fun j o' hj _ hd => ht (mem_slots hj hd)) (fun t ht hop => by
      obtain ⟨e, he, hb, o', h3, h4⟩ := hF.reads i o ho t hop ht
      exact I.rel e.on o' t h3 (h2 e he hb) h4)
    refine Oper.wp_mono (fun a' w' h => ?_) hst
    obtain ⟨v, rfl, hv, hbw, hjd⟩ := h
    have hD2 : setV (valsOf l listed a) i (if o.dst.isSome then v else undef) = valsOf l (listed.setIfInBounds i true) (a.put o.dst v) := by
      funext j
      unfold setV valsOf
      rw [set_getD _ _ _ hil]
      by_cases e : j = i
      · subst e
        rw [if_pos rfl, if_pos rfl, if_pos rfl, ho]
        simp only [Option.bind_some]
        cases hd0 : o.dst with
        | none => rfl
        | some t0 =>
          have ht0 : t0 < a.tmps.size := by rw [I.tsize]; exact hs t0 (mem_slots ho hd0)
          simp only [Option.isSome_some, if_true]
          rw [put_same ht0]
      · have e' : ¬ i = j := fun h => e h.symm
        rw [if_neg e, if_neg e']
        cases hl : listed.getD j false with
        | false => rfl
        | true =>
          rw [if_pos rfl, if_pos rfl]
          cases hj : l[j]? with
          | none => rfl
          | some o' =>
            simp only [Option.bind_some]
            cases hd : o'.dst with
            | none => rfl
            | some t =>
              cases hd0 : o.dst with
              | none => rw [put_none]
              | some t0 =>
                have hne : t ≠ t0 := by
                  rintro rfl
                  exact e (slots_inj hF.nodup hj ho hd hd0)
                simp only
                rw [put_other hne]
    rw [hD2] at hjd
    refine ih _ _ _ ⟨by simp [I.size], hjd, by rw [put_size, I.tsize], ?_, fun t hn => ?_, fun j o' t hj hlj hd => ?_⟩ ?_
    · cases o.dst with
      | none => rw [put_none]; exact I.defers
      | some t0 => exact I.defers
    · have hold := I.same t fun j o' hj hlj => hn j o' hj (by rw [set_getD _ _ _ hil, hlj]; split <;> rfl)
      cases hd0 : o.dst with
      | none => rw [put_none]; exact hold
      | some t0 =>
        have hne : t ≠ t0 := by
          rintro rfl
          exact hn i o ho (by rw [set_getD _ _ _ hil, if_pos rfl]) hd0
        rw [put_other hne]
        exact hold
    · by_cases hij : i = j
      · subst hij
        obtain rfl : o = o' := Option.some.inj (ho.symm.trans hj)
        have ht0 : t < a.tmps.size := by rw [I.tsize]; exact hs t (mem_slots ho hd)
        rw [hd, put_same ht0]
        exact hv _ hd
      · rw [set_getD _ _ _ hil, if_neg hij] at hlj
        have hold := hR _ _ _ _ (I.rel j o' t hj hlj hd) hbw
        cases hd0 : o.dst with
        | none => rw [put_none]; exact hold
        | some t0 =>
          have hne : t ≠ t0 := by
            rintro rfl
            exact hij (slots_inj hF.nodup ho hj hd0 hd)
          rw [put_other hne]
          exact hold
    · have := unl_set listed i hil h1 l.length hl
      omega
/-- The region: J knows which operations, by their places, are done, and with what values. -/
theorem wp_region_relV {id : Nat} (R : Nat → Value → World → Prop) (K : World → World → Prop) (J : (Nat → Option Value) → World → Prop) {l : List Oper} {a0 : Act} {w0 : World} (hm : P.follows .mixedOrders = true) (hB : relXB l = true) (hs : ((slotsOf l).all fun t => decide (t < a0.tmps.size)) = true)
    (hR : ∀ t v w w', R t v w → K w w' → R t v w') (hJ0 : J (fun _ => none) w0.drew)
    (step : ∀ i o, l[i]? = some o → StepV P Q R K J l a0 i o) (fin : ∀ (f : Nat → Value) (V : Nat → Option Value) (w : World), (∀ i o, l[i]? = some o → V i = some (match o.dst with | some t => f t | none => undef)) → J V w → (∀ t ∈ slotsOf l, R t (f t) w) → Q .normal (putAll a0 f (slotsOf l)) w) :
    (Code.region id l.toArray true).wp P Q a0 w0 := by
  refine wp_region_any hm ?_
  have hs' : ∀ t ∈ slotsOf l, t < a0.tmps.size := fun t ht => by
    have := List.all_eq_true.1 hs t ht
    simpa using this
  have no : ∀ i, (Array.replicate l.toArray.size false).getD i false ≠ true := fun i hl => by
    rw [Array.getD_eq_getD_getElem?, Array.getElem?_replicate] at hl
    split at hl <;> simp at hl
  have hD0 : valsOf l (Array.replicate l.toArray.size false) a0 = fun _ => none := by
    funext i
    unfold valsOf
    rw [if_neg (no i)]
  refine wpAny_relV hR (relXF hB) hs' step fin _ _ _ _ ⟨by simp, by rw [hD0]; exact hJ0, rfl, rfl, fun _ _ => rfl, fun i o t ho hl => absurd hl (no i)⟩ ?_
  exact Nat.le_trans List.countP_le_length (by simp)
end
end Go.Proofs.Ytonmojinijpneaa
