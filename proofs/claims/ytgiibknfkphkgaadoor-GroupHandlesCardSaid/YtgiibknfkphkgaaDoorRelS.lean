/- As wp_region_rel, but any operation may write: a state of the world that knows which slots are done, in place of Below. -/
import Derived.Test.YtgiibknfkphkgaaDoorRel
namespace Go.Proofs.YtgiibknfkphkgaaDoor
open Go Go.RowKit
set_option linter.unusedVariables false
set_option linter.unusedSimpArgs false
section
variable {P : Program} {Q : Exit → Act → World → Prop}
def DonS (l : List Oper) (listed : Array Bool) (t : Nat) : Prop := ∃ i o, l[i]? = some o ∧ listed.getD i false = true ∧ o.dst = some t
def StepS (P : Program) (Q : Exit → Act → World → Prop) (R : Nat → Value → World → Prop) (K : World → World → Prop) (J : (Nat → Prop) → World → Prop) (l : List Oper) (a0 : Act) (o : Oper) : Prop :=
  ∀ (D : Nat → Prop) (a : Act) (w : World), (∀ t, o.dst = some t → ¬ D t) → J D w → (∀ t, t ∉ slotsOf l → a.eval (.tmp t) = a0.eval (.tmp t)) → (∀ t, t ∈ slotsOf l → Operand.tmp t ∈ o.op.operands → R t (a.eval (.tmp t)) w) →
    o.wp P a w (fun a' w' => ∃ v, a' = a.put o.dst v ∧ (∀ t, o.dst = some t → R t v w') ∧ K w w' ∧ J (fun t => D t ∨ o.dst = some t) w') Q
structure InvS (R : Nat → Value → World → Prop) (J : (Nat → Prop) → World → Prop) (l : List Oper) (a0 : Act) (listed : Array Bool) (a : Act) (w : World) : Prop where
  size : listed.size = l.length
  st : J (DonS l listed) w
  tsize : a.tmps.size = a0.tmps.size
  defers : a.defers = a0.defers
  same : ∀ t, (∀ i o, l[i]? = some o → listed.getD i false = true → o.dst ≠ some t) → a.eval (.tmp t) = a0.eval (.tmp t)
  rel : ∀ i o t, l[i]? = some o → listed.getD i false = true → o.dst = some t → R t (a.eval (.tmp t)) w
theorem wpAny_relS {R : Nat → Value → World → Prop} {K : World → World → Prop} {J : (Nat → Prop) → World → Prop} (hR : ∀ t v w w', R t v w → K w w' → R t v w') {l : List Oper} {a0 : Act} (hF : RelF l) (hs : ∀ t ∈ slotsOf l, t < a0.tmps.size)
    (step : ∀ o ∈ l, StepS P Q R K J l a0 o) (fin : ∀ (f : Nat → Value) (w : World), J (fun t => t ∈ slotsOf l) w → (∀ t ∈ slotsOf l, R t (f t) w) → Q .normal (putAll a0 f (slotsOf l)) w) :
    ∀ (fuel : Nat) (listed : Array Bool) (a : Act) (w : World), InvS R J l a0 listed a w → unl listed l.length ≤ fuel → wpAny P .any l.toArray Q fuel listed a w := by
  have finish : ∀ (listed : Array Bool) (a : Act) (w : World), InvS R J l a0 listed a w → (∀ i, i < l.length → listed.getD i false = true) → Q .normal a w := by
    intro listed a w I hall
    have h1 : ∀ t ∈ slotsOf l, R t (a.eval (.tmp t)) w := by
      intro t ht
      obtain ⟨o, ho, hd⟩ := List.mem_filterMap.1 ht
      obtain ⟨i, hi⟩ := List.getElem?_of_mem ho
      exact I.rel i o t hi (hall i (List.getElem?_eq_some_iff.1 hi).1) hd
    have hD : DonS l listed = fun t => t ∈ slotsOf l := by
      funext t
      refine propext ⟨fun ⟨i, o, ho, _, hd⟩ => mem_slots ho hd, fun ht => ?_⟩
      obtain ⟨o, ho, hd⟩ := List.mem_filterMap.1 ht
      obtain ⟨i, hi⟩ := List.getElem?_of_mem ho
      exact ⟨i, o, hi, hall i (List.getElem?_eq_some_iff.1 hi).1, hd⟩
    have h2 := fin (fun t => a.eval (.tmp t)) w (hD ▸ I.st) h1
    have e : putAll a0 (fun t => a.eval (.tmp t)) (slotsOf l) = a := by
      refine act_ext (by rw [putAll_size, I.tsize]) (by rw [putAll_defers, I.defers]) fun t => ?_
      by_cases ht : t ∈ slotsOf l
      · exact putAll_same _ _ _ _ ht (hs t ht)
      · rw [putAll_other _ _ _ _ ht]
        exact (I.same t fun i o ho _ hd => ht (mem_slots ho hd)).symm
    rwa [e] at h2
  intro fuel
  induction fuel with
  | zero =>
    intro listed a w I hu
    have hall := fun i hi => unl_zero (by omega : unl listed l.length = 0) i hi
    refine ⟨?_, finish listed a w I hall⟩
    rw [List.eq_nil_iff_forall_not_mem]
    intro i hi
    obtain ⟨o, ho, h1, _⟩ := ready_mem.1 hi
    have hl : i < l.length := (List.getElem?_eq_some_iff.1 ho).1
    rw [getD_tf (by rw [I.size]; exact hl), hall i hl] at h1
    cases h1
  | succ fuel ih =>
    intro listed a w I hu
    refine ⟨fun h => finish listed a w I (all_listed hF I.size h), fun i hi => ?_⟩
    obtain ⟨o, ho, h1, h2⟩ := ready_mem.1 hi
    have hl : i < l.length := (List.getElem?_eq_some_iff.1 ho).1
    have hil : i < listed.size := by rw [I.size]; exact hl
    rw [getD_tf hil] at h1
    have hm : o ∈ l := List.mem_of_getElem? ho
    obtain ⟨⟨t0, hd0⟩, hg⟩ := hF.each o hm
    have ho' : l.toArray[i]? = some o := by simp [ho]
    have hw : Region.wanted o (yielded l.toArray a.tmps) = true := by simp [Region.wanted, hg]
    unfold wpOp
    rw [ho']
    simp only [hw, if_true]
    refine .inl ?_
    have hnD : ∀ t, o.dst = some t → ¬ DonS l listed t := by
      rintro t hd ⟨j, o', hj, hlj, hdj⟩
      have := slots_inj hF.nodup hj ho hdj hd
      subst this
      rw [h1] at hlj
      cases hlj
    have hst := step o hm (DonS l listed) a w hnD I.st (fun t ht => I.same t fun j o' hj _ hd => ht (mem_slots hj hd)) (fun t ht hop => by
      obtain ⟨e, he, hb, o', h3, h4⟩ := hF.reads i o ho t hop ht
      exact I.rel e.on o' t h3 (h2 e he hb) h4)
    refine Oper.wp_mono (fun a' w' h => ?_) hst
    obtain ⟨v, rfl, hv, hbw, hjd⟩ := h
    have hD2 : (fun t => DonS l listed t ∨ o.dst = some t) = DonS l (listed.setIfInBounds i true) := by
      funext t
      refine propext ⟨fun h => ?_, fun ⟨j, o', hj, hlj, hdj⟩ => ?_⟩
      · rcases h with ⟨j, o', hj, hlj, hdj⟩ | hd
        · exact ⟨j, o', hj, by rw [set_getD _ _ _ hil, hlj]; split <;> rfl, hdj⟩
        · exact ⟨i, o, ho, by rw [set_getD _ _ _ hil, if_pos rfl], hd⟩
      · by_cases e : i = j
        · subst e
          rw [ho] at hj
          cases hj
          exact .inr hdj
        · rw [set_getD _ _ _ hil, if_neg e] at hlj
          exact .inl ⟨j, o', hj, hlj, hdj⟩
    rw [hD2] at hjd
    have ht0 : t0 < a.tmps.size := by rw [I.tsize]; exact hs t0 (mem_slots ho hd0)
    refine ih _ _ _ ⟨by simp [I.size], hjd, by rw [put_size, I.tsize], by rw [hd0]; exact I.defers, fun t hn => ?_, fun j o' t hj hlj hd => ?_⟩ ?_
    · have hne : t ≠ t0 := by
        rintro rfl
        exact hn i o ho (by rw [set_getD _ _ _ hil, if_pos rfl]) hd0
      rw [hd0, put_other hne]
      exact I.same t fun j o' hj hlj => hn j o' hj (by rw [set_getD _ _ _ hil, hlj]; split <;> rfl)
    · by_cases hij : i = j
      · subst hij
        obtain rfl : o = o' := Option.some.inj (ho.symm.trans hj)
        obtain rfl : t0 = t := Option.some.inj (hd0.symm.trans hd)
        rw [hd0, put_same ht0]
        exact hv _ hd0
      · rw [set_getD _ _ _ hil, if_neg hij] at hlj
        have hne : t ≠ t0 := by
          rintro rfl
          exact hij (slots_inj hF.nodup ho hj hd0 hd)
        rw [hd0, put_other hne]
        exact hR _ _ _ _ (I.rel j o' t hj hlj hd) hbw
    · have := unl_set listed i hil h1 l.length hl
      omega
/-- The region: J knows which slots are done. -/
theorem wp_region_relS {id : Nat} (R : Nat → Value → World → Prop) (K : World → World → Prop) (J : (Nat → Prop) → World → Prop) {l : List Oper} {a0 : Act} {w0 : World} (hm : P.follows .mixedOrders = true) (hB : relB l = true) (hs : ((slotsOf l).all fun t => decide (t < a0.tmps.size)) = true)
    (hR : ∀ t v w w', R t v w → K w w' → R t v w') (hJ0 : J (fun _ => False) w0.drew)
    (step : ∀ o ∈ l, StepS P Q R K J l a0 o) (fin : ∀ (f : Nat → Value) (w : World), J (fun t => t ∈ slotsOf l) w → (∀ t ∈ slotsOf l, R t (f t) w) → Q .normal (putAll a0 f (slotsOf l)) w) :
    (Code.region id l.toArray true).wp P Q a0 w0 := by
  refine wp_region_any hm ?_
  have hs' : ∀ t ∈ slotsOf l, t < a0.tmps.size := fun t ht => by
    have := List.all_eq_true.1 hs t ht
    simpa using this
  have no : ∀ i, (Array.replicate l.toArray.size false).getD i false ≠ true := fun i hl => by
    rw [Array.getD_eq_getD_getElem?, Array.getElem?_replicate] at hl
    split at hl <;> simp at hl
  have hD0 : DonS l (Array.replicate l.toArray.size false) = fun _ => False := by
    funext t
    exact propext ⟨fun ⟨i, o, _, hl, _⟩ => no i hl, fun h => h.elim⟩
  refine wpAny_relS hR (relF hB) hs' step fin _ _ _ _ ⟨by simp, by rw [hD0]; exact hJ0, rfl, rfl, fun _ _ => rfl, fun i o t ho hl => absurd hl (no i)⟩ ?_
  exact Nat.le_trans List.countP_le_length (by simp)
end
end Go.Proofs.YtgiibknfkphkgaaDoor
