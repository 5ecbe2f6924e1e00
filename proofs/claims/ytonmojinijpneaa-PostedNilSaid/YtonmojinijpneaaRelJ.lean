/- As wp_region_relT, but one operation of the head (by its slot: an append onto a row that is there) may write: a state of the world ahead of it and one behind it (J false, J true), and a relation of one's own in place of Below. -/
import Derived.Test.YtonmojinijpneaaRelT
import Derived.StillTail
namespace Go.Proofs.Ytonmojinijpneaa
open Go Go.RowKit
set_option linter.unusedVariables false
set_option linter.unusedSimpArgs false
section
variable {P : Program} {Q : Exit → Act → World → Prop}
def Don (head : List Oper) (tk : Nat) (listed : Array Bool) : Prop := ∃ i o, head[i]? = some o ∧ listed.getD i false = true ∧ o.dst = some tk
def StepJ (P : Program) (Q : Exit → Act → World → Prop) (R : Nat → Value → World → Prop) (K : World → World → Prop) (J : Option Value → World → Prop) (l : List Oper) (a0 : Act) (w0 : World) (o : Oper) (b : Option Value) (b' : Value → Option Value) : Prop :=
  ∀ (a : Act) (w : World), K w0 w → J b w → (∀ t, t ∉ slotsOf l → a.eval (.tmp t) = a0.eval (.tmp t)) → (∀ t, t ∈ slotsOf l → Operand.tmp t ∈ o.op.operands → R t (a.eval (.tmp t)) w) →
    o.wp P a w (fun a' w' => ∃ v, a' = a.put o.dst v ∧ (∀ t, o.dst = some t → R t v w') ∧ K w w' ∧ J (b' v) w') Q
structure InvJ (R : Nat → Value → World → Prop) (K : World → World → Prop) (J : Option Value → World → Prop) (tk : Nat) (l head : List Oper) (a0 : Act) (w0 : World) (listed : Array Bool) (a : Act) (w : World) : Prop where
  inv : HeadInv .any l.toArray head.length listed
  below : K w0 w
  jf : ¬ Don head tk listed → J none w
  jt : Don head tk listed → J (some (a.eval (.tmp tk))) w
  tsize : a.tmps.size = a0.tmps.size
  defers : a.defers = a0.defers
  same : ∀ t, (∀ i o, head[i]? = some o → listed.getD i false = true → o.dst ≠ some t) → a.eval (.tmp t) = a0.eval (.tmp t)
  rel : ∀ i o t, head[i]? = some o → listed.getD i false = true → o.dst = some t → R t (a.eval (.tmp t)) w
theorem wpAny_relJ {R : Nat → Value → World → Prop} {K : World → World → Prop} {J : Option Value → World → Prop} {tk : Nat} (hK : ∀ a b c, K a b → K b c → K a c) (hR : ∀ t v w w', R t v w → K w w' → R t v w') {l head tail : List Oper} (hl : l = head ++ tail) {a0 : Act} {w0 : World} (hF : RelF head) (hT : tailB l head.length = true)
    (hs : ∀ t ∈ slotsOf head, t < a0.tmps.size) (htk : tk ∈ slotsOf head)
    (step : ∀ o ∈ head, (o.dst = some tk → StepJ P Q R K J head a0 w0 o none some) ∧ (o.dst ≠ some tk → ∀ b, StepJ P Q R K J head a0 w0 o b fun _ => b)) (fin : ∀ (f : Nat → Value) (w : World), K w0 w → J (some (f tk)) w → (∀ t ∈ slotsOf head, R t (f t) w) → wpList P l.toArray Q tail (putAll a0 f (slotsOf head)) w) :
    ∀ (k : Nat) (listed : Array Bool) (a : Act) (w : World), InvJ R K J tk l head a0 w0 listed a w → unl listed head.length = k → wpAny P .any l.toArray Q (k + tail.length) listed a w := by
  unfold tailB at hT
  simp only [Bool.and_eq_true, decide_eq_true_eq] at hT
  obtain ⟨⟨⟨hsink, hchain⟩, hn⟩, hseq⟩ := hT
  have hlen : l.length = head.length + tail.length := by subst hl; simp
  intro k
  induction k with
  | zero =>
    intro listed a w I hu
    have hall := fun i hi => unl_zero hu i hi
    have h1 : ∀ t ∈ slotsOf head, R t (a.eval (.tmp t)) w := by
      intro t ht
      obtain ⟨o, ho, hd⟩ := List.mem_filterMap.1 ht
      obtain ⟨i, hi⟩ := List.getElem?_of_mem ho
      exact I.rel i o t hi (hall i (List.getElem?_eq_some_iff.1 hi).1) hd
    have hdon : Don head tk listed := by
      obtain ⟨o, ho, hd⟩ := List.mem_filterMap.1 htk
      obtain ⟨i, hi⟩ := List.getElem?_of_mem ho
      exact ⟨i, o, hi, hall i (List.getElem?_eq_some_iff.1 hi).1, hd⟩
    have h2 := fin (fun t => a.eval (.tmp t)) w I.below (I.jt hdon) h1
    have e : putAll a0 (fun t => a.eval (.tmp t)) (slotsOf head) = a := by
      refine act_ext (by rw [putAll_size, I.tsize]) (by rw [putAll_defers, I.defers]) fun t => ?_
      by_cases ht : t ∈ slotsOf head
      · exact putAll_same _ _ _ _ ht (hs t ht)
      · rw [putAll_other _ _ _ _ ht]
        exact (I.same t fun i o ho _ hd => ht (mem_slots ho hd)).symm
    rw [e] at h2
    have hlist : listed = headDone head.length (l.length - head.length) := by
      apply Array.ext
      · rw [I.inv.size]; simp [headDone]; omega
      · intro i h3 h4
        rw [I.inv.size] at h3
        have h3' : i < l.length := by simpa using h3
        have hil : i < listed.size := by rw [I.inv.size]; exact h3
        have e1 : listed[i] = listed.getD i false := by simp [Array.getD_eq_getD_getElem?, Array.getElem?_eq_getElem hil]
        have e2 : (headDone head.length (l.length - head.length))[i] = decide (i < head.length) := by simp [headDone]
        rw [e1, e2]
        by_cases hi : i < head.length
        · rw [hall i hi]; simp [hi]
        · have := I.inv.tail i (by omega) (by simpa using h3')
          rw [getD_tf (by rw [I.inv.size]; simpa using h3')] at this
          rw [this]; simp [hi]
    rw [Nat.zero_add]
    refine wpAny_of_seq tail head.length listed a w (fun j => ?_) ?_ h2
    · have e3 : l[head.length + j]? = tail[j]? := by
        subst hl
        rw [List.getElem?_append_right (by omega), Nat.add_sub_cancel_left]
      simp [e3]
    · rw [hlist]
      have : tail.length = l.length - head.length := by omega
      rw [this]
      exact hseq
  | succ k ih =>
    intro listed a w I hu
    have hex : ∃ i, i < head.length ∧ listed.getD i false = false := by
      apply Classical.byContradiction
      intro hno
      have : unl listed head.length = 0 := by
        unfold unl
        rw [List.countP_eq_zero]
        intro i hi
        cases hc : listed.getD i false with
        | true => simp
        | false => exact absurd ⟨i, List.mem_range.1 hi, hc⟩ hno
      omega
    have htail : ∀ t, head.length ≤ t → t ∉ Region.ready .any l.toArray listed := by
      obtain ⟨i, hi, hc⟩ := hex
      exact tail_waits hsink hchain (by simpa using hn) I.inv _ i rfl hi (by rw [getD_tf (by rw [I.inv.size]; simp; omega)]; exact hc)
    rw [show k + 1 + tail.length = (k + tail.length) + 1 by omega]
    refine ⟨fun h => ?_, fun i hi => ?_⟩
    · exfalso
      obtain ⟨i, hi, hc⟩ := hex
      have := head_listed hl hF (by rw [I.inv.size]; simp) (fun i _ => by rw [h]; simp) i hi
      rw [hc] at this
      cases this
    · have hih : i < head.length := by
        rcases Nat.lt_or_ge i head.length with h | h
        · exact h
        · exact absurd hi (htail i h)
      obtain ⟨o, hol, h1, h2⟩ := ready_mem.1 hi
      have ho : head[i]? = some o := by rw [← head_at hl hih]; exact hol
      have hil : i < listed.size := by rw [I.inv.size]; simp; omega
      rw [getD_tf hil] at h1
      have hm : o ∈ head := List.mem_of_getElem? ho
      obtain ⟨⟨t0, hd0⟩, hg⟩ := hF.each o hm
      have ho' : l.toArray[i]? = some o := by simp [hol]
      have hw : Region.wanted o (yielded l.toArray a.tmps) = true := by simp [Region.wanted, hg]
      unfold wpOp
      rw [ho']
      simp only [hw, if_true]
      refine .inl ?_
      have hst : o.wp P a w (fun a' w' => ∃ v, a' = a.put o.dst v ∧ (∀ t, o.dst = some t → R t v w') ∧ K w w' ∧ (¬ Don head tk (listed.setIfInBounds i true) → J none w') ∧ (Don head tk (listed.setIfInBounds i true) → J (some ((a.put o.dst v).eval (.tmp tk))) w')) Q := by
        have hs1 : ∀ t, t ∉ slotsOf head → a.eval (.tmp t) = a0.eval (.tmp t) := fun t ht => I.same t fun j o' hj _ hd => ht (mem_slots hj hd)
        have hs2 : ∀ t, t ∈ slotsOf head → Operand.tmp t ∈ o.op.operands → R t (a.eval (.tmp t)) w := fun t ht hop => by
          obtain ⟨e, he, hb, o', h3, h4⟩ := hF.reads i o ho t hop ht
          exact I.rel e.on o' t h3 (h2 e he hb) h4
        by_cases hd : o.dst = some tk
        · have hn : ¬ Don head tk listed := by
            rintro ⟨j, o', hj, hlj, hdj⟩
            have := slots_inj hF.nodup hj ho hdj hd
            subst this
            rw [h1] at hlj
            cases hlj
          refine Oper.wp_mono (fun a' w' h => ?_) ((step o hm).1 hd a w I.below (I.jf hn) hs1 hs2)
          obtain ⟨v, e1, e2, e3, e4⟩ := h
          refine ⟨v, e1, e2, e3, fun hn' => absurd ⟨i, o, ho, by rw [set_getD _ _ _ hil, if_pos rfl], hd⟩ hn', fun _ => ?_⟩
          rw [hd, put_same (by rw [I.tsize]; exact hs tk (mem_slots ho hd))]
          exact e4
        · have hiff : Don head tk (listed.setIfInBounds i true) ↔ Don head tk listed := by
            constructor
            · rintro ⟨j, o', hj, hlj, hdj⟩
              by_cases e : i = j
              · subst e
                rw [ho] at hj
                cases hj
                exact absurd hdj hd
              · rw [set_getD _ _ _ hil, if_neg e] at hlj
                exact ⟨j, o', hj, hlj, hdj⟩
            · rintro ⟨j, o', hj, hlj, hdj⟩
              exact ⟨j, o', hj, by rw [set_getD _ _ _ hil, hlj]; split <;> rfl, hdj⟩
          by_cases hdn : Don head tk listed
          · refine Oper.wp_mono (fun a' w' h => ?_) ((step o hm).2 hd _ a w I.below (I.jt hdn) hs1 hs2)
            obtain ⟨v, e1, e2, e3, e4⟩ := h
            refine ⟨v, e1, e2, e3, fun hn' => absurd (hiff.2 hdn) hn', fun _ => ?_⟩
            rw [hd0, put_other (fun e => hd (by rw [hd0, e]))]
            exact e4
          · refine Oper.wp_mono (fun a' w' h => ?_) ((step o hm).2 hd _ a w I.below (I.jf hdn) hs1 hs2)
            obtain ⟨v, e1, e2, e3, e4⟩ := h
            exact ⟨v, e1, e2, e3, fun _ => e4, fun hn' => absurd (hiff.1 hn') hdn⟩
      refine Oper.wp_mono (fun a' w' h => ?_) hst
      obtain ⟨v, rfl, hv, hbw, hjf, hjt⟩ := h
      have ht0 : t0 < a.tmps.size := by rw [I.tsize]; exact hs t0 (mem_slots ho hd0)
      refine ih _ _ _ ⟨I.inv.set hi hih, hK _ _ _ I.below hbw, hjf, hjt, by rw [put_size, I.tsize], by rw [hd0]; exact I.defers, fun t hn => ?_, fun j o' t hj hlj hd => ?_⟩ ?_
      · have hne : t ≠ t0 := by
          rintro rfl
          exact hn i o ho (by rw [set_getD _ _ _ hil, if_pos rfl]) hd0
        rw [hd0, put_other hne]
        exact I.same t fun j o' hj hlj => hn j o' hj (by rw [set_getD _ _ _ hil, hlj]; split <;> rfl)
      · by_cases hij : i = j
        · subst hij
          obtain rfl : o = o' := Option.some.inj (ho.symm.trans hj)
          obtain rfl : t0 = t := Option.some.inj (hd0.symm.trans hd)
          rw [hd0, put_same ht0]
          exact hv _ hd0
        · rw [set_getD _ _ _ hil, if_neg hij] at hlj
          have hne : t ≠ t0 := by
            rintro rfl
            exact hij (slots_inj hF.nodup ho hj hd0 hd)
          rw [hd0, put_other hne]
          exact hR _ _ _ _ (I.rel j o' t hj hlj hd) hbw
      · have := unl_set listed i hil h1 head.length hih
        omega
/-- The region: R as in wp_region_rel; n: how many operations stand ahead of the tail; tk: the slot of the operation that writes. -/
theorem wp_region_relJ {id : Nat} (n tk : Nat) (R : Nat → Value → World → Prop) (K : World → World → Prop) (J : Option Value → World → Prop) {l : List Oper} {a0 : Act} {w0 : World} (hm : P.follows .mixedOrders = true) (hB : relB (l.take n) = true) (hT : tailB l (l.take n).length = true) (hs : ((slotsOf (l.take n)).all fun t => decide (t < a0.tmps.size)) = true)
    (htk : (slotsOf (l.take n)).contains tk = true) (hK : ∀ a b c, K a b → K b c → K a c) (hK0 : K w0 w0.drew) (hJ0 : J none w0.drew) (hR : ∀ t v w w', R t v w → K w w' → R t v w')
    (step : ∀ o ∈ l.take n, (o.dst = some tk → StepJ P Q R K J (l.take n) a0 w0 o none some) ∧ (o.dst ≠ some tk → ∀ b, StepJ P Q R K J (l.take n) a0 w0 o b fun _ => b)) (fin : ∀ (f : Nat → Value) (w : World), K w0 w → J (some (f tk)) w → (∀ t ∈ slotsOf (l.take n), R t (f t) w) → wpList P l.toArray Q (l.drop n) (putAll a0 f (slotsOf (l.take n))) w) :
    (Code.region id l.toArray true).wp P Q a0 w0 := by
  refine wp_region_any hm ?_
  have hs' : ∀ t ∈ slotsOf (l.take n), t < a0.tmps.size := fun t ht => by
    have := List.all_eq_true.1 hs t ht
    simpa using this
  have hl : l = l.take n ++ l.drop n := (List.take_append_drop n l).symm
  have hsz : l.toArray.size = (l.take n).length + (l.drop n).length := by
    simp
    omega
  have hz : ∀ i, (Array.replicate l.toArray.size false).getD i false = false := fun i => getD_replicate_false _ _
  have hu : unl (Array.replicate l.toArray.size false) (l.take n).length = (l.take n).length := by
    unfold unl
    rw [List.countP_eq_length.2 fun i _ => by rw [hz]; rfl]
    simp
  have hnd : ¬ Don (l.take n) tk (Array.replicate l.toArray.size false) := by
    rintro ⟨i, o, _, h, _⟩
    rw [hz] at h
    cases h
  have key := wpAny_relJ (P := P) (Q := Q) (tk := tk) hK hR hl (relF hB) hT hs' (List.contains_iff_mem.1 htk) step fin _ (Array.replicate l.toArray.size false) a0 w0.drew ⟨⟨by simp, fun j oj _ h => by rw [hz] at h; (cases h), fun t ht ht' => by rw [getD_tf (by simpa using ht')]; exact hz t⟩, hK0, fun _ => hJ0, fun h => absurd h hnd, rfl, rfl, fun _ _ => rfl, fun i o t ho h => by rw [hz] at h; (cases h)⟩ hu
  rw [← hsz] at key
  exact key
end
end Go.Proofs.Ytonmojinijpneaa
