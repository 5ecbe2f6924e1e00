/- A region that draws its order, whose last operations are forced (an append or a store behind all others): all but these by one fact an operation (wp_region_rel), these as they stand in the text. -/
import Derived.Test.YtonmojinijpneaaRel
import Derived.StillTail
namespace Go.Proofs.Ytonmojinijpneaa
open Go Go.RowKit
set_option linter.unusedVariables false
set_option linter.unusedSimpArgs false
section
variable {P : Program} {Q : Exit → Act → World → Prop}
def headDone (n m : Nat) : Array Bool := ((List.range (n + m)).map fun i => decide (i < n)).toArray
def tailB (l : List Oper) (n : Nat) : Bool :=
  Region.sinkB .any l.toArray n && Region.chainB .any l.toArray n && decide (n < l.length) && Region.seqB .any l.toArray (l.length - n) n (headDone n (l.length - n))
structure InvT (R : Nat → Value → World → Prop) (l head : List Oper) (a0 : Act) (w0 : World) (listed : Array Bool) (a : Act) (w : World) : Prop where
  inv : HeadInv .any l.toArray head.length listed
  below : Below w0.heap.size w0 w
  tsize : a.tmps.size = a0.tmps.size
  defers : a.defers = a0.defers
  same : ∀ t, (∀ i o, head[i]? = some o → listed.getD i false = true → o.dst ≠ some t) → a.eval (.tmp t) = a0.eval (.tmp t)
  rel : ∀ i o t, head[i]? = some o → listed.getD i false = true → o.dst = some t → R t (a.eval (.tmp t)) w
theorem head_at {l head tail : List Oper} (hl : l = head ++ tail) {i : Nat} (hi : i < head.length) : l[i]? = head[i]? := by
  subst hl; exact List.getElem?_append_left hi
theorem head_listed {l head tail : List Oper} (hl : l = head ++ tail) (hF : RelF head) {listed : Array Bool} (hs : listed.size = l.length) (h : ∀ i, i < head.length → i ∉ Region.ready .any l.toArray listed) : ∀ i, i < head.length → listed.getD i false = true := by
  intro i
  induction i using Nat.strongRecOn with
  | _ i ih =>
    intro hi
    have hil : i < l.length := by subst hl; simp; omega
    cases hc : listed.getD i false with
    | true => rfl
    | false =>
      exfalso
      refine h i hi (ready_mem.2 ⟨head[i], by rw [head_at hl hi]; exact List.getElem?_eq_getElem hi, by rw [getD_tf (by omega)]; exact hc, fun e he hb => ?_⟩)
      have := hF.back i _ (List.getElem?_eq_getElem hi) e he hb
      exact ih e.on this (by omega)
theorem wpAny_relT {R : Nat → Value → World → Prop} (hR : ∀ t v w w', R t v w → Below w.heap.size w w' → R t v w') {l head tail : List Oper} (hl : l = head ++ tail) {a0 : Act} {w0 : World} (hF : RelF head) (hT : tailB l head.length = true)
    (hs : ∀ t ∈ slotsOf head, t < a0.tmps.size)
    (step : ∀ o ∈ head, StepR P Q R head a0 w0 o) (fin : ∀ (f : Nat → Value) (w : World), Below w0.heap.size w0 w → (∀ t ∈ slotsOf head, R t (f t) w) → wpList P l.toArray Q tail (putAll a0 f (slotsOf head)) w) :
    ∀ (k : Nat) (listed : Array Bool) (a : Act) (w : World), InvT R l head a0 w0 listed a w → unl listed head.length = k → wpAny P .any l.toArray Q (k + tail.length) listed a w := by
  unfold tailB at hT
  simp only [Bool.and_eq_true, decide_eq_true_eq] at hT
  obtain ⟨⟨⟨hsink, hchain⟩, hn⟩, hseq⟩ := hT
  have hlen : l.length = head.length + tail.length := by subst hl; simp
  intro k
  induction k with
  | zero =>
    intro listed a w I hu
    have hall := fun i hi => unl_zero hu i hi
    have h1 : ∀ t ∈ slotsOf head, R t (a.eval (.tmp t)) w := by
      intro t ht
      obtain ⟨o, ho, hd⟩ := List.mem_filterMap.1 ht
      obtain ⟨i, hi⟩ := List.getElem?_of_mem ho
      exact I.rel i o t hi (hall i (List.getElem?_eq_some_iff.1 hi).1) hd
    have h2 := fin (fun t => a.eval (.tmp t)) w I.below h1
    have e : putAll a0 (fun t => a.eval (.tmp t)) (slotsOf head) = a := by
      refine act_ext (by rw [putAll_size, I.tsize]) (by rw [putAll_defers, I.defers]) fun t => ?_
      by_cases ht : t ∈ slotsOf head
      · exact putAll_same _ _ _ _ ht (hs t ht)
      · rw [putAll_other _ _ _ _ ht]
        exact (I.same t fun i o ho _ hd => ht (mem_slots ho hd)).symm
    rw [e] at h2
    have hlist : listed = headDone head.length (l.length - head.length) := by
      apply Array.ext
      · rw [I.inv.size]; simp [headDone]; omega
      · intro i h3 h4
        rw [I.inv.size] at h3
        have h3' : i < l.length := by simpa using h3
        have hil : i < listed.size := by rw [I.inv.size]; exact h3
        have e1 : listed[i] = listed.getD i false := by simp [Array.getD_eq_getD_getElem?, Array.getElem?_eq_getElem hil]
        have e2 : (headDone head.length (l.length - head.length))[i] = decide (i < head.length) := by simp [headDone]
        rw [e1, e2]
        by_cases hi : i < head.length
        · rw [hall i hi]; simp [hi]
        · have := I.inv.tail i (by omega) (by simpa using h3')
          rw [getD_tf (by rw [I.inv.size]; simpa using h3')] at this
          rw [this]; simp [hi]
    rw [Nat.zero_add]
    refine wpAny_of_seq tail head.length listed a w (fun j => ?_) ?_ h2
    · have e3 : l[head.length + j]? = tail[j]? := by
        subst hl
        rw [List.getElem?_append_right (by omega), Nat.add_sub_cancel_left]
      simp [e3]
    · rw [hlist]
      have : tail.length = l.length - head.length := by omega
      rw [this]
      exact hseq
  | succ k ih =>
    intro listed a w I hu
    have hex : ∃ i, i < head.length ∧ listed.getD i false = false := by
      apply Classical.byContradiction
      intro hno
      have : unl listed head.length = 0 := by
        unfold unl
        rw [List.countP_eq_zero]
        intro i hi
        cases hc : listed.getD i false with
        | true => simp
        | false => exact absurd ⟨i, List.mem_range.1 hi, hc⟩ hno
      omega
    have htail : ∀ t, head.length ≤ t → t ∉ Region.ready .any l.toArray listed := by
      obtain ⟨i, hi, hc⟩ := hex
      exact tail_waits hsink hchain (by simpa using hn) I.inv _ i rfl hi (by rw [getD_tf (by rw [I.inv.size]; simp; omega)]; exact hc)
    rw [show k + 1 + tail.length = (k + tail.length) + 1 by omega]
    refine ⟨fun h => ?_, fun i hi => ?_⟩
    · exfalso
      obtain ⟨i, hi, hc⟩ := hex
      have := head_listed hl hF (by rw [I.inv.size]; simp) (fun i _ => by rw [h]; simp) i hi
      rw [hc] at this
      cases this
    · have hih : i < head.length := by
        rcases Nat.lt_or_ge i head.length with h | h
        · exact h
        · exact absurd hi (htail i h)
      obtain ⟨o, hol, h1, h2⟩ := ready_mem.1 hi
      have ho : head[i]? = some o := by rw [← head_at hl hih]; exact hol
      have hil : i < listed.size := by rw [I.inv.size]; simp; omega
      rw [getD_tf hil] at h1
      have hm : o ∈ head := List.mem_of_getElem? ho
      obtain ⟨⟨t0, hd0⟩, hg⟩ := hF.each o hm
      have ho' : l.toArray[i]? = some o := by simp [hol]
      have hw : Region.wanted o (yielded l.toArray a.tmps) = true := by simp [Region.wanted, hg]
      unfold wpOp
      rw [ho']
      simp only [hw, if_true]
      refine .inl ?_
      have hst := step o hm a w I.below (fun t ht => I.same t fun j o' hj _ hd => ht (mem_slots hj hd)) (fun t ht hop => by
        obtain ⟨e, he, hb, o', h3, h4⟩ := hF.reads i o ho t hop ht
        exact I.rel e.on o' t h3 (h2 e he hb) h4)
      refine Oper.wp_mono (fun a' w' h => ?_) hst
      obtain ⟨v, rfl, hv, hbw⟩ := h
      have ht0 : t0 < a.tmps.size := by rw [I.tsize]; exact hs t0 (mem_slots ho hd0)
      refine ih _ _ _ ⟨I.inv.set hi hih, I.below.trans (hbw.mono I.below.size), by rw [put_size, I.tsize], by rw [hd0]; exact I.defers, fun t hn => ?_, fun j o' t hj hlj hd => ?_⟩ ?_
      · have hne : t ≠ t0 := by
          rintro rfl
          exact hn i o ho (by rw [set_getD _ _ _ hil, if_pos rfl]) hd0
        rw [hd0, put_other hne]
        exact I.same t fun j o' hj hlj => hn j o' hj (by rw [set_getD _ _ _ hil, hlj]; split <;> rfl)
      · by_cases hij : i = j
        · subst hij
          obtain rfl : o = o' := Option.some.inj (ho.symm.trans hj)
          obtain rfl : t0 = t := Option.some.inj (hd0.symm.trans hd)
          rw [hd0, put_same ht0]
          exact hv _ hd0
        · rw [set_getD _ _ _ hil, if_neg hij] at hlj
          have hne : t ≠ t0 := by
            rintro rfl
            exact hij (slots_inj hF.nodup ho hj hd0 hd)
          rw [hd0, put_other hne]
          exact hR _ _ _ _ (I.rel j o' t hj hlj hd) hbw
      · have := unl_set listed i hil h1 head.length hih
        omega
/-- The region: R as in wp_region_rel; n: how many operations stand ahead of the tail. -/
theorem wp_region_relT {id : Nat} (n : Nat) (R : Nat → Value → World → Prop) {l : List Oper} {a0 : Act} {w0 : World} (hm : P.follows .mixedOrders = true) (hB : relB (l.take n) = true) (hT : tailB l (l.take n).length = true) (hs : ((slotsOf (l.take n)).all fun t => decide (t < a0.tmps.size)) = true)
    (hR : ∀ t v w w', R t v w → Below w.heap.size w w' → R t v w')
    (step : ∀ o ∈ l.take n, StepR P Q R (l.take n) a0 w0 o) (fin : ∀ (f : Nat → Value) (w : World), Below w0.heap.size w0 w → (∀ t ∈ slotsOf (l.take n), R t (f t) w) → wpList P l.toArray Q (l.drop n) (putAll a0 f (slotsOf (l.take n))) w) :
    (Code.region id l.toArray true).wp P Q a0 w0 := by
  refine wp_region_any hm ?_
  have hs' : ∀ t ∈ slotsOf (l.take n), t < a0.tmps.size := fun t ht => by
    have := List.all_eq_true.1 hs t ht
    simpa using this
  have hl : l = l.take n ++ l.drop n := (List.take_append_drop n l).symm
  have hsz : l.toArray.size = (l.take n).length + (l.drop n).length := by
    simp
    omega
  have hz : ∀ i, (Array.replicate l.toArray.size false).getD i false = false := fun i => getD_replicate_false _ _
  have hu : unl (Array.replicate l.toArray.size false) (l.take n).length = (l.take n).length := by
    unfold unl
    rw [List.countP_eq_length.2 fun i _ => by rw [hz]; rfl]
    simp
  have key := wpAny_relT (P := P) (Q := Q) hR hl (relF hB) hT hs' step fin _ (Array.replicate l.toArray.size false) a0 w0.drew ⟨⟨by simp, fun j oj _ h => by rw [hz] at h; (cases h), fun t ht ht' => by rw [getD_tf (by simpa using ht')]; exact hz t⟩, (Below.refl _ _).drew, rfl, rfl, fun _ _ => rfl, fun i o t ho h => by rw [hz] at h; (cases h)⟩ hu
  rw [← hsz] at key
  exact key
end
end Go.Proofs.Ytonmojinijpneaa
