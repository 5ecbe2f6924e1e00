/- What may be a receive's: it fits, it isn't taken, nobody ahead wants it. No walk. -/
import Derived.Test.YtonmojinijpneaaRows
import Derived.Test.YtonmojinijpneaaPoU
namespace Go.Proofs.Ytonmojinijpneaa
open Go Go.Proofs.Ytonmojinijpneaa.Qu
set_option linter.unusedVariables false
set_option linter.unusedSimpArgs false
namespace Po
theorem first_mem {l : List Msg} {c : Chan} {tag : Int} {m : Msg} (h : firstL l c tag = some m) : m ∈ l ∧ isM m c = true ∧ tagged tag m = true := by
  unfold firstL at h
  have h1 := List.mem_of_find?_eq_some h
  have h2 := List.find?_some h
  rw [Bool.and_eq_true] at h2
  exact ⟨h1, h2.1, h2.2⟩
theorem mem_flt {ah : List Rc} {l : List Msg} {m : Msg} : m ∈ flt ah l ↔ m ∈ l ∧ leaveB ah m = true := by simp [flt]
theorem mem_fsts {l : List Msg} {key : ByteArray} {rk tg : Int} {fs : List Int} {m : Msg} : m ∈ fstsL l key rk tg fs ↔ ∃ f ∈ fs, firstL l ⟨key, f, rk⟩ tg = some m := by simp [fstsL]
theorem leave_fits {ah : List Rc} {m : Msg} (h : leaveB ah m = true) {r : Rc} (hr : r ∈ ah) (hd : r.dn = false) : fitsB r m = false := by
  unfold leaveB at h
  have := List.all_eq_true.1 h r hr
  simpa [hd] using this
theorem isM_parts {m : Msg} {c : Chan} (h : isM m c = true) : m.tk = false ∧ m.key = c.key ∧ m.fr = c.fr ∧ m.to = c.to := by
  unfold isM at h
  rw [Bool.and_eq_true] at h
  have h1 : m.ch = c := of_decide_eq_true h.2
  subst h1
  exact ⟨by simpa using h.1, rfl, rfl, rfl⟩
theorem mem_freeL {l : List Msg} {r : Rc} {ah : List Rc} {m : Msg} (h : m ∈ freeL l r ah) : m ∈ l ∧ m.tk = false ∧ fitsB r m = true ∧ leaveB ah m = true ∧ firstL l ⟨r.key, m.fr, r.rk⟩ r.tg = some m := by
  unfold freeL at h
  obtain ⟨h1, h2⟩ := mem_flt.1 h
  obtain ⟨f, hf, h3⟩ := mem_fsts.1 h1
  obtain ⟨h4, h5, h6⟩ := first_mem h3
  obtain ⟨e1, e2, e3, e4⟩ := isM_parts h5
  simp only at e2 e3 e4
  refine ⟨h4, e1, ?_, h2, by rw [e3]; exact h3⟩
  unfold fitsB
  refine decide_eq_true ⟨e2.symm, e4.symm, ?_, ?_⟩
  · unfold sndL at hf
    split at hf
    · exact .inl (by assumption)
    · rw [List.mem_singleton] at hf
      exact .inr (by rw [e3, hf])
  · unfold tagged at h6
    simpa using h6
theorem snd_rise (l : List Msg) (key : ByteArray) (rk pe : Int) : (sndL l key rk pe).Pairwise (· < ·) := by
  unfold sndL
  split
  · exact (upto_rise 64).filter _
  · exact List.pairwise_singleton _ _
/-- Of each sender at most one, by rising senders. -/
theorem free_rise (l : List Msg) (r : Rc) (ah : List Rc) : (freeL l r ah).Pairwise fun a b => a.fr < b.fr := by
  unfold freeL flt
  refine List.Pairwise.filter _ ?_
  unfold fstsL
  rw [List.pairwise_filterMap]
  refine (snd_rise l r.key r.rk r.pe).imp fun {a b} hab x hx y hy => ?_
  have h1 := (isM_parts (first_mem hx).2.1).2.2.1
  have h2 := (isM_parts (first_mem hy).2.1).2.2.1
  simp only at h1 h2
  rw [h1, h2]
  exact hab
/-- What may be a later waiting receive's may not be an earlier one's: that one doesn't fit it. -/
theorem may_apart {l : List Msg} {rs : List Rc} {a b : Rc} {m : Msg} (ha : a ∈ rs) (hd : a.dn = false) (hlt : a.ca < b.ca) (hm : m ∈ freeL l b (rs.filter fun x => decide (x.ca < b.ca))) : fitsB a m = false :=
  leave_fits (mem_freeL hm).2.2.2.1 (List.mem_filter.2 ⟨ha, decide_eq_true hlt⟩) hd
end Po
end Go.Proofs.Ytonmojinijpneaa
