/- Putting in one by one what isn't there gives the join; putting in, by what is ahead and what is behind. No program's text. -/
import Derived.Test.YtnmaclpjddafnaaRows
import Derived.Test.YtnmaclpjddafnaaSignVp
namespace Go.Proofs.Ytnmaclpjddafnaa
open Go Go.RowKit
set_option linter.unusedVariables false
set_option linter.unusedSimpArgs false
namespace Jn
theorem at_fnd {l : List Ch} {x : Ch} (hm : mayL l = true) : (atR l x.r x.c).2 = fndL l x := by
  have h := find_pos (x := x) hm
  unfold atR fndL
  rcases hb : l[posL l x]? with _ | y
  · rw [hb] at h
    rw [h]
  · rw [hb] at h
    rw [h]
    by_cases he : eqP y x = true
    · simp [he]
    · have h0 : eqP y x = false := by simpa using he
      simp [h0]
theorem lt_filter {l : List Ch} {x : Ch} (hm : mayL l = true) (hf : fndL l x = false) : l.filter (fun t => ltP t x) = l.take (posL l x) := by
  conv => lhs; rw [← List.take_append_drop (posL l x) l]
  rw [List.filter_append, List.filter_eq_self.2, List.filter_eq_nil_iff.2, List.append_nil]
  · intro t ht
    obtain ⟨k, hk, rfl⟩ := List.getElem_of_mem ht
    rw [List.getElem_drop]
    rw [List.length_drop] at hk
    have := ltP_not (put_gt hm hf (k := posL l x + k) (by omega) (by omega))
    rw [this]
    decide
  · intro t ht
    obtain ⟨k, hk, rfl⟩ := List.getElem_of_mem ht
    rw [List.length_take] at hk
    rw [List.getElem_take]
    exact posL_low (by omega) (by omega)
theorem gt_filter {l : List Ch} {x : Ch} (hm : mayL l = true) (hf : fndL l x = false) : l.filter (fun t => ltP x t) = l.drop (posL l x) := by
  conv => lhs; rw [← List.take_append_drop (posL l x) l]
  rw [List.filter_append, List.filter_eq_nil_iff.2, List.filter_eq_self.2, List.nil_append]
  · intro t ht
    obtain ⟨k, hk, rfl⟩ := List.getElem_of_mem ht
    rw [List.getElem_drop]
    rw [List.length_drop] at hk
    exact put_gt hm hf (by omega) (by omega)
  · intro t ht
    obtain ⟨k, hk, rfl⟩ := List.getElem_of_mem ht
    rw [List.length_take] at hk
    rw [List.getElem_take, ltP_not (posL_low (b := l) (x := x) (k := k) (by omega) (by omega))]
    decide
/-- Those of the first i that are so. -/
def fltN (p : Ch → Bool) (l : List Ch) (i : Nat) : List Ch := (l.take i).filter p
theorem fltN_succ (p : Ch → Bool) (l : List Ch) (i : Nat) (hi : i < l.length) : fltN p l (i + 1) = fltN p l i ++ (if p l[i] then [l[i]] else []) := by
  unfold fltN
  rw [List.take_succ_eq_append_getElem hi, List.filter_append]
  congr 1
  by_cases h : p l[i] <;> simp [h]
theorem fltN_len (p : Ch → Bool) (l : List Ch) (i : Nat) : (fltN p l i).length ≤ l.length := by
  have h := List.length_filter_le p (l.take i)
  rw [List.length_take] at h
  unfold fltN
  omega
theorem put_flt {l : List Ch} {x : Ch} (hm : mayL l = true) (hf : fndL l x = false) : fltN (fun t => ltP t x) l l.length ++ [x] ++ fltN (fun t => ltP x t) l l.length = putR l x := by
  unfold fltN
  rw [List.take_length, lt_filter hm hf, gt_filter hm hf]
  unfold putR
  simp
theorem putL_some {l : List Ch} {x : Ch} (hm : mayL l = true) (hx : mayC x = true) (hf : fndL l x = false) : putL l x = some (putR l x) := by
  unfold putL
  rw [hm, hx, hf]
  rfl
theorem putL_none {l : List Ch} {x : Ch} (h : ¬ (mayL l = true ∧ mayC x = true ∧ fndL l x = false)) : putL l x = none := by
  unfold putL
  rw [if_neg]
  intro h2
  simp only [Bool.and_eq_true, Bool.not_eq_true'] at h2
  exact h ⟨h2.1.1, h2.1.2, h2.2⟩
theorem join_step {a b o : List Ch} {i : Nat} (h : agL a b = true) (hj : IsJoin a (b.take i) o) (hi : i < b.length) :
    (fndL o b[i] = true → IsJoin a (b.take (i + 1)) o) ∧ (fndL o b[i] = false → putL o b[i] = some (putR o b[i]) ∧ IsJoin a (b.take (i + 1)) (putR o b[i])) := by
  obtain ⟨h1, h2, h3⟩ := (ag_iff a b).1 h
  have hb : mayC b[i] = true := ((mayL_iff b).1 h2).1 _ (List.getElem_mem hi)
  have ht : ∀ t, t ∈ b.take (i + 1) ↔ t ∈ b.take i ∨ t = b[i] := fun t => by
    rw [List.take_succ_eq_append_getElem hi, List.mem_append, List.mem_singleton]
  refine ⟨fun hf => ⟨hj.1, fun t => ?_⟩, fun hf => ⟨putL_some hj.1 hb hf, put_may hj.1 hb hf, fun t => ?_⟩⟩
  · obtain ⟨y, hy, he⟩ := (fnd_iff hj.1).2 hf
    have hyx : y = b[i] := by
      rcases (hj.2 y).1 hy with hy | hy
      · exact (h3 y hy _ (List.getElem_mem hi) (eqP_comm he)).symm
      · exact may_one h2 (List.mem_of_mem_take hy) (List.getElem_mem hi) he
    rw [ht, hj.2]
    constructor
    · rintro (h | h)
      · exact .inl h
      · exact .inr (.inl h)
    · rintro (h | h | h)
      · exact .inl h
      · exact .inr h
      · rw [h, ← hyx]
        exact (hj.2 y).1 hy
  · rw [(put_perm o b[i]).mem_iff, List.mem_cons, hj.2, ht]
    constructor
    · rintro (h | h | h)
      · exact .inr (.inr h)
      · exact .inl h
      · exact .inr (.inl h)
    · rintro (h | h | h)
      · exact .inr (.inl h)
      · exact .inr (.inr h)
      · exact .inl h
theorem join_none {a b : List Ch} (h : agL a b = true) : IsJoin a (b.take 0) a := ⟨((ag_iff a b).1 h).1, fun t => by simp⟩
end Jn
end Go.Proofs.Ytnmaclpjddafnaa
