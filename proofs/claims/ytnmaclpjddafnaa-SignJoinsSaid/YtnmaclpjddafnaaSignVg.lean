/- What sorting and compacting two rows that agree leaves is their join. No program's text. -/
import Derived.Test.YtnmaclpjddafnaaRows
import Derived.Test.YtnmaclpjddafnaaSignVp
import Derived.Lib.SlicesCompact
namespace Go.Proofs.Ytnmaclpjddafnaa
open Go Go.RowKit Go.Lib
set_option linter.unusedVariables false
set_option linter.unusedSimpArgs false
namespace Jn
theorem one_of {a b : List Ch} (h : agL a b = true) : ∀ x ∈ a ++ b, ∀ y ∈ a ++ b, eqP x y = true → x = y := by
  obtain ⟨h1, h2, h3⟩ := (ag_iff a b).1 h
  intro x hx y hy he
  rcases List.mem_append.1 hx with hx | hx
  · rcases List.mem_append.1 hy with hy | hy
    · exact may_one h1 hx hy he
    · exact (h3 x hx y hy (eqP_comm he)).symm
  · rcases List.mem_append.1 hy with hy | hy
    · exact h3 y hy x hx he
    · exact may_one h2 hx hy he
theorem mem_comp (d : Array Ch) (t : Ch) : ∀ n, t ∈ compactUpTo d n ↔ ∃ i, i < n ∧ d[i]! = t
  | 0 => by simp [compactUpTo]
  | n + 1 => by
    rw [compactUpTo_succ, List.mem_append, mem_comp d t n]
    constructor
    · rintro (⟨i, hi, e⟩ | h)
      · exact ⟨i, by omega, e⟩
      · split at h
        · rw [List.mem_singleton.1 h]; exact ⟨n, by omega, rfl⟩
        · cases h
    · rintro ⟨i, hi, e⟩
      by_cases hin : i < n
      · exact .inl ⟨i, hin, e⟩
      · obtain rfl : i = n := by omega
        rcases hk : keeps d i with _ | _
        · have hk' : ¬ (i = 0 ∨ d[i]! ≠ d[i - 1]!) := by
            unfold keeps at hk
            exact of_decide_eq_false hk
          have h0 : i ≠ 0 := fun h => hk' (.inl h)
          have h1 : d[i]! = d[i - 1]! := Classical.byContradiction fun h => hk' (.inr h)
          exact .inl ⟨i - 1, by omega, by rw [← h1]; exact e⟩
        · exact .inr (by rw [if_pos rfl]; simp [e])
theorem comp_rise {d : Array Ch} (hu : ∀ i j, i < d.size → j < d.size → eqP d[i]! d[j]! = true → d[i]! = d[j]!) (hs : ∀ i j, i < j → j < d.size → ltP d[j]! d[i]! = false) :
    ∀ n, n ≤ d.size → (compactUpTo d n).Pairwise (fun a b => ltP a b = true)
  | 0, _ => by simp [compactUpTo]
  | n + 1, hn => by
    have ih := comp_rise hu hs n (by omega)
    rw [compactUpTo_succ]
    rcases hk : keeps d n with _ | _
    · simpa using ih
    · rw [if_pos rfl, List.pairwise_append]
      refine ⟨ih, List.pairwise_singleton _ _, fun x hx y hy => ?_⟩
      rw [List.mem_singleton.1 hy]
      obtain ⟨i, hi, rfl⟩ := (mem_comp d x n).1 hx
      have h1 := hs i n hi (by omega)
      rcases he : eqP d[n]! d[i]! with _ | _
      · exact lt_of_not h1 he
      · exfalso
        have e1 := hu n i (by omega) (by omega) he
        have hk' : n = 0 ∨ d[n]! ≠ d[n - 1]! := by
          unfold keeps at hk
          exact of_decide_eq_true hk
        rcases hk' with h0 | h0
        · omega
        · rcases Nat.eq_or_lt_of_le (show i ≤ n - 1 by omega) with h2 | h2
          · rw [h2] at e1
            exact h0 e1
          · have h3 := hs i (n - 1) h2 (by omega)
            have h4 := hs (n - 1) n (by omega) (by omega)
            rw [← e1] at h3
            refine h0 (hu n (n - 1) (by omega) (by omega) ?_)
            simp only [ltP, eqP, Bool.or_eq_false_iff, Bool.and_eq_false_iff, decide_eq_false_iff_not, Bool.and_eq_true, decide_eq_true_eq] at *
            omega
theorem comp_join {a b : List Ch} (h : agL a b = true) {d : Array Ch} (hp : d.toList.Perm (a ++ b)) (hs : ∀ i j, i < j → j < d.size → ltP d[j]! d[i]! = false) : IsJoin a b (compactUpTo d d.size) := by
  have hm : ∀ i, i < d.size → d[i]! ∈ a ++ b := fun i hi => by
    refine hp.mem_iff.1 ?_
    rw [getElem!_pos d i hi]
    exact Array.getElem_mem_toList hi
  obtain ⟨h1, h2, _⟩ := (ag_iff a b).1 h
  have hall : ∀ t, t ∈ compactUpTo d d.size ↔ t ∈ a ∨ t ∈ b := fun t => by
    rw [mem_comp, ← List.mem_append, ← hp.mem_iff]
    constructor
    · rintro ⟨i, hi, rfl⟩
      rw [getElem!_pos d i hi]
      exact Array.getElem_mem_toList hi
    · intro ht
      obtain ⟨i, hi, e⟩ := List.getElem_of_mem ht
      have hi' : i < d.size := by simpa using hi
      exact ⟨i, hi', by rw [getElem!_pos d i hi']; simpa using e⟩
  refine ⟨(mayL_iff _).2 ⟨fun t ht => ?_, comp_rise (fun i j hi hj he => one_of h _ (hm i hi) _ (hm j hj) he) hs d.size (Nat.le_refl _)⟩, hall⟩
  rcases (hall t).1 ht with ht | ht
  · exact ((mayL_iff a).1 h1).1 t ht
  · exact ((mayL_iff b).1 h2).1 t ht
end Jn
end Go.Proofs.Ytnmaclpjddafnaa
