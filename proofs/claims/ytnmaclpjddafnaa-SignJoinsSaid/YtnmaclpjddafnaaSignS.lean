/- A beginning of a row that may be, may be, and is within the row. -/
import Derived.Test.YtnmaclpjddafnaaRows
import Derived.Test.YtnmaclpjddafnaaSignQ
namespace Go.Proofs.Ytnmaclpjddafnaa
open Go.RowKit
set_option linter.unusedVariables false
set_option linter.unusedSimpArgs false
theorem mayFrom_take {l : List Ch} {n : Nat} (hn : n ≤ l.length) : ∀ i, i ≤ n → mayFrom (l.take n) i = mayFrom l i
  | 0, _ => rfl
  | i + 1, hi => by
    rw [mayFrom_succ, mayFrom_succ, mayFrom_take hn i (by omega)]
    have e : ∀ k, k < n → (l.take n).getD k default = l.getD k default := fun k hk => by
      simp [List.getD, List.getElem?_take, hk]
    rw [e i (by omega), e (i - 1) (by omega)]
theorem mayL_take {l : List Ch} {n : Nat} (hn : n ≤ l.length) (h : mayL l = true) : mayL (l.take n) = true := by
  have e : (l.take n).length = n := by simp [hn]
  unfold mayL
  rw [e, mayFrom_take hn n (Nat.le_refl _)]
  rcases hc : mayFrom l n with _ | _
  · have := mayFrom_false hc hn
    unfold mayL at h
    rw [h] at this
    cases this
  · rfl
theorem at_own {l : List Ch} {k : Nat} (h : mayL l = true) (hk : k < l.length) : atR l l[k].r l[k].c = (l[k], true) := by
  unfold atR
  rw [find_hit hk (by rw [atP_eq]; exact eqP_self _) fun j hj => by rw [atP_eq]; exact lt_not_eq (mayL_lt h k j hj hk)]
theorem st_own {l : List Ch} {k : Nat} (h : mayL l = true) (hk : k < l.length) : stWi l l[k] = true := by
  unfold stWi
  rw [at_own h hk]
  simp
theorem wi_take {l : List Ch} {n : Nat} (hn : n ≤ l.length) (h : mayL l = true) : wiL (l.take n) l = true := by
  rw [wiL_wiQ]
  unfold wiQ
  rw [mayL_take hn h, h]
  have e : (l.take n).all (stWi l) = true := by
    rw [List.all_eq_true]
    intro x hx
    obtain ⟨k, hk, rfl⟩ := List.getElem_of_mem (List.mem_of_mem_take hx)
    exact st_own h hk
  rw [e]
  rfl
end Go.Proofs.Ytnmaclpjddafnaa
