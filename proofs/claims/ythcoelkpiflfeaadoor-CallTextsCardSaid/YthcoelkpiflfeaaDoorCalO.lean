/- Whether a group may be: the document of calls. -/
import Derived.Test.YthcoelkpiflfeaaDoorRows
import Derived.Test.YthcoelkpiflfeaaDoorCalK
import Derived.BigQuiet
namespace Go.Proofs.YthcoelkpiflfeaaDoor
open Go Go.RowKit Go.Lib Go.Proofs.YthcoelkpiflfeaaDoor.Grp
set_option linter.unusedVariables false
set_option linter.unusedSimpArgs false
namespace Cal
theorem mem_take {l : List Int} {k : Nat} {z : Int} (h : z ∈ l.take k) (hk : k ≤ l.length) : ∃ m, m < k ∧ l.getD m 0 = z := by
  obtain ⟨m, hm, e⟩ := List.getElem_of_mem h
  rw [List.length_take] at hm
  refine ⟨m, by omega, ?_⟩
  rw [List.getElem_take] at e
  rw [List.getD, List.getElem?_eq_getElem (by omega)]
  exact e
theorem take_mem {l : List Int} {m k : Nat} (h : m < k) (hk : k ≤ l.length) : l.getD m 0 ∈ l.take k := by
  rw [List.getD, List.getElem?_eq_getElem (by omega)]
  have : (l.take k)[m]'(by rw [List.length_take]; omega) = l[m] := List.getElem_take
  show l[m] ∈ l.take k
  rw [← this]
  exact List.getElem_mem _
end Cal
end Go.Proofs.YthcoelkpiflfeaaDoor
