/- Whether numbers, groups are the same: the reference's Ints and Same. -/
import Derived.Test.YthcoelkpiflfeaaDoorRows
import Derived.Test.YthcoelkpiflfeaaDoorGrpD
namespace Go.Proofs.YthcoelkpiflfeaaDoor
open Go.RowKit
set_option linter.unusedVariables false
set_option linter.unusedSimpArgs false
namespace Grp
theorem ints_eq {a b : List Int} (hn : a.length = b.length) (h : ∀ i, i < a.length → a.getD i 0 = b.getD i 0) : decide (a = b) = true := by
  refine decide_eq_true (List.ext_getElem hn fun i h1 h2 => ?_)
  have := h i h1
  rw [List.getD, List.getD, List.getElem?_eq_getElem h1, List.getElem?_eq_getElem h2] at this
  exact this
theorem ints_ne {a b : List Int} {i : Nat} (h : ¬ a.getD i 0 = b.getD i 0) : decide (a = b) = false := decide_eq_false fun e => h (by rw [e])
theorem str_eq_dec (k1 k2 : ByteArray) : (k1.toList == k2.toList) = decide (k1 = k2) := by
  rw [Bool.eq_iff_iff]
  simp only [beq_iff_eq, decide_eq_true_eq]
  constructor
  · intro h
    rw [ByteArray.toList_eq, ByteArray.toList_eq] at h
    exact ByteArray.ext (Array.toList_inj.1 h)
  · rintro rfl; rfl
end Grp
end Go.Proofs.YthcoelkpiflfeaaDoor
