/- A group in memory of its own: the reference's Copy. -/
import Derived.Test.YthcoelkpiflfeaaDoorRows
import Derived.Test.YthcoelkpiflfeaaDoorGrpC
import Derived.Test.YthcoelkpiflfeaaDoorGround
import Derived.Lib.AppendZeros
namespace Go.Proofs.YthcoelkpiflfeaaDoor
open Go.RowKit
set_option linter.unusedVariables false
set_option linter.unusedSimpArgs false
namespace Grp
theorem NRow.reads {w : World} {A : Option Addr} {l : List Int} (h : NRow w A l) : Reads w w.heap.size 1 A l.length (ints l) := by
  refine ⟨by rw [ints_len]; omega, fun h0 => ?_⟩
  obtain ⟨a, rfl, ha, hc⟩ := h h0
  refine ⟨a, rfl, ha, fun j u hu => ?_⟩
  have hj : j < l.length := by have := (List.getElem?_eq_some_iff.1 hu).1; rwa [ints_len] at this
  rw [ints_at hj] at hu
  rw [hc j hj]
  exact hu
end Grp
end Go.Proofs.YthcoelkpiflfeaaDoor
