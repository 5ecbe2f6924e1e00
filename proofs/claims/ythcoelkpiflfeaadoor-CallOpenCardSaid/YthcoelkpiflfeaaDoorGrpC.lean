/- A group in memory of its own: the program's own. -/
import Derived.Test.YthcoelkpiflfeaaDoorRows
import Derived.Test.YthcoelkpiflfeaaDoorGrpB
import Derived.Test.YthcoelkpiflfeaaDoorGround
import Derived.Laws.IdiomCopy
import Derived.Laws.MakeOwn
namespace Go.Proofs.YthcoelkpiflfeaaDoor
open Go.RowKit
set_option linter.unusedVariables false
set_option linter.unusedSimpArgs false
namespace Grp
def ints (l : List Int) : List Value := l.map (Value.int .i64)
theorem ints_len (l : List Int) : (ints l).length = l.length := by simp [ints]
theorem ints_at {l : List Int} {j : Nat} (h : j < l.length) : (ints l)[j]? = some (.int .i64 (l.getD j 0)) := by
  rw [ints, List.getElem?_map, List.getD, List.getElem?_eq_getElem h]
  rfl
theorem ints_one (l : List Int) : ∀ v ∈ ints l, v.oneCell' = true := by
  intro v hv
  obtain ⟨z, _, rfl⟩ := List.mem_map.1 hv
  rfl
theorem int_infoG : (Tryd.prog.info? 3).map (fun i => (i.zero, i.size, i.bytes)) = some (some (.int .i64 0), 1, 8) := by kernel_rfl
end Grp
end Go.Proofs.YthcoelkpiflfeaaDoor
