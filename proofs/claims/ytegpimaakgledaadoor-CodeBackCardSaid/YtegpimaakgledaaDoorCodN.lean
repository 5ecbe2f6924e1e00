/- The chapter's examples. -/
import Derived.Test.YtegpimaakgledaaDoorRows
import Derived.Test.YtegpimaakgledaaDoorCodM
import Derived.Test.YtegpimaakgledaaDoorCodK
namespace Go.Proofs.YtegpimaakgledaaDoor
open Go Go.RowKit
set_option linter.unusedVariables false
set_option linter.unusedSimpArgs false
namespace Cod
def ex1 : List In := [⟨1, 7⟩, ⟨3, 0⟩, ⟨29, 0⟩]
def ex2 : List In := [⟨13, 0⟩, ⟨29, 0⟩]
def ex3 : List In := [⟨22, 0⟩]
theorem ex1_ht : HtR ex1 1 [] (some [0, 1, 0]) := by
  refine .inr ⟨by decide +kernel, ?_⟩
  show Goes ex1 [0, -1, -1] ([] ++ [0]) _
  refine .go _ _ _ [0, 1, -1] [1] _ (by decide +kernel) ?_
  show Goes ex1 [0, 1, -1] ([] ++ [1]) _
  refine .go _ _ _ [0, 1, 0] [2] _ (by decide +kernel) ?_
  show Goes ex1 [0, 1, 0] ([] ++ [2]) _
  exact .go _ _ _ [0, 1, 0] [] _ (by decide +kernel) (.stop _)
theorem ex2_ht : HtR ex2 0 [] none := by
  refine .inr ⟨by decide +kernel, ?_⟩
  show Goes ex2 [0, -1] ([] ++ [0]) _
  exact .bad _ _ _ (by decide +kernel)
theorem ex3_ht : HtR ex3 0 [] none := .inl ⟨by decide +kernel, rfl⟩
theorem ex1_tx : bytes (txP 1 [] ex1) = ⟨#[118, 97, 114, 115, 32, 49, 10, 97, 114, 114, 97, 121, 115, 10, 110, 117, 109, 32, 55, 10, 115, 101, 116, 10, 115, 116, 111, 112, 10]⟩ := by decide +kernel
theorem ok_small {x : In} (h : 0 ≤ x.op ∧ x.op ≤ 255 ∧ 0 ≤ x.n ∧ x.n ≤ 1000) : x.ok := ⟨h.1, h.2.1, by omega, by omega⟩
theorem ex1_ok : ∀ x ∈ ex1, x.ok := fun x hx => ok_small (by revert x; decide +kernel)
theorem ex2_ok : ∀ x ∈ ex2, x.ok := fun x hx => ok_small (by revert x; decide +kernel)
theorem ex3_ok : ∀ x ∈ ex3, x.ok := fun x hx => ok_small (by revert x; decide +kernel)
/-- A row of numbers that was just made. -/
theorem IntAt.new (w : World) (t : TypeId) (l : List Int) (hl : ∀ x ∈ l, -9223372036854775808 ≤ x ∧ x ≤ 9223372036854775807) : IntAt (w.alloc (.cells (intCs l).toArray t)) (some ⟨w.heap.size, 0, none⟩) l := fun h0 => by
  refine ⟨_, rfl, by show w.heap.size < _; simp, fun i hi => ⟨?_, hl _ (List.getElem_mem hi)⟩⟩
  have a0 : (⟨w.heap.size, 0, none⟩ : Addr).add i = ⟨w.heap.size, i, none⟩ := by unfold Addr.add; split <;> simp_all
  rw [a0, (Blk.new w t _).cell i]
  simp [intCs, hi]
theorem IntAt.nil (w : World) (A : Option Addr) : IntAt w A [] := fun h => absurd h (Nat.lt_irrefl 0)
end Cod
end Go.Proofs.YtegpimaakgledaaDoor
