/- Groups, in plain words: which may be. No program's text. -/
import Derived.Test.YthcoelkpiflfeaaDoorRows
import Derived.Test.YthcoelkpiflfeaaDoorGround
import Derived.RowKit
namespace Go.Proofs.YthcoelkpiflfeaaDoor
open Go.RowKit
set_option linter.unusedVariables false
set_option linter.unusedSimpArgs false
namespace Grp
/-- Ranks that may be in a group: each from 0 to 63, none twice. -/
def okL (l : List Int) : Prop := (∀ z ∈ l, 0 ≤ z ∧ z < 64) ∧ l.Nodup
instance (l : List Int) : Decidable (okL l) := by unfold okL; infer_instance
def mayL (l : List Int) : Prop := 1 ≤ l.length ∧ l.length ≤ 64 ∧ okL l
instance (l : List Int) : Decidable (mayL l) := by unfold mayL; infer_instance
theorem okL_nil : okL [] := ⟨fun z hz => (by cases hz), List.nodup_nil⟩
theorem okL_snoc {l : List Int} {z : Int} (h : okL l) (hz : 0 ≤ z ∧ z < 64) (hn : ¬ z ∈ l) : okL (l ++ [z]) := by
  refine ⟨fun y hy => ?_, ?_⟩
  · rcases List.mem_append.1 hy with hy | hy
    · exact h.1 y hy
    · rw [List.mem_singleton.1 hy]; exact hz
  · rw [List.nodup_append]
    refine ⟨h.2, List.nodup_cons.2 ⟨by simp, List.nodup_nil⟩, fun a ha b hb e => ?_⟩
    rw [List.mem_singleton.1 hb] at e
    exact hn (e ▸ ha)
theorem take_snoc (l : List Int) (k : Nat) (h : k < l.length) : l.take (k + 1) = l.take k ++ [l.getD k 0] := by
  rw [List.take_succ_eq_append_getElem h, List.getD, List.getElem?_eq_getElem h]
  rfl
theorem getD_mem {l : List Int} {k : Nat} (h : k < l.length) : l.getD k 0 ∈ l := by
  rw [List.getD, List.getElem?_eq_getElem h]
  exact List.getElem_mem h
/-- What isn't well at a place: then the whole row isn't. -/
theorem not_ok_range {l : List Int} {k : Nat} (h : k < l.length) (hz : ¬ (0 ≤ l.getD k 0 ∧ l.getD k 0 < 64)) : ¬ mayL l := fun hm => hz (hm.2.2.1 _ (getD_mem h))
theorem not_ok_twice {l : List Int} {k : Nat} (h : k < l.length) (hz : l.getD k 0 ∈ l.take k) : ¬ mayL l := fun hm => by
  have h1 := hm.2.2.2
  have e : l = l.take k ++ l.drop k := (List.take_append_drop k l).symm
  rw [e, List.nodup_append] at h1
  refine h1.2.2 _ hz (l.getD k 0) ?_ rfl
  rw [List.drop_eq_getElem_cons h, List.getD, List.getElem?_eq_getElem h]
  exact List.mem_cons_self
/-- Which ranks are there, as the program keeps it. -/
def thC (p : List Int) : Array Value := ((List.range 64).map fun (j : Nat) => Value.bool (decide ((j : Int) ∈ p))).toArray
theorem thC_at (p : List Int) (j : Nat) (h : j < 64) : (thC p)[j]? = some (.bool (decide ((j : Int) ∈ p))) := by
  unfold thC
  rw [List.getElem?_toArray, List.getElem?_map, List.getElem?_range h]
  rfl
theorem thC_set (p : List Int) (j : Nat) (h : j < 64) : (thC p).setIfInBounds j (.bool true) = thC (p ++ [(j : Int)]) := by
  apply Array.ext
  · simp [thC]
  · intro i h1 h2
    have hi : i < 64 := by simpa [thC] using h2
    rw [Array.getElem_setIfInBounds (by simpa [thC] using hi)]
    by_cases e : j = i
    · subst e
      simp [thC]
    · have e2 : ¬ (i : Int) = (j : Int) := by omega
      simp [thC, e, e2]
end Grp
end Go.Proofs.YthcoelkpiflfeaaDoor
