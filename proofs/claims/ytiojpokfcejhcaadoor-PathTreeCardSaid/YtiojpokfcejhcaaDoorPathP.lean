/- Points, in plain words: which may be. No program's text. -/
import Derived.Test.YtiojpokfcejhcaaDoorRows
import Derived.Test.YtiojpokfcejhcaaDoorSignP
namespace Go.Proofs.YtiojpokfcejhcaaDoor
open Go.RowKit
set_option linter.unusedVariables false
set_option linter.unusedSimpArgs false
namespace Pth
/-- Values that may be a point's, so far. -/
def okV (r c : Int) (l : List Ch) : Prop := (∀ x ∈ l, x.r = r ∧ x.c = c) ∧ l.Nodup
instance (r c : Int) (l : List Ch) : Decidable (okV r c l) := by unfold okV; infer_instance
def mayV (r c : Int) (l : List Ch) : Prop := 0 < l.length ∧ okV r c l
instance (r c : Int) (l : List Ch) : Decidable (mayV r c l) := by unfold mayV; infer_instance
theorem okV_nil (r c : Int) : okV r c [] := ⟨fun x hx => (by cases hx), List.nodup_nil⟩
theorem okV_snoc {r c : Int} {l : List Ch} {x : Ch} (h : okV r c l) (hx : x.r = r ∧ x.c = c) (hn : ¬ x ∈ l) : okV r c (l ++ [x]) := by
  refine ⟨fun y hy => ?_, ?_⟩
  · rcases List.mem_append.1 hy with hy | hy
    · exact h.1 y hy
    · rw [List.mem_singleton.1 hy]; exact hx
  · rw [List.nodup_append]
    refine ⟨h.2, List.nodup_cons.2 ⟨by simp, List.nodup_nil⟩, fun a ha b hb e => ?_⟩
    rw [List.mem_singleton.1 hb] at e
    exact hn (e ▸ ha)
theorem take_snoc (l : List Ch) (k : Nat) (h : k < l.length) : l.take (k + 1) = l.take k ++ [l[k]] := List.take_succ_eq_append_getElem h
theorem not_range {r c : Int} {l : List Ch} {k : Nat} (h : k < l.length) (hz : ¬ (l[k].r = r ∧ l[k].c = c)) : ¬ mayV r c l := fun hm => hz (hm.2.1 _ (List.getElem_mem h))
theorem not_twice {r c : Int} {l : List Ch} {k : Nat} (h : k < l.length) (hz : l[k] ∈ l.take k) : ¬ mayV r c l := fun hm => by
  have h1 := hm.2.2
  have e : l = l.take k ++ l.drop k := (List.take_append_drop k l).symm
  rw [e, List.nodup_append] at h1
  refine h1.2.2 _ hz (l[k]) ?_ rfl
  rw [List.drop_eq_getElem_cons h]
  exact List.mem_cons_self
end Pth
end Go.Proofs.YtiojpokfcejhcaaDoor
