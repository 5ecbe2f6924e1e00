/- Who asks, in order: there is but one such row. No program's text. -/
import Derived.Test.YtgiibknfkphkgaaDoorRows
import Derived.Test.YtgiibknfkphkgaaDoorSpI
namespace Go.Proofs.YtgiibknfkphkgaaDoor
open Go Go.RowKit
set_option linter.unusedVariables false
set_option linter.unusedSimpArgs false
namespace Sp
theorem srt_pw {L : List Ak} (h : Srt L) : L.Pairwise (fun x y => ¬ ltA y x) := by
  rw [List.pairwise_iff_getElem]
  intro i j hi hj hij
  exact h i j hij hj
theorem srt_unique {L1 L2 : List Ak} (hp : L1.Perm L2) (h1 : Srt L1) (h2 : Srt L2) (hn : ∀ x ∈ L2, ∀ y ∈ L2, x.n = y.n → x = y) : L1 = L2 := by
  refine List.Perm.eq_of_pairwise (fun a b ha hb h3 h4 => ?_) (srt_pw h1) (srt_pw h2) hp
  refine hn a (hp.mem_iff.1 ha) b hb ?_
  unfold ltA at h3 h4
  omega
theorem ask_mem2 {q : List (Int × Int)} {l : List Int} : ∀ i, ∀ x ∈ askL q l i, ∃ j : Nat, j < i ∧ 0 ≤ (q.getD j (0, 0)).1 ∧ x = ⟨(q.getD j (0, 0)).1, (q.getD j (0, 0)).2, j, l.getD j 0⟩
  | 0, x, hx => by cases hx
  | i + 1, x, hx => by
    rw [askL] at hx
    rcases List.mem_append.1 hx with hx | hx
    · obtain ⟨j, hj, h⟩ := ask_mem2 i x hx
      exact ⟨j, by omega, h⟩
    · split at hx
      · rename_i h
        rw [List.mem_singleton.1 hx]
        exact ⟨i, by omega, h, rfl⟩
      · cases hx
theorem mem_ask {q : List (Int × Int)} {l : List Int} : ∀ i j : Nat, j < i → 0 ≤ (q.getD j (0, 0)).1 → (⟨(q.getD j (0, 0)).1, (q.getD j (0, 0)).2, j, l.getD j 0⟩ : Ak) ∈ askL q l i
  | 0, j, hj, _ => absurd hj (Nat.not_lt_zero j)
  | i + 1, j, hj, h => by
    rw [askL]
    by_cases e : j = i
    · subst e
      exact List.mem_append.2 (.inr (by rw [if_pos h]; exact List.mem_singleton.2 rfl))
    · exact List.mem_append.2 (.inl (mem_ask i j (by omega) h))
theorem ask_inj {q : List (Int × Int)} {l : List Int} {i : Nat} {x y : Ak} (hx : x ∈ askL q l i) (hy : y ∈ askL q l i) (h : x.n = y.n) : x = y := by
  obtain ⟨j, _, _, rfl⟩ := ask_mem2 i x hx
  obtain ⟨k, _, _, rfl⟩ := ask_mem2 i y hy
  have : j = k := Int.ofNat.inj h
  rw [this]
/-- The example's row. -/
theorem ex_srt {L : List Ak} (hp : L.Perm (askL [(1, 5), (0, 0), (1, 2), (-1, 0)] [0, 1, 2, 3] 4)) (hs : Srt L) : L = [⟨0, 0, 1, 1⟩, ⟨1, 2, 2, 2⟩, ⟨1, 5, 0, 0⟩] := by
  have e : askL [(1, 5), (0, 0), (1, 2), (-1, 0)] [0, 1, 2, 3] 4 = [⟨1, 5, 0, 0⟩, ⟨0, 0, 1, 1⟩, ⟨1, 2, 2, 2⟩] := by decide
  refine srt_unique (hp.trans ?_) hs ?_ ?_
  · rw [e]
    decide
  · have all : ∀ i j : Fin 3, i < j → ¬ ltA ([⟨0, 0, 1, 1⟩, ⟨1, 2, 2, 2⟩, ⟨1, 5, 0, 0⟩] : List Ak)[j] ([⟨0, 0, 1, 1⟩, ⟨1, 2, 2, 2⟩, ⟨1, 5, 0, 0⟩] : List Ak)[i] := by
      unfold ltA
      decide
    intro i j hij hj
    have hj : j < 3 := hj
    exact all ⟨i, by omega⟩ ⟨j, hj⟩ hij
  · intro x hx y hy h
    simp only [List.mem_cons, List.not_mem_nil, or_false] at hx hy
    rcases hx with rfl | rfl | rfl <;> rcases hy with rfl | rfl | rfl <;> simp at h <;> rfl
end Sp
end Go.Proofs.YtgiibknfkphkgaaDoor
