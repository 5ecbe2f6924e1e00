/- Those who ask, picked one by one: the least one first. No program's text. -/
import Derived.Test.YtgiibknfkphkgaaDoorRows
import Derived.Test.YtgiibknfkphkgaaDoorSpR
namespace Go.Proofs.YtgiibknfkphkgaaDoor
open Go Go.RowKit Go.Proofs.YtgiibknfkphkgaaDoor.Grp
set_option linter.unusedVariables false
set_option linter.unusedSimpArgs false
namespace Sp
theorem ltA_irrefl (x : Ak) : ¬ ltA x x := by unfold ltA; omega
theorem ltA_trans {x y z : Ak} (h1 : ltA x y) (h2 : ltA y z) : ltA x z := by unfold ltA at *; omega
theorem pw_eq : ∀ {L1 L2 : List Ak}, L1.Pairwise ltA → L2.Pairwise ltA → (∀ x, x ∈ L1 ↔ x ∈ L2) → L1 = L2
  | [], [], _, _, _ => rfl
  | [], b :: l2, _, _, h => by have := (h b).2 List.mem_cons_self; cases this
  | a :: l1, [], _, _, h => by have := (h a).1 List.mem_cons_self; cases this
  | a :: l1, b :: l2, h1, h2, h => by
    have h1' := List.pairwise_cons.1 h1
    have h2' := List.pairwise_cons.1 h2
    have hab : a = b := by
      rcases List.mem_cons.1 ((h a).1 List.mem_cons_self) with e | hm
      · exact e
      · rcases List.mem_cons.1 ((h b).2 List.mem_cons_self) with e | hm2
        · exact e.symm
        · exact absurd (ltA_trans (h1'.1 b hm2) (h2'.1 a hm)) (ltA_irrefl a)
    subst hab
    rw [pw_eq h1'.2 h2'.2 fun x => ?_]
    constructor
    · intro hx
      rcases List.mem_cons.1 ((h x).1 (List.mem_cons_of_mem _ hx)) with e | hm
      · subst e
        exact absurd (h1'.1 x hx) (ltA_irrefl x)
      · exact hm
    · intro hx
      rcases List.mem_cons.1 ((h x).2 (List.mem_cons_of_mem _ hx)) with e | hm
      · subst e
        exact absurd (h2'.1 x hx) (ltA_irrefl x)
      · exact hm
section
variable (q : List (Int × Int)) (l : List Int)
/-- The one who asks at a place. -/
def akOf (j : Nat) : Ak := ⟨(q.getD j (0, 0)).1, (q.getD j (0, 0)).2, j, l.getD j 0⟩
/-- It asks for a color, and isn't picked yet. -/
def Cand (D : Nat → Bool) (j : Nat) : Prop := D j = false ∧ 0 ≤ (q.getD j (0, 0)).1
/-- The least one of the first i, or -1. -/
def Best (D : Nat → Bool) (i : Nat) (z : Int) : Prop := (z = -1 ∧ ∀ j, j < i → ¬ Cand q D j) ∨ ∃ b : Nat, b < i ∧ z = (b : Int) ∧ Cand q D b ∧ ∀ j, j < i → Cand q D j → j ≠ b → ltA (akOf q l b) (akOf q l j)
theorem best_skip {D : Nat → Bool} {i : Nat} {z : Int} (h : Best q l D i z) (hc : ¬ Cand q D i) : Best q l D (i + 1) z := by
  rcases h with ⟨rfl, h⟩ | ⟨b, hb, rfl, hcb, h⟩
  · refine .inl ⟨rfl, fun j hj => ?_⟩
    rcases Nat.lt_or_ge j i with h1 | h1
    · exact h j h1
    · rw [show j = i by omega]; exact hc
  · refine .inr ⟨b, by omega, rfl, hcb, fun j hj hcj hne => ?_⟩
    rcases Nat.lt_or_ge j i with h1 | h1
    · exact h j h1 hcj hne
    · rw [show j = i by omega] at hcj; exact absurd hcj hc
theorem best_first {D : Nat → Bool} {i : Nat} (h : Best q l D i (-1)) (hc : Cand q D i) : Best q l D (i + 1) (i : Int) := by
  rcases h with ⟨_, h⟩ | ⟨b, hb, e, _⟩
  · refine .inr ⟨i, by omega, rfl, hc, fun j hj hcj hne => ?_⟩
    exact absurd hcj (h j (by omega))
  · omega
theorem best_new {D : Nat → Bool} {i b : Nat} (h : Best q l D i (b : Int)) (hc : Cand q D i) (hlt : (q.getD i (0, 0)).1 < (q.getD b (0, 0)).1 ∨ ((q.getD i (0, 0)).1 = (q.getD b (0, 0)).1 ∧ (q.getD i (0, 0)).2 < (q.getD b (0, 0)).2)) : Best q l D (i + 1) (i : Int) := by
  rcases h with ⟨e, _⟩ | ⟨b', hb, e, hcb, h⟩
  · omega
  · obtain rfl : b = b' := by omega
    have hib : ltA (akOf q l i) (akOf q l b) := by
      unfold ltA akOf
      simp only
      omega
    refine .inr ⟨i, by omega, rfl, hc, fun j hj hcj hne => ?_⟩
    by_cases e : j = b
    · subst e; exact hib
    · exact ltA_trans hib (h j (by omega) hcj e)
theorem best_old {D : Nat → Bool} {i b : Nat} (h : Best q l D i (b : Int)) (hlt : ¬ ((q.getD i (0, 0)).1 < (q.getD b (0, 0)).1 ∨ ((q.getD i (0, 0)).1 = (q.getD b (0, 0)).1 ∧ (q.getD i (0, 0)).2 < (q.getD b (0, 0)).2))) : Best q l D (i + 1) (b : Int) := by
  rcases h with ⟨e, _⟩ | ⟨b', hb, e, hcb, h⟩
  · omega
  · obtain rfl : b = b' := by omega
    refine .inr ⟨b, by omega, rfl, hcb, fun j hj hcj hne => ?_⟩
    rcases Nat.lt_or_ge j i with h1 | h1
    · exact h j h1 hcj hne
    · obtain rfl : j = i := by omega
      unfold ltA akOf
      simp only
      omega
theorem best_lt {D : Nat → Bool} {i b : Nat} (h : Best q l D i (b : Int)) : b < i ∧ Cand q D b := by
  rcases h with ⟨e, _⟩ | ⟨b', hb, e, hcb, h⟩
  · omega
  · obtain rfl : b = b' := by omega
    exact ⟨hb, hcb⟩
/-- What is picked so far. -/
structure Picked (D : Nat → Bool) (P : List Ak) : Prop where
  pw : P.Pairwise ltA
  mem : ∀ x, x ∈ P ↔ ∃ j, j < q.length ∧ D j = true ∧ x = akOf q l j
  col : ∀ j, j < q.length → D j = true → 0 ≤ (q.getD j (0, 0)).1
  ahead : ∀ x ∈ P, ∀ j, j < q.length → Cand q D j → ltA x (akOf q l j)
theorem Picked.nil {D : Nat → Bool} (h : ∀ j, j < q.length → D j = false) : Picked q l D [] :=
  ⟨List.Pairwise.nil, (fun x => ⟨(fun hx => by cases hx), (fun ⟨j, hj, hd, _⟩ => by rw [h j hj] at hd; cases hd)⟩), (fun j hj hd => by rw [h j hj] at hd; cases hd), (fun x hx => by cases hx)⟩
theorem Picked.snoc {D : Nat → Bool} {P : List Ak} {b : Nat} (h : Picked q l D P) (hb : Best q l D q.length (b : Int)) : Picked q l (fun j => D j || decide (j = b)) (P ++ [akOf q l b]) := by
  rcases hb with ⟨e, _⟩ | ⟨b', hbl, e, hcb, hlt⟩
  · omega
  obtain rfl : b = b' := by omega
  refine ⟨?_, fun x => ?_, fun j hj hd => ?_, fun x hx j hj hc => ?_⟩
  · rw [List.pairwise_append]
    refine ⟨h.pw, List.pairwise_singleton _ _, fun x hx y hy => ?_⟩
    rw [List.mem_singleton.1 hy]
    exact h.ahead x hx b hbl hcb
  · rw [List.mem_append, List.mem_singleton, h.mem x]
    constructor
    · rintro (⟨j, hj, hd, rfl⟩ | rfl)
      · exact ⟨j, hj, by simp [hd], rfl⟩
      · exact ⟨b, hbl, by simp, rfl⟩
    · rintro ⟨j, hj, hd, rfl⟩
      by_cases e : j = b
      · exact .inr (by rw [e])
      · exact .inl ⟨j, hj, by simpa [e] using hd, rfl⟩
  · by_cases e : j = b
    · rw [e]; exact hcb.2
    · exact h.col j hj (by simpa [e] using hd)
  · have hjb : j ≠ b := fun e => by
      have := hc.1
      simp [e] at this
    have hcj : Cand q D j := ⟨by have := hc.1; simp [hjb] at this; exact this, hc.2⟩
    rcases List.mem_append.1 hx with hx | hx
    · exact h.ahead x hx j hj hcj
    · rw [List.mem_singleton.1 hx]
      exact hlt j hj hcj hjb
/-- Where none is left, all who ask are picked. -/
theorem Picked.all {D : Nat → Bool} {P : List Ak} (h : Picked q l D P) (hb : Best q l D q.length (-1)) : P.Pairwise ltA ∧ ∀ x, x ∈ P ↔ x ∈ askL q l q.length := by
  have hno : ∀ j, j < q.length → ¬ Cand q D j := by
    rcases hb with ⟨_, h⟩ | ⟨b, _, e, _⟩
    · exact h
    · omega
  refine ⟨h.pw, fun x => ?_⟩
  rw [h.mem x]
  constructor
  · rintro ⟨j, hj, hd, rfl⟩
    exact mem_ask q.length j hj (h.col j hj hd)
  · intro hx
    obtain ⟨j, hj, h0, rfl⟩ := ask_mem2 q.length x hx
    refine ⟨j, hj, ?_, rfl⟩
    cases hd : D j with
    | true => rfl
    | false => exact absurd ⟨hd, h0⟩ (hno j hj)
end
end Sp
end Go.Proofs.YtgiibknfkphkgaaDoor
