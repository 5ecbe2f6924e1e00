/- The order of rows of choices, in plain words: of two unlike ones one is ahead, of like ones neither; it is transitive; a beginning is ahead. -/
import Derived.Test.YtdojmjbknkbpoaaDoorRows
import Derived.Test.YtdojmjbknkbpoaaDoorSignN
namespace Go.Proofs.YtdojmjbknkbpoaaDoor
open Go.RowKit
set_option linter.unusedVariables false
set_option linter.unusedSimpArgs false
theorem or_neg (z : Int) (l : List Int) : orL (z :: l) < 0 ↔ z < 0 ∨ (z = 0 ∧ orL l < 0) := by
  rw [orL]
  split <;> omega
theorem or_nil : ¬ orL [] < 0 := by
  show ¬ (0 : Int) < 0
  omega
theorem pt_neg (x y : Ch) : ptC x y < 0 ↔ x.r < y.r ∨ (x.r = y.r ∧ x.c < y.c) := by
  rw [ptC_neg]
  simp [ltP]
theorem pt_zero (x y : Ch) : ptC x y = 0 ↔ x.r = y.r ∧ x.c = y.c := by
  rw [ptC_zero]
  simp [eqP]
/-- Is a choice ahead of another one? -/
def AhP (x y : Ch) : Prop := x.r < y.r ∨ (x.r = y.r ∧ (x.c < y.c ∨ (x.c = y.c ∧ (x.v < y.v ∨ (x.v = y.v ∧ (x.f < y.f ∨ (x.f = y.f ∧ x.s < y.s)))))))
theorem ah_neg (x y : Ch) : ahC x y < 0 ↔ AhP x y := by
  unfold ahC AhP
  rw [or_neg, or_neg, or_neg, or_neg, pt_neg, pt_zero, cmpI_neg, cmpI_neg, cmpI_neg, cmpI_zero, cmpI_zero, cmpI_zero]
  have := or_nil
  omega
theorem ch_ext {x y : Ch} (h : ∀ j, j < 5 → rowG x j = rowG y j) : x = y := by
  obtain ⟨r, c, f, s, v⟩ := x
  obtain ⟨r', c', f', s', v'⟩ := y
  have h0 : r = r' := h 0 (by omega)
  have h1 : c = c' := h 1 (by omega)
  have h2 : v = v' := h 2 (by omega)
  have h3 : f = f' := h 3 (by omega)
  have h4 : s = s' := h 4 (by omega)
  rw [h0, h1, h2, h3, h4]
theorem ah_self (x : Ch) : ahC x x = 0 := ah_zero fun _ _ => rfl
theorem ahP_tri (x y : Ch) : AhP x y ∨ AhP y x ∨ x = y := by
  obtain ⟨r, c, f, s, v⟩ := x
  obtain ⟨r', c', f', s', v'⟩ := y
  unfold AhP
  simp only [Ch.mk.injEq]
  omega
theorem ahP_asymm {x y : Ch} (h : AhP x y) : ¬ AhP y x := by
  unfold AhP at *
  omega
theorem ahP_trans {x y z : Ch} (h : AhP x y) (h' : AhP y z) : AhP x z := by
  unfold AhP at *
  omega
theorem cmp_cons (x y : Ch) (a b : List Ch) : cmpL (x :: a) (y :: b) < 0 ↔ AhP x y ∨ (x = y ∧ cmpL a b < 0) := by
  rw [cmpL]
  by_cases h : x = y
  · subst h
    have hn : ¬ AhP x x := fun h => ahP_asymm h h
    rw [if_pos (ah_self x)]
    simp [hn]
  · have hz : ¬ ahC x y = 0 := fun hz => by
      rcases ahP_tri x y with h1 | h1 | h1
      · have := (ah_neg x y).2 h1; omega
      · refine h (ch_ext fun j hj => ?_)
        by_cases hx : ∃ k, k < 5 ∧ rowG x k ≠ rowG y k
        · exfalso
          obtain ⟨k, hk, hne⟩ := hx
          have key : ∀ n, n ≤ 5 → ∀ i, i < n → rowG x i = rowG y i := fun n => by
            induction n with
            | zero => intro _ i hi; omega
            | succ n ih =>
              intro hn i hi
              rcases Nat.lt_or_ge i n with h5 | h5
              · exact ih (by omega) i h5
              · obtain rfl : i = n := by omega
                by_cases he : rowG x i = rowG y i
                · exact he
                · exact absurd hz (ah_at (by omega) (fun j hj => ih (by omega) j hj) he).1
          exact hne (key 5 (Nat.le_refl _) k hk)
        · by_cases he : rowG x j = rowG y j
          · exact he
          · exact absurd ⟨j, hj, he⟩ hx
      · exact h h1
    rw [if_neg hz, ah_neg]
    simp [h]
theorem cmp_irrefl : ∀ a : List Ch, ¬ cmpL a a < 0
  | [] => by rw [cmpL]; omega
  | x :: a => by
    rw [cmp_cons]
    rintro (h | ⟨_, h⟩)
    · exact ahP_asymm h h
    · exact cmp_irrefl a h
theorem cmp_tri : ∀ a b : List Ch, cmpL a b < 0 ∨ cmpL b a < 0 ∨ a = b
  | [], [] => .inr (.inr rfl)
  | [], _ :: _ => .inl (by rw [cmpL]; omega)
  | _ :: _, [] => .inr (.inl (by rw [cmpL]; omega))
  | x :: a, y :: b => by
    rw [cmp_cons, cmp_cons]
    rcases ahP_tri x y with h | h | h
    · exact .inl (.inl h)
    · exact .inr (.inl (.inl h))
    · subst h
      rcases cmp_tri a b with h | h | h
      · exact .inl (.inr ⟨rfl, h⟩)
      · exact .inr (.inl (.inr ⟨rfl, h⟩))
      · subst h
        exact .inr (.inr rfl)
theorem cmp_trans : ∀ {a b c : List Ch}, cmpL a b < 0 → cmpL b c < 0 → cmpL a c < 0
  | [], [], _, h, _ => by rw [cmpL] at h; omega
  | _ :: _, [], _, h, _ => by rw [cmpL] at h; omega
  | _, _ :: _, [], _, h => by rw [cmpL] at h; omega
  | [], _ :: _, _ :: _, _, _ => by rw [cmpL]; omega
  | x :: a, y :: b, z :: c, h, h' => by
    rw [cmp_cons] at *
    rcases h with h | ⟨rfl, h⟩
    · rcases h' with h' | ⟨rfl, h'⟩
      · exact .inl (ahP_trans h h')
      · exact .inl h
    · rcases h' with h' | ⟨rfl, h'⟩
      · exact .inl h'
      · exact .inr ⟨rfl, cmp_trans h h'⟩
theorem cmp_start : ∀ (a : List Ch) (x : Ch), cmpL a (a ++ [x]) < 0
  | [], x => by show cmpL [] [x] < 0; rw [cmpL]; omega
  | y :: a, x => by
    show cmpL (y :: a) (y :: (a ++ [x])) < 0
    rw [cmp_cons]
    exact .inr ⟨rfl, cmp_start a x⟩
end Go.Proofs.YtdojmjbknkbpoaaDoor
