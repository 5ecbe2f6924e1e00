/- A program with a variable more, with an array more, without its last instruction: may it be? No program's text. -/
import Derived.Test.YtegpimaakgledaaDoorRows
import Derived.Test.YtegpimaakgledaaDoorCodU
namespace Go.Proofs.YtegpimaakgledaaDoor
open Go Go.RowKit
set_option linter.unusedVariables false
set_option linter.unusedSimpArgs false
namespace Cod
def sumL : List Int → Int
  | [] => 0
  | n :: l => n + sumL l
theorem sumL_app : ∀ (l : List Int) (x : Int), sumL (l ++ [x]) = sumL l + x
  | [], x => by simp [sumL]
  | n :: l, x => by rw [List.cons_append]; show n + sumL (l ++ [x]) = n + sumL l + x; rw [sumL_app l x]; omega
theorem sumL_take (l : List Int) (k : Nat) (hk : k < l.length) : sumL (l.take (k + 1)) = sumL (l.take k) + l[k] := by
  rw [List.take_succ_eq_append_getElem hk, sumL_app]
theorem arrOk_sum : ∀ (l : List Int) (c : Int), arrOk l c = true → 0 ≤ sumL l ∧ (c ≤ 1000 → c + sumL l ≤ 1000) ∧ ∀ k, 0 ≤ sumL (l.take k) ∧ sumL (l.take k) ≤ sumL l
  | [], c, _ => ⟨Int.le_refl _, fun h => by simpa [sumL] using h, fun k => by simp [sumL]⟩
  | n :: l, c, h => by
    unfold arrOk at h
    simp only [Bool.and_eq_true, decide_eq_true_eq] at h
    obtain ⟨⟨h1, h2⟩, h3⟩ := h
    obtain ⟨g1, g2, g3⟩ := arrOk_sum l (c + n) h3
    have e : sumL (n :: l) = n + sumL l := rfl
    refine ⟨by omega, fun h => by have := g2 (by omega); omega, fun k => ?_⟩
    cases k with
    | zero => exact ⟨Int.le_refl _, by show (0 : Int) ≤ sumL (n :: l); omega⟩
    | succ k =>
      have e2 : sumL ((n :: l).take (k + 1)) = n + sumL (l.take k) := rfl
      have := g3 k
      omega
theorem arrOk_app : ∀ (l : List Int) (c x : Int), arrOk l c = true → arrOk (l ++ [x]) c = (decide (1 ≤ x) && decide (x ≤ 1000 - (c + sumL l)))
  | [], c, x, _ => by
    show (decide (1 ≤ x) && decide (x ≤ 1000 - c) && true) = _
    rw [Bool.and_true]
    have : c + sumL [] = c := by simp [sumL]
    rw [this]
  | n :: l, c, x, h => by
    unfold arrOk at h
    simp only [Bool.and_eq_true, decide_eq_true_eq] at h
    obtain ⟨⟨h1, h2⟩, h3⟩ := h
    show (decide (1 ≤ n) && decide (n ≤ 1000 - c) && arrOk (l ++ [x]) (c + n)) = _
    rw [arrOk_app l _ x h3, decide_eq_true h1, decide_eq_true h2]
    show (decide (1 ≤ x) && decide (x ≤ 1000 - (c + n + sumL l))) = (decide (1 ≤ x) && decide (x ≤ 1000 - (c + (n + sumL l))))
    rw [show c + n + sumL l = c + (n + sumL l) by omega]
theorem mayN_wide {len v a v' a' : Int} {x : In} (h : mayN len v a x = true) (hv : v ≤ v') (ha : a ≤ a') : mayN len v' a' x = true := by
  unfold mayN at h ⊢
  simp only [Bool.and_eq_true] at h ⊢
  refine ⟨h.1, ?_⟩
  have h2 := h.2
  clear h
  split at h2
  · rw [if_pos (by assumption)]
  rename_i n1
  rw [if_neg n1]
  split at h2
  · rw [if_pos (by assumption)]
    have := of_decide_eq_true h2
    exact decide_eq_true ⟨this.1, by omega⟩
  rename_i n2
  rw [if_neg n2]
  split at h2
  · rw [if_pos (by assumption)]
    have := of_decide_eq_true h2
    exact decide_eq_true ⟨this.1, by omega⟩
  rename_i n3
  rw [if_neg n3]
  exact h2
theorem mayNs_parts {cs : List In} {vars : Int} {arrs : List Int} (h : mayNs cs vars arrs = true) : 0 < cs.length ∧ cs.length ≤ 4000 ∧ (cs.getD (cs.length - 1) default).op = 29 ∧ 0 ≤ vars ∧ vars ≤ 64 ∧ arrOk arrs 0 = true ∧ ∀ x ∈ cs, mayN cs.length vars arrs.length x = true := by
  unfold mayNs at h
  simp only [Bool.and_eq_true, decide_eq_true_eq, List.all_eq_true] at h
  obtain ⟨⟨⟨⟨⟨⟨h1, h2⟩, h3⟩, h4⟩, h5⟩, h6⟩, h7⟩ := h
  exact ⟨h1, h2, h3, h4, h5, h6, h7⟩
theorem mayNs_var {cs : List In} {vars : Int} {arrs : List Int} (h : mayNs cs vars arrs = true) : mayNs cs (vars + 1) arrs = decide (vars < 64) := by
  obtain ⟨h1, h2, h3, h4, h5, h6, h7⟩ := mayNs_parts h
  by_cases hv : vars < 64
  · rw [decide_eq_true hv, mayNs_yes ⟨h1, h2, h3, by omega, by omega⟩, h6, Bool.true_and, List.all_eq_true]
    exact fun x hx => mayN_wide (h7 x hx) (by omega) (Int.le_refl _)
  · rw [decide_eq_false hv]
    exact mayNs_no (fun h => by omega)
theorem mayNs_arr {cs : List In} {vars : Int} {arrs : List Int} (h : mayNs cs vars arrs = true) (x : Int) : mayNs cs vars (arrs ++ [x]) = (decide (1 ≤ x) && decide (x ≤ 1000 - sumL arrs)) := by
  obtain ⟨h1, h2, h3, h4, h5, h6, h7⟩ := mayNs_parts h
  rw [mayNs_yes ⟨h1, h2, h3, h4, h5⟩, arrOk_app _ _ _ h6, Int.zero_add]
  have : (cs.all (mayN cs.length vars (arrs ++ [x]).length)) = true := by
    rw [List.all_eq_true]
    exact fun y hy => mayN_wide (h7 y hy) (Int.le_refl _) (by rw [List.length_append, List.length_singleton]; omega)
  rw [this, Bool.and_true]
/-- A variable more: the heights are the same, where it may be. -/
theorem HtR.var {cs : List In} {vars : Int} {arrs hs : List Int} (h : HtR cs vars arrs (some hs)) : HtR cs (vars + 1) arrs (if vars < 64 then some hs else none) := by
  rcases h with ⟨_, h⟩ | ⟨hm, hg⟩
  · cases h
  · by_cases hv : vars < 64
    · rw [if_pos hv]
      exact .inr ⟨by rw [mayNs_var hm, decide_eq_true hv], hg⟩
    · rw [if_neg hv]
      exact .inl ⟨by rw [mayNs_var hm, decide_eq_false hv], rfl⟩
theorem HtR.arr {cs : List In} {vars : Int} {arrs hs : List Int} (h : HtR cs vars arrs (some hs)) (x : Int) : HtR cs vars (arrs ++ [x]) (if 1 ≤ x ∧ x ≤ 1000 - sumL arrs then some hs else none) := by
  rcases h with ⟨_, h⟩ | ⟨hm, hg⟩
  · cases h
  · by_cases hv : 1 ≤ x ∧ x ≤ 1000 - sumL arrs
    · rw [if_pos hv]
      exact .inr ⟨by rw [mayNs_arr hm, decide_eq_true hv.1, decide_eq_true hv.2]; rfl, hg⟩
    · rw [if_neg hv]
      refine .inl ⟨?_, rfl⟩
      rw [mayNs_arr hm]
      cases h : (decide (1 ≤ x) && decide (x ≤ 1000 - sumL arrs)) with
      | false => rfl
      | true =>
        simp only [Bool.and_eq_true, decide_eq_true_eq] at h
        exact absurd h hv
theorem HtR.last {cs : List In} {vars : Int} {arrs : List Int} {r : Option (List Int)} (h : HtR cs vars arrs r) (hr : r.isSome = true) : 0 < cs.length ∧ (cs.getD (cs.length - 1) default).op = 29 := by
  rcases h with ⟨_, rfl⟩ | ⟨hm, _⟩
  · cases hr
  · exact ⟨(mayNs_parts hm).1, (mayNs_parts hm).2.2.1⟩
theorem HtR.sums {cs : List In} {vars : Int} {arrs hs : List Int} (h : HtR cs vars arrs (some hs)) : 0 ≤ vars ∧ vars ≤ 64 ∧ ∀ k, 0 ≤ sumL (arrs.take k) ∧ sumL (arrs.take k) ≤ 1000 := by
  rcases h with ⟨_, h⟩ | ⟨hm, _⟩
  · cases h
  · obtain ⟨h1, h2, h3, h4, h5, h6, h7⟩ := mayNs_parts hm
    obtain ⟨g1, g2, g3⟩ := arrOk_sum _ _ h6
    have := g2 (by omega)
    exact ⟨h4, h5, fun k => ⟨(g3 k).1, by have := (g3 k).2; omega⟩⟩
end Cod
end Go.Proofs.YtegpimaakgledaaDoor
