/- Of rows that may be: what the search finds is what stands at the point; so both answers to Agree and Within are the same. -/
import Derived.Test.YtnmaclpjddafnaaRows
import Derived.Test.YtnmaclpjddafnaaSignI
namespace Go.Proofs.Ytnmaclpjddafnaa
open Go.RowKit
set_option linter.unusedVariables false
set_option linter.unusedSimpArgs false
theorem atP_eq (x y : Ch) : atP x.r x.c y = eqP y x := rfl
theorem lt_not_eq {x y : Ch} (h : ltP x y = true) : eqP x y = false := by
  rcases he : eqP x y with _ | _
  · rfl
  · simp only [ltP, eqP, Bool.or_eq_true, Bool.and_eq_true, decide_eq_true_eq] at h he
    omega
theorem gt_not_eq {x y : Ch} (h : ltP y x = true) : eqP x y = false := by
  rcases he : eqP x y with _ | _
  · rfl
  · simp only [ltP, eqP, Bool.or_eq_true, Bool.and_eq_true, decide_eq_true_eq] at h he
    omega
theorem lt_of_not {x y : Ch} (h : ltP x y = false) (he : eqP x y = false) : ltP y x = true := by
  simp only [ltP, eqP, Bool.or_eq_false_iff, Bool.and_eq_false_iff, decide_eq_false_iff_not, Bool.or_eq_true, Bool.and_eq_true, decide_eq_true_eq] at *
  omega
theorem posL_low {b : List Ch} {x : Ch} {k : Nat} (hk : k < posL b x) (hl : k < b.length) : ltP b[k] x = true := by
  unfold posL at hk
  split at hk
  · rename_i i hi
    rw [List.findIdx?_eq_some_iff_getElem] at hi
    obtain ⟨h1, h2, h3⟩ := hi
    simpa using h3 k hk
  · rename_i hi
    rw [List.findIdx?_eq_none_iff] at hi
    simpa using hi b[k] (List.getElem_mem hl)
theorem posL_at {b : List Ch} {x : Ch} (hl : posL b x < b.length) : ltP b[posL b x] x = false := by
  rcases hi : b.findIdx? (fun y => !ltP y x) with _ | i
  · have e : posL b x = b.length := by unfold posL; rw [hi]
    omega
  · have e : posL b x = i := by unfold posL; rw [hi]
    rw [List.findIdx?_eq_some_iff_getElem] at hi
    obtain ⟨h1, h2, h3⟩ := hi
    simp only [e]
    simpa using h2
theorem find_pos {b : List Ch} {x : Ch} (hm : mayL b = true) : b.find? (atP x.r x.c) = match b[posL b x]? with | some y => if eqP y x = true then some y else none | none => none := by
  rcases Nat.lt_or_ge (posL b x) b.length with hl | hl
  · rw [List.getElem?_eq_getElem hl]
    dsimp only
    rcases he : eqP b[posL b x] x with _ | _
    · rw [if_neg (by decide)]
      refine find_none fun k hk => ?_
      rw [atP_eq]
      rcases Nat.lt_trichotomy k (posL b x) with h | h | h
      · exact lt_not_eq (posL_low h hk)
      · subst h; exact he
      · exact gt_not_eq (ltP_trans (lt_of_not (posL_at hl) he) (mayL_lt hm k _ h hk))
    · rw [if_pos rfl]
      exact find_hit hl he fun k hk => by rw [atP_eq]; exact lt_not_eq (posL_low hk (by omega))
  · rw [List.getElem?_eq_none hl]
    refine find_none fun k hk => ?_
    rw [atP_eq]
    exact lt_not_eq (posL_low (by omega) hk)
theorem st_both {b : List Ch} (hm : mayL b = true) (x : Ch) : stAg b x = !agB b x ∧ stWi b x = !wiB b x := by
  have h := find_pos (x := x) hm
  rcases hb : b[posL b x]? with _ | y
  · rw [hb] at h
    have hA : atR b x.r x.c = (zeroC, false) := by unfold atR; rw [h]
    have h1 : agB b x = false := by unfold agB; rw [hb]
    have h2 : wiB b x = true := by unfold wiB; rw [hb]
    unfold stAg stWi
    rw [hA, h1, h2]
    exact ⟨rfl, rfl⟩
  · rw [hb] at h
    have h1 : agB b x = (eqP y x && !decide (y = x)) := by unfold agB; rw [hb]
    have h2 : wiB b x = !decide (y = x) := by unfold wiB; rw [hb]
    unfold stAg stWi
    rw [h1, h2]
    by_cases he : eqP y x = true
    · have hA : atR b x.r x.c = (y, true) := by
        unfold atR
        rw [h]
        simp [he]
      rw [hA, he]
      simp
    · have h0 : eqP y x = false := by simpa using he
      have this : ¬ y = x := fun e => by rw [e, eqP_self] at h0; cases h0
      have hA : atR b x.r x.c = (zeroC, false) := by
        unfold atR
        rw [h]
        simp [h0]
      rw [hA, h0]
      simp [this]
theorem any_all {p q : Ch → Bool} (h : ∀ x, q x = !p x) : ∀ l : List Ch, l.all q = !l.any p
  | [] => rfl
  | x :: l => by rw [List.all_cons, List.any_cons, any_all h l, h x, Bool.not_or]
theorem agL_agQ (a b : List Ch) : agL a b = agQ a b := by
  unfold agL agQ
  rcases hm : mayL b with _ | _
  · simp
  · rw [any_all (fun x => (st_both hm x).1) a]
    rcases mayL a <;> simp
theorem wiL_wiQ (a b : List Ch) : wiL a b = wiQ a b := by
  unfold wiL wiQ
  rcases hm : mayL b with _ | _
  · simp
  · rw [any_all (fun x => (st_both hm x).2) a]
    rcases mayL a <;> simp
end Go.Proofs.Ytnmaclpjddafnaa
