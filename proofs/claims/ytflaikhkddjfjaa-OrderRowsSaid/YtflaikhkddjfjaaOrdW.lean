/- What First tells: a choice by turns of those that wait for none. No program's text. -/
import Derived.Test.YtflaikhkddjfjaaOrdS
import Derived.Test.YtflaikhkddjfjaaOrdT
namespace Go.Proofs.Ytflaikhkddjfjaa
open Go Go.RowKit
set_option linter.unusedVariables false
set_option linter.unusedSimpArgs false
namespace Ord
/-- A turn at the place i of the wanted ones. -/
def tnS (len : Nat) (l : List Int) (x : Int) (t : Nat) : List Int := if 0 ≤ x ∧ x < (len : Int) then l.set x.toNat (min (l.getD x.toNat 0) (t : Int)) else l
def tn0 (wl len : Nat) : List Int := (List.range len).map fun i => ((wl + i : Nat) : Int)
def tnF (len : Nat) (want : List Int) : Nat → List Int
  | 0 => tn0 want.length len
  | k + 1 => tnS len (tnF len want k) (want.getD k 0) k
theorem tnS_len (len : Nat) (l : List Int) (x : Int) (t : Nat) : (tnS len l x t).length = l.length := by
  unfold tnS
  split
  · rw [List.length_set]
  · rfl
theorem tnF_len (len : Nat) (want : List Int) : ∀ k, (tnF len want k).length = len
  | 0 => by simp [tnF, tn0]
  | k + 1 => by rw [tnF, tnS_len]; exact tnF_len len want k
theorem tn0_at {wl len i : Nat} (h : i < len) : (tn0 wl len).getD i 0 = ((wl + i : Nat) : Int) := by
  unfold tn0
  rw [List.getD_eq_getElem?_getD, List.getElem?_map, List.getElem?_range h]
  rfl
theorem tnF_le (len : Nat) (want : List Int) : ∀ k, k ≤ want.length → ∀ i, 0 ≤ (tnF len want k).getD i 0 ∧ (tnF len want k).getD i 0 ≤ want.length + len
  | 0, _, i => by
    rw [tnF]
    by_cases h : i < len
    · rw [tn0_at h]
      omega
    · rw [List.getD_eq_getElem?_getD, List.getElem?_eq_none (by simp [tn0]; omega)]
      show 0 ≤ (0 : Int) ∧ (0 : Int) ≤ _
      omega
  | k + 1, hk, i => by
    have ih := tnF_le len want k (by omega)
    rw [tnF]
    unfold tnS
    split
    · rw [List.getD_eq_getElem?_getD, List.getElem?_set]
      split
      · split
        · have := ih (want.getD k 0).toNat
          show 0 ≤ min ((tnF len want k).getD (want.getD k 0).toNat 0) (k : Int) ∧ min ((tnF len want k).getD (want.getD k 0).toNat 0) (k : Int) ≤ _
          omega
        · show 0 ≤ (0 : Int) ∧ (0 : Int) ≤ _
          omega
      · rw [← List.getD_eq_getElem?_getD]
        exact ih i
    · exact ih i
/-- The best one so far: -1 is none. -/
def stepB (tn : List Int) (f : Int) (i : Nat) : Int := if (decide (f < 0) || decide (tn.getD i 0 < tn.getD f.toNat 0)) = true then (i : Int) else f
def bestL (tn : List Int) (l : List Nat) : Int := l.foldl (stepB tn) (-1)
theorem bestL_snoc (tn : List Int) (l : List Nat) (x : Nat) : bestL tn (l ++ [x]) = stepB tn (bestL tn l) x := by simp [bestL]
theorem bestL_nil (tn : List Int) : bestL tn [] = -1 := rfl
theorem bestL_in (tn : List Int) : ∀ (l : List Nat) (f : Int), (f = -1 ∨ ∃ m : Nat, f = m) → (l.foldl (stepB tn) f = f ∨ ∃ m : Nat, m ∈ l ∧ l.foldl (stepB tn) f = m) ∧ (l ≠ [] → 0 ≤ l.foldl (stepB tn) f)
  | [], f, hf => ⟨.inl rfl, fun h => absurd rfl h⟩
  | x :: l, f, hf => by
    rw [List.foldl_cons]
    have hs : stepB tn f x = f ∧ 0 ≤ f ∨ stepB tn f x = (x : Int) := by
      unfold stepB
      by_cases h : f < 0
      · exact .inr (by rw [decide_eq_true h, Bool.true_or]; rfl)
      · split
        · exact .inr rfl
        · exact .inl ⟨rfl, by omega⟩
    have h2 : stepB tn f x = -1 ∨ ∃ m : Nat, stepB tn f x = m := by
      rcases hs with ⟨h, _⟩ | h
      · rw [h]; exact hf
      · exact .inr ⟨x, h⟩
    have ih := bestL_in tn l (stepB tn f x) h2
    have h0 : 0 ≤ stepB tn f x := by
      rcases hs with ⟨h, h3⟩ | h
      · omega
      · omega
    refine ⟨?_, fun _ => ?_⟩
    · rcases ih.1 with h | ⟨m, hm, h⟩
      · rcases hs with ⟨h4, _⟩ | h4
        · exact .inl (h.trans h4)
        · exact .inr ⟨x, List.mem_cons_self, h.trans h4⟩
      · exact .inr ⟨m, List.mem_cons_of_mem _ hm, h⟩
    · cases l with
      | nil => exact h0
      | cons y l => exact ih.2 (by simp)
theorem bestL_mem {tn : List Int} {l : List Nat} (h : l ≠ []) : ∃ m : Nat, m ∈ l ∧ bestL tn l = m := by
  have := bestL_in tn l (-1) (.inl rfl)
  have h2 := this.2 h
  rcases this.1 with h1 | h1
  · rw [h1] at h2; omega
  · exact h1
theorem bestL_lt {tn : List Int} {len : Nat} {l : List Nat} (h : ∀ m ∈ l, m < len) : bestL tn l = -1 ∨ ∃ m : Nat, m < len ∧ bestL tn l = m := by
  rcases (bestL_in tn l (-1) (.inl rfl)).1 with h1 | ⟨m, hm, h1⟩
  · exact .inl h1
  · exact .inr ⟨m, h m hm, h1⟩
theorem readyL_clamp (wt : List Int) (len : Nat) : (readyL wt len).map (clampN len) = readyL wt len := by
  conv => rhs; rw [← List.map_id (readyL wt len)]
  apply List.map_congr_left
  intro x hx
  unfold readyL at hx
  exact clampN_of (List.mem_range.1 (List.mem_filter.1 hx).1)
/-- The row so far, and the waits. -/
def firstN (tn : List Int) (es : List Eo) : Nat → List Nat × List Int
  | 0 => ([], wtF es es.length)
  | k + 1 => ((firstN tn es k).1 ++ [(bestL tn (readyL (firstN tn es k).2 es.length)).toNat], takeF ((firstN tn es k).2.set (bestL tn (readyL (firstN tn es k).2 es.length)).toNat (-1)) (behF es es.length (bestL tn (readyL (firstN tn es k).2 es.length)).toNat))
def firstL (es : List Eo) (want : List Int) : List Nat := (firstN (tnF es.length want want.length) es es.length).1
theorem firstN_len (tn : List Int) (es : List Eo) : ∀ k, (firstN tn es k).1.length = k
  | 0 => rfl
  | k + 1 => by rw [firstN, List.length_append, firstN_len tn es k]; rfl
def left_ (acc l : List Nat) : List Nat := l.filter fun x => decide (x ∉ acc)
theorem left_nil (l : List Nat) : left_ [] l = l := by simp [left_]
theorem left_snoc {acc : List Nat} {m : Nat} (hm : m ∉ acc) : ∀ l : List Nat, (left_ (acc ++ [m]) l).length + l.count m = (left_ acc l).length
  | [] => rfl
  | x :: l => by
    have ih := left_snoc hm l
    unfold left_ at ih ⊢
    rw [List.filter_cons, List.filter_cons, List.count_cons]
    by_cases h1 : x ∈ acc
    · have : x ≠ m := fun e => hm (e ▸ h1)
      simp [h1, this] at ih ⊢
      omega
    · by_cases h2 : x = m
      · subst h2
        simp [h1] at ih ⊢
        omega
      · simp [h1, h2] at ih ⊢
        omega
theorem left_zero {acc l : List Nat} : (left_ acc l).length = 0 ↔ ∀ k ∈ l, k ∈ acc := by
  unfold left_
  rw [List.length_eq_zero_iff, List.filter_eq_nil_iff]
  refine ⟨fun h k hk => ?_, fun h k hk => ?_⟩
  · have := h k hk
    simpa using this
  · simpa using h k hk
theorem behF_count {es : List Eo} {m j : Nat} : ∀ i, (behF es i m).count j = if j < i then (es.getD j default).ah.count m else 0
  | 0 => by simp [behF]
  | i + 1 => by
    rw [behF, List.count_append, behF_count i]
    have hl : ((es.getD i default).ah.filter (· = m)).length = (es.getD i default).ah.count m := by
      rw [List.count_eq_countP, List.countP_eq_length_filter]
      congr 1
    by_cases e : j = i
    · subst e
      rw [if_neg (by omega), if_pos (by omega), List.map_const', List.count_replicate_self, hl]
      omega
    · rw [List.map_const', List.count_replicate, if_neg (show ¬ (i == j) = true from fun h => e (beq_iff_eq.1 h).symm)]
      by_cases h : j < i
      · rw [if_pos h, if_pos (by omega)]
        rfl
      · rw [if_neg h, if_neg (by omega)]
theorem takeF_at : ∀ (l : List Nat) (wt : List Int) (j : Nat), j < wt.length → (takeF wt l).getD j 0 = wt.getD j 0 - (l.count j : Int)
  | [], wt, j, hj => by simp [takeF]
  | k :: l, wt, j, hj => by
    rw [takeF, takeF_at l _ j (by rw [List.length_set]; exact hj), List.count_cons, List.getD_eq_getElem?_getD, List.getElem?_set]
    by_cases e : k = j
    · subst e
      rw [if_pos rfl, if_pos hj]
      simp
      omega
    · rw [if_neg e, ← List.getD_eq_getElem?_getD]
      simp [e]
theorem wtF_at {es : List Eo} {j : Nat} (hj : j < es.length) : ∀ i, i ≤ es.length → (wtF es i).getD j 0 = if j < i then ((es.getD j default).ah.length : Int) else 0
  | 0, _ => by
    rw [wtF, List.getD_eq_getElem?_getD, List.getElem?_replicate, if_pos hj, if_neg (by omega)]
    rfl
  | i + 1, hi => by
    rw [wtF, List.getD_eq_getElem?_getD, List.getElem?_set]
    by_cases e : i = j
    · subst e
      rw [if_pos rfl, if_pos (by rw [wtF_len]; exact hj), if_pos (by omega)]
      rfl
    · rw [if_neg e, ← List.getD_eq_getElem?_getD, wtF_at hj i (by omega)]
      by_cases h : j < i
      · rw [if_pos h, if_pos (by omega)]
      · rw [if_neg h, if_neg (by omega)]
/-- What the waits say. -/
structure Wt (es : List Eo) (acc : List Nat) (wt : List Int) : Prop where
  len : wt.length = es.length
  at_ : ∀ i, i < es.length → wt.getD i 0 = if i ∈ acc then -1 else ((left_ acc (es.getD i default).ah).length : Int)
  nodup : acc.Nodup
  lt : ∀ i ∈ acc, i < es.length
  closed : ∀ i ∈ acc, ∀ k ∈ (es.getD i default).ah, k ∈ acc
theorem Wt.start (es : List Eo) : Wt es [] (wtF es es.length) := ⟨wtF_len es _, fun i hi => by
  rw [wtF_at hi _ (Nat.le_refl _), if_pos hi, left_nil, if_neg (by simp)], List.nodup_nil, fun i h => by simp at h, fun i h => by simp at h⟩
theorem Wt.ready {es : List Eo} {acc : List Nat} {wt : List Int} (h : Wt es acc wt) {i : Nat} : i ∈ readyL wt es.length ↔ i < es.length ∧ i ∉ acc ∧ ∀ k ∈ (es.getD i default).ah, k ∈ acc := by
  unfold readyL
  rw [List.mem_filter, List.mem_range]
  refine and_congr_right fun hi => ?_
  rw [h.at_ i hi, beq_iff_eq]
  by_cases e : i ∈ acc
  · simp [e]
  · rw [if_neg e]
    constructor
    · intro h0
      exact ⟨e, left_zero.1 (by omega)⟩
    · intro h0
      have := left_zero.2 h0.2
      omega
theorem Wt.take {es : List Eo} {acc : List Nat} {wt : List Int} (h : Wt es acc wt) (hal : ∀ i, i < es.length → ∀ k ∈ (es.getD i default).ah, k < i) {m : Nat} (hm : m ∈ readyL wt es.length) : Wt es (acc ++ [m]) (takeF (wt.set m (-1)) (behF es es.length m)) := by
  obtain ⟨hml, hmn, hma⟩ := h.ready.1 hm
  refine ⟨by rw [takeF_len, List.length_set]; exact h.len, fun i hi => ?_, ?_, fun i hi => ?_, fun i hi k hk => ?_⟩
  · rw [takeF_at _ _ _ (by rw [List.length_set, h.len]; exact hi), behF_count, if_pos hi, List.getD_eq_getElem?_getD, List.getElem?_set]
    by_cases e : m = i
    · subst e
      rw [if_pos rfl, if_pos (by rw [h.len]; exact hi), if_pos (by simp)]
      have : (es.getD m default).ah.count m = 0 := List.count_eq_zero.2 fun hk => by have := hal m hi m hk; omega
      rw [this]
      rfl
    · rw [if_neg e, ← List.getD_eq_getElem?_getD, h.at_ i hi]
      by_cases ha : i ∈ acc
      · rw [if_pos ha, if_pos (by simp [ha])]
        have : (es.getD i default).ah.count m = 0 := List.count_eq_zero.2 fun hk => hmn (h.closed i ha m hk)
        rw [this]
        rfl
      · rw [if_neg ha, if_neg (by simp [ha]; exact fun h => e h.symm)]
        have := left_snoc hmn (es.getD i default).ah
        omega
  · rw [List.nodup_append]
    refine ⟨h.nodup, by simp, fun a ha b hb => ?_⟩
    rw [List.mem_singleton.1 hb]
    exact fun e => hmn (e ▸ ha)
  · rcases List.mem_append.1 hi with hi | hi
    · exact h.lt i hi
    · rw [List.mem_singleton.1 hi]; exact hml
  · rcases List.mem_append.1 hi with hi | hi
    · exact List.mem_append_left _ (h.closed i hi k hk)
    · rw [List.mem_singleton.1 hi] at hk
      exact List.mem_append_left _ (hma k hk)
/-- While there is one left, one is ready. -/
theorem least_out : ∀ (n : Nat) (acc : List Nat), (∃ i, i < n ∧ i ∉ acc) → ∃ i, i < n ∧ i ∉ acc ∧ ∀ k, k < i → k ∈ acc
  | 0, acc, ⟨i, hi, _⟩ => absurd hi (Nat.not_lt_zero i)
  | n + 1, acc, ⟨i, hi, hn⟩ => by
    by_cases h : ∃ i, i < n ∧ i ∉ acc
    · obtain ⟨j, h1, h2, h3⟩ := least_out n acc h
      exact ⟨j, by omega, h2, h3⟩
    · refine ⟨i, hi, hn, fun k hk => ?_⟩
      by_cases hc : k ∈ acc
      · exact hc
      · exact absurd ⟨k, by omega, hc⟩ h
theorem out_of_few : ∀ (n : Nat) (acc : List Nat), acc.length < n → ∃ i, i < n ∧ i ∉ acc
  | 0, acc, h => absurd h (Nat.not_lt_zero _)
  | n + 1, acc, h => by
    by_cases hc : n ∈ acc
    · have hl := List.length_erase_of_mem hc
      have := List.length_pos_of_mem hc
      obtain ⟨i, h1, h2⟩ := out_of_few n (acc.erase n) (by omega)
      refine ⟨i, by omega, fun h3 => h2 ?_⟩
      exact (List.mem_erase_of_ne (by omega)).2 h3
    · exact ⟨n, by omega, hc⟩
theorem Wt.some {es : List Eo} {acc : List Nat} {wt : List Int} (h : Wt es acc wt) (hal : ∀ i, i < es.length → ∀ k ∈ (es.getD i default).ah, k < i) (hl : acc.length < es.length) : readyL wt es.length ≠ [] := by
  obtain ⟨i, h1, h2, h3⟩ := least_out _ _ (out_of_few _ _ hl)
  intro e
  have : i ∈ readyL wt es.length := h.ready.2 ⟨h1, h2, fun k hk => h3 k (hal i h1 k hk)⟩
  rw [e] at this
  cases this
/-- The row so far is well; the next one is ready. -/
theorem first_wt {es : List Eo} (tn : List Int) (hal : ∀ i, i < es.length → ∀ k ∈ (es.getD i default).ah, k < i) : ∀ k, k ≤ es.length → Wt es (firstN tn es k).1 (firstN tn es k).2
  | 0, _ => Wt.start es
  | k + 1, hk => by
    have ih := first_wt tn hal k (by omega)
    obtain ⟨m, hm, e⟩ := bestL_mem (tn := tn) (ih.some hal (by rw [firstN_len]; omega))
    rw [firstN, e, Int.toNat_natCast]
    exact ih.take hal hm
theorem first_next {es : List Eo} (tn : List Int) (hal : ∀ i, i < es.length → ∀ k ∈ (es.getD i default).ah, k < i) {k : Nat} (hk : k < es.length) : ∃ m : Nat, m ∈ readyL (firstN tn es k).2 es.length ∧ m < es.length ∧ bestL tn (readyL (firstN tn es k).2 es.length) = m ∧ firstN tn es (k + 1) = ((firstN tn es k).1 ++ [m], takeF ((firstN tn es k).2.set m (-1)) (behF es es.length m)) := by
  have ih := first_wt tn hal k (by omega)
  obtain ⟨m, hm, e⟩ := bestL_mem (tn := tn) (ih.some hal (by rw [firstN_len]; omega))
  exact ⟨m, hm, (ih.ready.1 hm).1, e, by rw [firstN, e, Int.toNat_natCast]⟩
theorem Wt.nigh {es : List Eo} {acc : List Nat} {wt : List Int} (h : Wt es acc wt) (hah : ∀ i, i < es.length → (es.getD i default).ah.length ≤ 30) : Nigh 5000 wt := fun j => by
  by_cases hj : j < es.length
  · rw [h.at_ j hj]
    have h1 := hah j hj
    have h2 : (left_ acc (es.getD j default).ah).length ≤ (es.getD j default).ah.length := List.length_filter_le _ _
    split <;> omega
  · rw [List.getD_eq_getElem?_getD, List.getElem?_eq_none (by rw [h.len]; omega)]
    show -5000 ≤ (0 : Int) ∧ (0 : Int) ≤ 5000
    omega
theorem behF_lt {es : List Eo} {m : Nat} : ∀ i, ∀ k ∈ behF es i m, k < i
  | 0, k, hk => by simp [behF] at hk
  | i + 1, k, hk => by
    rw [behF] at hk
    rcases List.mem_append.1 hk with hk | hk
    · have := behF_lt i k hk
      omega
    · simp at hk
      omega
end Ord
end Go.Proofs.Ytflaikhkddjfjaa
