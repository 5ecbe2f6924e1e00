/- What a join is: of rows that agree, the one row that may be and holds what is in either. No program's text. -/
import Derived.Test.YtnmaclpjddafnaaRows
import Derived.Test.YtnmaclpjddafnaaSignPp
import Derived.Lib.SlicesCompact
namespace Go.Proofs.Ytnmaclpjddafnaa
open Go Go.RowKit
set_option linter.unusedVariables false
set_option linter.unusedSimpArgs false
namespace Jn
/-- A row that may be is told by what it holds. -/
theorem may_ext {a b : List Ch} (ha : mayL a = true) (hb : mayL b = true) (h : ∀ t, t ∈ a ↔ t ∈ b) : a = b := by
  have pa := ((mayL_iff a).1 ha).2
  have pb := ((mayL_iff b).1 hb).2
  have nd : ∀ {l : List Ch}, l.Pairwise (fun x y => ltP x y = true) → l.Nodup := fun {l} hp => by
    refine hp.imp fun {x y} hxy e => ?_
    subst e
    rw [ltP_self] at hxy
    cases hxy
  have hp : a.Perm b := (List.perm_ext_iff_of_nodup (nd pa) (nd pb)).2 h
  exact hp.eq_of_pairwise (fun x y _ _ h1 h2 => by rw [ltP_not h1] at h2; cases h2) pa pb
theorem fnd_iff {b : List Ch} {x : Ch} (hm : mayL b = true) : (∃ y ∈ b, eqP y x = true) ↔ fndL b x = true := by
  rcases fnd_cases b x with ⟨h1, _, _⟩ | ⟨hl, h1, _, _⟩
  · rw [h1]
    refine ⟨fun ⟨y, hy, he⟩ => ?_, fun h => by cases h⟩
    exfalso
    have hf := find_pos (x := x) hm
    unfold fndL at h1
    obtain ⟨k, hk, rfl⟩ := List.getElem_of_mem hy
    rcases hb : b[posL b x]? with _ | z
    · rw [hb] at hf
      have := List.find?_eq_none.1 hf b[k] hy
      rw [atP_eq] at this
      exact this he
    · rw [hb] at hf h1
      simp only [h1] at hf
      have := List.find?_eq_none.1 hf b[k] hy
      rw [atP_eq] at this
      exact this he
  · refine ⟨fun _ => h1, fun _ => ⟨b[posL b x], List.getElem_mem hl, ?_⟩⟩
    unfold fndL at h1
    rw [List.getElem?_eq_getElem hl] at h1
    exact h1
/-- In a row that may be a point stands once. -/
theorem may_one {b : List Ch} (hm : mayL b = true) {x y : Ch} (hx : x ∈ b) (hy : y ∈ b) (he : eqP x y = true) : x = y := by
  obtain ⟨i, hi, rfl⟩ := List.getElem_of_mem hx
  obtain ⟨j, hj, rfl⟩ := List.getElem_of_mem hy
  rcases Nat.lt_trichotomy i j with h | h | h
  · have := lt_not_eq (mayL_lt hm j i h hj)
    rw [he] at this
    cases this
  · subst h; rfl
  · have := gt_not_eq (mayL_lt hm i j h hi)
    rw [he] at this
    cases this
theorem ag_iff (a b : List Ch) : agL a b = true ↔ mayL a = true ∧ mayL b = true ∧ ∀ x ∈ a, ∀ y ∈ b, eqP y x = true → y = x := by
  unfold agL
  rw [Bool.and_eq_true, Bool.and_eq_true, Bool.not_eq_true', List.any_eq_false]
  constructor
  · rintro ⟨⟨h1, h2⟩, h3⟩
    refine ⟨h1, h2, fun x hx y hy he => ?_⟩
    have h4 := h3 x hx
    rcases fnd_cases b x with ⟨h5, h6, h7⟩ | ⟨hl, h5, h6, h7⟩
    · have := (fnd_iff h2).1 ⟨y, hy, he⟩
      rw [h5] at this
      cases this
    · rw [h6] at h4
      have h8 : b[posL b x] = x := by simpa using h4
      refine (may_one h2 hy (List.getElem_mem hl) ?_).trans h8
      rw [h8]; exact he
  · rintro ⟨h1, h2, h3⟩
    refine ⟨⟨h1, h2⟩, fun x hx => ?_⟩
    rcases fnd_cases b x with ⟨h5, h6, h7⟩ | ⟨hl, h5, h6, h7⟩
    · rw [h6]; decide
    · rw [h6]
      have he : eqP b[posL b x] x = true := by
        unfold fndL at h5
        rw [List.getElem?_eq_getElem hl] at h5
        exact h5
      simp [h3 x hx _ (List.getElem_mem hl) he]
theorem wi_iff (a b : List Ch) : wiL a b = true ↔ mayL a = true ∧ mayL b = true ∧ ∀ x ∈ a, x ∈ b := by
  unfold wiL
  rw [Bool.and_eq_true, Bool.and_eq_true, Bool.not_eq_true', List.any_eq_false]
  constructor
  · rintro ⟨⟨h1, h2⟩, h3⟩
    refine ⟨h1, h2, fun x hx => ?_⟩
    have h4 := h3 x hx
    rcases fnd_cases b x with ⟨h5, h6, h7⟩ | ⟨hl, h5, h6, h7⟩
    · rw [h7] at h4; simp at h4
    · rw [h7] at h4
      have h8 : b[posL b x] = x := by simpa using h4
      rw [← h8]; exact List.getElem_mem hl
  · rintro ⟨h1, h2, h3⟩
    refine ⟨⟨h1, h2⟩, fun x hx => ?_⟩
    rcases fnd_cases b x with ⟨h5, h6, h7⟩ | ⟨hl, h5, h6, h7⟩
    · have := (fnd_iff h2).1 ⟨x, h3 x hx, eqP_self x⟩
      rw [h5] at this
      cases this
    · rw [h7]
      have he : eqP b[posL b x] x = true := by
        unfold fndL at h5
        rw [List.getElem?_eq_getElem hl] at h5
        exact h5
      simp [may_one h2 (List.getElem_mem hl) (h3 x hx) he]
theorem eqP_comm {x y : Ch} (h : eqP x y = true) : eqP y x = true := by
  simp only [eqP, Bool.and_eq_true, decide_eq_true_eq] at *
  omega
theorem ag_comm (a b : List Ch) : agL a b = agL b a := by
  have h : ∀ a b, agL a b = true → agL b a = true := fun a b h => by
    obtain ⟨h1, h2, h3⟩ := (ag_iff a b).1 h
    exact (ag_iff b a).2 ⟨h2, h1, fun x hx y hy he => (h3 y hy x hx (eqP_comm he)).symm⟩
  rcases h1 : agL a b with _ | _
  · rcases h2 : agL b a with _ | _
    · rfl
    · rw [h b a h2] at h1; cases h1
  · rw [h a b h1]
/-- A join: it may be, and holds what is in either. -/
def IsJoin (a b l : List Ch) : Prop := mayL l = true ∧ ∀ t, t ∈ l ↔ t ∈ a ∨ t ∈ b
theorem IsJoin.one {a b l m : List Ch} (h : IsJoin a b l) (k : IsJoin b a m) : l = m :=
  may_ext h.1 k.1 fun t => by rw [h.2, k.2]; exact Or.comm
theorem IsJoin.left {a b l : List Ch} (h : IsJoin a b l) (ha : mayL a = true) : wiL a l = true := (wi_iff a l).2 ⟨ha, h.1, fun x hx => (h.2 x).2 (.inl hx)⟩
theorem IsJoin.right {a b l : List Ch} (h : IsJoin a b l) (hb : mayL b = true) : wiL b l = true := (wi_iff b l).2 ⟨hb, h.1, fun x hx => (h.2 x).2 (.inr hx)⟩
theorem IsJoin.within {a b l c : List Ch} (h : IsJoin a b l) (ha : wiL a c = true) (hb : wiL b c = true) : wiL l c = true := by
  obtain ⟨_, hc, h1⟩ := (wi_iff a c).1 ha
  obtain ⟨_, _, h2⟩ := (wi_iff b c).1 hb
  exact (wi_iff l c).2 ⟨h.1, hc, fun x hx => ((h.2 x).1 hx).elim (h1 x) (h2 x)⟩
theorem nodup_len : ∀ {l m : List Ch}, l.Nodup → (∀ t ∈ l, t ∈ m) → l.length ≤ m.length
  | [], m, _, _ => Nat.zero_le _
  | t :: l, m, hn, hs => by
    have h1 := List.nodup_cons.1 hn
    have hm : t ∈ m := hs t (List.mem_cons_self ..)
    have h2 := nodup_len (l := l) (m := m.erase t) h1.2 fun u hu => (List.mem_erase_of_ne (a := u) (b := t) (fun e => h1.1 (by rw [← e]; exact hu))).2 (hs u (List.mem_cons_of_mem _ hu))
    rw [List.length_erase_of_mem hm] at h2
    have h3 := List.length_pos_of_mem hm
    rw [List.length_cons]
    omega
theorem IsJoin.len {a b l : List Ch} (h : IsJoin a b l) : l.length ≤ a.length + b.length := by
  have nd : l.Nodup := ((mayL_iff l).1 h.1).2.imp fun {x y} hxy e => by
    subst e
    rw [ltP_self] at hxy
    cases hxy
  have := nodup_len (m := a ++ b) nd fun t ht => by rw [List.mem_append]; exact (h.2 t).1 ht
  rwa [List.length_append] at this
end Jn
end Go.Proofs.Ytnmaclpjddafnaa
