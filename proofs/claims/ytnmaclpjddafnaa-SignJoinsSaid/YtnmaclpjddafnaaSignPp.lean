/- Choices put in one by one, in whatever order: in plain words. -/
import Derived.Test.YtnmaclpjddafnaaRows
import Derived.Test.YtnmaclpjddafnaaSignS
import Derived.Test.YtnmaclpjddafnaaSignPu
namespace Go.Proofs.Ytnmaclpjddafnaa
set_option linter.unusedVariables false
set_option linter.unusedSimpArgs false
theorem mayL_iff (l : List Ch) : mayL l = true ↔ (∀ t ∈ l, mayC t = true) ∧ l.Pairwise (fun a b => ltP a b = true) := by
  constructor
  · intro h
    refine ⟨fun t ht => ?_, List.pairwise_iff_getElem.2 fun i j hi hj hij => mayL_lt h j i hij hj⟩
    obtain ⟨k, hk, rfl⟩ := List.getElem_of_mem ht
    exact (mayL_at h k hk).1
  · rintro ⟨h1, h2⟩
    unfold mayL mayFrom
    rw [List.all_eq_true]
    intro k hk
    have hk := List.mem_range.1 hk
    have e : l.getD k default = l[k] := by simp [List.getD, hk]
    rw [e, h1 _ (List.getElem_mem hk), Bool.true_and]
    rcases Nat.eq_zero_or_pos k with h0 | h0
    · simp [h0]
    · have hk1 : k - 1 < l.length := by omega
      have e1 : l.getD (k - 1) default = l[k - 1] := by simp [List.getD, hk1]
      rw [e1, List.pairwise_iff_getElem.1 h2 (k - 1) k hk1 hk (by omega)]
      simp
theorem eqP_symm {a b : Ch} (h : eqP a b = false) : eqP b a = false := by
  simp only [eqP, Bool.and_eq_false_iff, decide_eq_false_iff_not] at *
  omega
theorem ltP_self (x : Ch) : ltP x x = false := by simp [ltP]
theorem ltP_not {a b : Ch} (h : ltP a b = true) : ltP b a = false := by
  simp only [ltP, Bool.or_eq_true, Bool.and_eq_true, decide_eq_true_eq, Bool.or_eq_false_iff, Bool.and_eq_false_iff, decide_eq_false_iff_not] at *
  omega
def putR (R : List Ch) (x : Ch) : List Ch := R.take (posL R x) ++ x :: R.drop (posL R x)
theorem put_gt {R : List Ch} {x : Ch} (hm : mayL R = true) (hf : fndL R x = false) {k : Nat} (hk : posL R x ≤ k) (hl : k < R.length) : ltP x R[k] = true := by
  have hp : posL R x < R.length := by omega
  have h1 := posL_at hp
  have h2 : eqP R[posL R x] x = false := by
    unfold fndL at hf
    rw [List.getElem?_eq_getElem hp] at hf
    exact hf
  have h3 := lt_of_not h1 h2
  rcases Nat.eq_or_lt_of_le hk with h | h
  · subst h; exact h3
  · exact ltP_trans h3 (mayL_lt hm k _ h hl)
theorem put_perm (R : List Ch) (x : Ch) : (putR R x).Perm (x :: R) := by
  have := List.perm_middle (a := x) (l₁ := R.take (posL R x)) (l₂ := R.drop (posL R x))
  rwa [List.take_append_drop] at this
theorem put_may {R : List Ch} {x : Ch} (hm : mayL R = true) (hx : mayC x = true) (hf : fndL R x = false) : mayL (putR R x) = true := by
  obtain ⟨h1, h2⟩ := (mayL_iff R).1 hm
  refine (mayL_iff _).2 ⟨fun t ht => ?_, ?_⟩
  · rcases List.mem_cons.1 ((put_perm R x).mem_iff.1 ht) with h | h
    · rw [h]; exact hx
    · exact h1 t h
  · unfold putR
    rw [List.pairwise_append, List.pairwise_cons]
    refine ⟨h2.sublist (List.take_sublist _ _), ⟨fun b hb => ?_, h2.sublist (List.drop_sublist _ _)⟩, fun a ha b hb => ?_⟩
    · obtain ⟨k, hk, rfl⟩ := List.getElem_of_mem hb
      rw [List.getElem_drop]
      rw [List.length_drop] at hk
      exact put_gt hm hf (by omega) (by omega)
    · obtain ⟨j, hj, rfl⟩ := List.getElem_of_mem ha
      rw [List.length_take] at hj
      rw [List.getElem_take]
      have h3 := posL_low (b := R) (x := x) (k := j) (by omega) (by omega)
      rcases List.mem_cons.1 hb with h | h
      · rw [h]; exact h3
      · obtain ⟨k, hk, rfl⟩ := List.getElem_of_mem h
        rw [List.getElem_drop]
        rw [List.length_drop] at hk
        exact ltP_trans h3 (put_gt hm hf (by omega) (by omega))
theorem put_len (R : List Ch) (x : Ch) : (putR R x).length = R.length + 1 := by
  have := (put_perm R x).length_eq
  simpa using this
theorem put_at {R : List Ch} {x : Ch} : ∃ h : posL R x < (putR R x).length, (putR R x)[posL R x] = x := by
  have h0 := posL_le R x
  refine ⟨by rw [put_len]; omega, ?_⟩
  have e : (putR R x)[posL R x]? = some x := by
    unfold putR
    rw [List.getElem?_append_right (by rw [List.length_take]; omega)]
    have : posL R x - (R.take (posL R x)).length = 0 := by rw [List.length_take]; omega
    rw [this]
    rfl
  rw [List.getElem?_eq_getElem (by rw [put_len]; omega)] at e
  exact Option.some.inj e
theorem put_fnd {R : List Ch} {x : Ch} (hm : mayL R = true) (hx : mayC x = true) (hf : fndL R x = false) : fndL (putR R x) x = true := by
  obtain ⟨hl, he⟩ := put_at (R := R) (x := x)
  have hmm := put_may hm hx hf
  have hp : posL (putR R x) x = posL R x := by
    refine pos_eq (Nat.le_of_lt hl) (fun k hk => ?_) fun k hk hl2 => ?_
    · have := mayL_lt hmm (posL R x) k hk hl
      rwa [he] at this
    · rcases Nat.eq_or_lt_of_le hk with h | h
      · subst h
        rw [he]
        exact ltP_self x
      · have := mayL_lt hmm k (posL R x) h hl2
        rw [he] at this
        exact ltP_not this
  unfold fndL
  rw [hp, List.getElem?_eq_getElem hl, he]
  exact eqP_self x
theorem put_own {R : List Ch} {x : Ch} (hm : mayL R = true) (hx : mayC x = true) (hf : fndL R x = false) : atR (putR R x) x.r x.c = (x, true) := by
  obtain ⟨hl, he⟩ := put_at (R := R) (x := x)
  have := at_own (put_may hm hx hf) hl
  rwa [he] at this
/-- What holds behind some rounds: the row may be, and with what is left it is l. -/
structure PutI (l R L : List Ch) : Prop where
  may : mayL R = true
  perm : (R ++ L).Perm l
theorem putI_start (l : List Ch) : PutI l [] l := ⟨rfl, List.Perm.refl _⟩
theorem putI_fnd {l R L : List Ch} (hl : mayL l = true) (I : PutI l R L) {x : Ch} (hx : x ∈ L) : fndL R x = false ∧ mayC x = true := by
  obtain ⟨h1, h2⟩ := (mayL_iff l).1 hl
  have hp : l.Pairwise (fun a b => eqP a b = false) := h2.imp fun h => lt_not_eq h
  have hq := (I.perm.pairwise_iff (R := fun a b => eqP a b = false) fun h => eqP_symm h).2 hp
  rw [List.pairwise_append] at hq
  refine ⟨?_, h1 x (I.perm.mem_iff.1 (List.mem_append_right _ hx))⟩
  unfold fndL
  split
  · rename_i y hy
    exact hq.2.2 y (List.mem_of_getElem? hy) x hx
  · rfl
theorem putI_step {l R L : List Ch} (hl : mayL l = true) (I : PutI l R L) {k : Nat} (hk : k < L.length) : PutI l (putR R L[k]) (L.take k ++ L.drop (k + 1)) := by
  obtain ⟨hf, hx⟩ := putI_fnd hl I (List.getElem_mem hk)
  refine ⟨put_may I.may hx hf, ?_⟩
  have e1 : (L.take k ++ L[k] :: L.drop (k + 1)).Perm (L[k] :: (L.take k ++ L.drop (k + 1))) := List.perm_middle
  have e2 : L.take k ++ L[k] :: L.drop (k + 1) = L := by
    rw [← List.drop_eq_getElem_cons hk, List.take_append_drop]
  rw [e2] at e1
  refine List.Perm.trans ?_ I.perm
  refine ((put_perm R L[k]).append_right _).trans ?_
  refine List.Perm.trans ?_ ((List.Perm.refl R).append e1.symm)
  exact List.perm_middle.symm
theorem putI_end {l R : List Ch} (hl : mayL l = true) (I : PutI l R []) : R = l := by
  have hp := I.perm
  rw [List.append_nil] at hp
  refine List.Perm.eq_of_pairwise ?_ ((mayL_iff R).1 I.may).2 ((mayL_iff l).1 hl).2 hp
  intro a b _ _ h1 h2
  rw [ltP_not h1] at h2
  cases h2
theorem put_some {l R L : List Ch} (hl : mayL l = true) (I : PutI l R L) {k : Nat} (hk : k < L.length) : putL R L[k] = some (putR R L[k]) ∧ putL (putR R L[k]) L[k] = none ∧ atR (putR R L[k]) (L[k]).r (L[k]).c = (L[k], true) := by
  obtain ⟨hf, hx⟩ := putI_fnd hl I (List.getElem_mem hk)
  refine ⟨?_, ?_, put_own I.may hx hf⟩
  · unfold putL
    rw [I.may, hx, hf]
    rfl
  · unfold putL
    rw [put_fnd I.may hx hf]
    simp
end Go.Proofs.Ytnmaclpjddafnaa
