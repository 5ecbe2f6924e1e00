/- What happened ahead of what, in plain words. No program's text. -/
import Derived.Test.YtflaikhkddjfjaaRows
namespace Go.Proofs.Ytflaikhkddjfjaa
set_option linter.unusedVariables false
set_option linter.unusedSimpArgs false
namespace Ord
structure Ev where
  r : Nat
  af : List Nat
variable {E : Nat → Ev} {n : Nat}
/-- Just ahead of it: earlier ones of its rank, and those that it is After. -/
def Dir (E : Nat → Ev) (i m : Nat) : Prop := m < i ∧ ((E m).r = (E i).r ∨ m ∈ (E i).af)
inductive Ah (E : Nat → Ev) : Nat → Nat → Prop
  | dir {i m : Nat} : Dir E i m → Ah E i m
  | step {i k m : Nat} : Dir E i k → Ah E k m → Ah E i m
theorem Ah.lt {i m : Nat} (h : Ah E i m) : m < i := by
  induction h with
  | dir h => exact h.1
  | step h _ ih => exact Nat.lt_trans ih h.1
theorem Ah.trans {i k m : Nat} (h : Ah E i k) (h' : Ah E k m) : Ah E i m := by
  induction h with
  | dir h => exact .step h h'
  | step h _ ih => exact .step h (ih h')
/-- m is i, or ahead of it. -/
def Le (E : Nat → Ev) (i m : Nat) : Prop := m = i ∨ Ah E i m
theorem Ah.by_dir {i m : Nat} (h : Ah E i m) : ∃ k, Dir E i k ∧ Le E k m := by
  cases h with
  | dir h => exact ⟨m, h, .inl rfl⟩
  | step h h' => exact ⟨_, h, .inr h'⟩
theorem Dir.le {i k m : Nat} (h : Dir E i k) (h' : Le E k m) : Ah E i m := by
  rcases h' with rfl | h'
  · exact .dir h
  · exact .step h h'
theorem same_rank {i m : Nat} (h : m < i) (hr : (E m).r = (E i).r) : Ah E i m := .dir ⟨h, .inl hr⟩
/-- By the rows as they are reckoned: from the greatest one down. -/
theorem Ah.iff_row {i m : Nat} : Ah E i m ↔ Dir E i m ∨ ∃ k, m < k ∧ Ah E i k ∧ Ah E k m := by
  refine ⟨fun h => ?_, fun h => ?_⟩
  · cases h with
    | dir h => exact .inl h
    | step h h' => exact .inr ⟨_, h'.lt, .dir h, h'⟩
  · rcases h with h | ⟨k, _, h1, h2⟩
    · exact .dir h
    · exact h1.trans h2
/-- How many of the same rank are ahead in the text. -/
def cnt (E : Nat → Ev) (q : Nat) (S : Nat → Bool) (k : Nat) : Nat := (List.range k).countP fun m => decide ((E m).r = q) && S m
def pos (E : Nat → Ev) (m : Nat) : Nat := cnt E (E m).r (fun _ => true) m
theorem cnt_zero (q : Nat) (S : Nat → Bool) : cnt E q S 0 = 0 := rfl
theorem cnt_succ (q : Nat) (S : Nat → Bool) (k : Nat) : cnt E q S (k + 1) = cnt E q S k + (if (E k).r = q ∧ S k = true then 1 else 0) := by
  unfold cnt
  rw [List.range_succ, List.countP_append]
  congr 1
  by_cases h : (E k).r = q <;> cases hs : S k <;> simp [h, hs]
theorem cnt_le (q : Nat) (S : Nat → Bool) (k : Nat) : cnt E q S k ≤ k := by
  unfold cnt
  have := List.countP_le_length (p := fun m => decide ((E m).r = q) && S m) (l := List.range k)
  simpa using this
theorem cnt_all {q : Nat} {S : Nat → Bool} {k : Nat} (h : ∀ m < k, (E m).r = q → S m = true) : cnt E q S k = cnt E q (fun _ => true) k := by
  induction k with
  | zero => rfl
  | succ k ih =>
    rw [cnt_succ, cnt_succ, ih fun m hm => h m (by omega)]
    congr 1
    by_cases hr : (E k).r = q
    · simp [hr, h k (by omega) hr]
    · simp [hr]
theorem pos_lt {i m : Nat} (h : m < i) (hr : (E m).r = (E i).r) : pos E m < pos E i := by
  unfold pos
  rw [hr]
  have h1 : cnt E (E i).r (fun _ => true) (m + 1) = cnt E (E i).r (fun _ => true) m + 1 := by rw [cnt_succ, if_pos ⟨hr, rfl⟩]
  have mono : ∀ d, cnt E (E i).r (fun _ => true) (m + 1) ≤ cnt E (E i).r (fun _ => true) (m + 1 + d) := by
    intro d
    induction d with
    | zero => exact Nat.le_refl _
    | succ d ih =>
      rw [show m + 1 + (d + 1) = (m + 1 + d) + 1 by omega, cnt_succ (E i).r _ (m + 1 + d)]
      exact Nat.le_trans ih (Nat.le_add_right _ _)
  have := mono (i - (m + 1))
  rw [show m + 1 + (i - (m + 1)) = i by omega] at this
  omega
theorem pos_inj {i m : Nat} (hr : (E m).r = (E i).r) (h : pos E m = pos E i) : m = i := by
  rcases Nat.lt_trichotomy m i with h1 | h1 | h1
  · have := pos_lt h1 hr; omega
  · exact h1
  · have := pos_lt h1 hr.symm; omega
/-- A set that has with an event all earlier ones of its rank: how many it has of a rank. -/
theorem cnt_iff {q : Nat} {S : Nat → Bool} (hS : ∀ i m, m < i → (E m).r = (E i).r → S i = true → S m = true) : ∀ (k c : Nat), c < cnt E q S k ↔ ∃ m, m < k ∧ (E m).r = q ∧ S m = true ∧ pos E m = c
  | 0, c => by simp [cnt_zero]
  | k + 1, c => by
    rw [cnt_succ]
    by_cases h : (E k).r = q ∧ S k = true
    · rw [if_pos h]
      have hp : cnt E q S k = pos E k := by
        unfold pos
        rw [h.1]
        exact cnt_all fun m hm hr => hS k m hm (hr.trans h.1.symm) h.2
      refine ⟨fun hc => ?_, fun ⟨m, hm, h1, h2, h3⟩ => ?_⟩
      · by_cases hc2 : c < cnt E q S k
        · obtain ⟨m, hm, h1⟩ := (cnt_iff hS k c).1 hc2
          exact ⟨m, by omega, h1⟩
        · exact ⟨k, by omega, h.1, h.2, by omega⟩
      · by_cases e : m = k
        · subst e; omega
        · have := (cnt_iff hS k c).2 ⟨m, by omega, h1, h2, h3⟩
          omega
    · rw [if_neg h]
      refine ⟨fun hc => ?_, fun ⟨m, hm, h1, h2, h3⟩ => ?_⟩
      · obtain ⟨m, hm, h1⟩ := (cnt_iff hS k c).1 (by omega)
        exact ⟨m, by omega, h1⟩
      · have e : m ≠ k := fun e => h ⟨e ▸ h1, e ▸ h2⟩
        have := (cnt_iff hS k c).2 ⟨m, by omega, h1, h2, h3⟩
        omega
theorem pos_at {i c : Nat} (h : c < pos E i) : ∃ m, m < i ∧ (E m).r = (E i).r ∧ pos E m = c := by
  obtain ⟨m, h1, h2, _, h3⟩ := (cnt_iff (S := fun _ => true) (fun _ _ _ _ _ => rfl) i c).1 h
  exact ⟨m, h1, h2, h3⟩
/-- What a clock tells of a rank: as many as there are of that rank up to the event. -/
def Tells (E : Nat → Ev) (i : Nat) (f : Nat → Nat) : Prop := ∀ q c, c < f q ↔ ∃ m, (E m).r = q ∧ pos E m = c ∧ Le E i m
theorem Tells.own {i : Nat} {f : Nat → Nat} (h : Tells E i f) : f (E i).r = pos E i + 1 := by
  have h1 : pos E i < f (E i).r := (h _ _).2 ⟨i, rfl, rfl, .inl rfl⟩
  have h2 : ¬ pos E i + 1 < f (E i).r := fun h2 => by
    obtain ⟨m, hr, hp, hl⟩ := (h _ _).1 h2
    rcases hl with rfl | hl
    · omega
    · have := pos_lt hl.lt hr
      omega
  omega
/-- What the program asks: whether i is ahead of k. -/
theorem Tells.ahead {i k : Nat} {f g : Nat → Nat} (hi : Tells E i f) (hk : Tells E k g) (hne : i ≠ k) : f (E i).r ≤ g (E i).r ↔ Ah E k i := by
  rw [hi.own]
  have h1 := hk (E i).r (pos E i)
  constructor
  · intro h
    obtain ⟨m, hr, hp, hl⟩ := h1.1 (by omega)
    have := pos_inj hr hp
    subst this
    exact hl.resolve_left hne
  · intro h
    exact h1.2 ⟨i, rfl, rfl, .inr h⟩
/-- One clock is within another one just if its event is, or is ahead. -/
theorem Tells.within {i k : Nat} {f g : Nat → Nat} (hi : Tells E i f) (hk : Tells E k g) : (∀ q, f q ≤ g q) ↔ Le E k i := by
  constructor
  · intro h
    by_cases e : i = k
    · exact .inl e
    · exact .inr ((hi.ahead hk e).1 (h _))
  · intro h q
    have hsub : ∀ c, c < f q → c < g q := fun c hc => by
      obtain ⟨m, hr, hp, hl⟩ := (hi q c).1 hc
      refine (hk q c).2 ⟨m, hr, hp, ?_⟩
      rcases h with rfl | h
      · exact hl
      · rcases hl with rfl | hl
        · exact .inr h
        · exact .inr (h.trans hl)
    rcases Nat.lt_or_ge (g q) (f q) with h2 | h2
    · have := hsub (g q) h2
      omega
    · exact h2
theorem Tells.same {i k : Nat} {f g : Nat → Nat} (hi : Tells E i f) (hk : Tells E k g) (h1 : ∀ q, f q = g q) : i = k := by
  have a := (hi.within hk).1 fun q => Nat.le_of_eq (h1 q)
  have b := (hk.within hi).1 fun q => Nat.le_of_eq (h1 q).symm
  rcases a with a | a
  · exact a
  · rcases b with b | b
    · exact b.symm
    · have := a.lt
      have := b.lt
      omega
/-- By the row of those ahead, counted. -/
theorem tells_count {i : Nat} (S : Nat → Bool) (hS : ∀ m, S m = true ↔ Ah E i m) (k : Nat) (hk : i ≤ k) : Tells E i fun q => cnt E q S k + (if (E i).r = q then 1 else 0) := by
  have dn : ∀ a m, m < a → (E m).r = (E a).r → S a = true → S m = true := fun a m h1 h2 h3 => (hS m).2 (((hS a).1 h3).trans (same_rank h1 h2))
  intro q c
  have h1 := cnt_iff (q := q) dn k
  show c < cnt E q S k + (if (E i).r = q then 1 else 0) ↔ _
  by_cases hq : (E i).r = q
  · subst hq
    have hp : cnt E (E i).r S k = pos E i := by
      have up : ∀ d, cnt E (E i).r S (i + d) = cnt E (E i).r S i := by
        intro d
        induction d with
        | zero => rfl
        | succ d ih =>
          have hn : ¬ ((E (i + d)).r = (E i).r ∧ S (i + d) = true) := fun h3 => by
            have := ((hS _).1 h3.2).lt
            omega
          rw [show i + (d + 1) = (i + d) + 1 by omega, cnt_succ, ih, if_neg hn, Nat.add_zero]
      have := up (k - i)
      rw [show i + (k - i) = k by omega] at this
      rw [this]
      exact cnt_all fun m hm hr => (hS m).2 (same_rank hm hr)
    rw [if_pos rfl]
    constructor
    · intro hc
      by_cases e : c = cnt E (E i).r S k
      · exact ⟨i, rfl, by omega, .inl rfl⟩
      · obtain ⟨m, _, hr, hs, hpm⟩ := (h1 c).1 (by omega)
        exact ⟨m, hr, hpm, .inr ((hS m).1 hs)⟩
    · rintro ⟨m, hr, hpm, hl⟩
      rcases hl with rfl | hl
      · omega
      · have := (h1 c).2 ⟨m, by have := hl.lt; omega, hr, (hS m).2 hl, hpm⟩
        omega
  · rw [if_neg hq]
    constructor
    · intro hc
      obtain ⟨m, _, hr, hs, hpm⟩ := (h1 c).1 (by omega)
      exact ⟨m, hr, hpm, .inr ((hS m).1 hs)⟩
    · rintro ⟨m, hr, hpm, hl⟩
      rcases hl with rfl | hl
      · exact absurd hr hq
      · have := (h1 c).2 ⟨m, by have := hl.lt; omega, hr, (hS m).2 hl, hpm⟩
        omega
theorem Tells.eq {i : Nat} {f g : Nat → Nat} (h : Tells E i f) (h' : Tells E i g) : ∀ q, f q = g q := fun q => by
  rcases Nat.lt_trichotomy (f q) (g q) with h1 | h1 | h1
  · have := (h q (f q)).2 ((h' q (f q)).1 h1)
    omega
  · exact h1
  · have := (h' q (g q)).2 ((h q (g q)).1 h1)
    omega
theorem Tells.le {i : Nat} {f : Nat → Nat} (h : Tells E i f) (q : Nat) : f q ≤ i + 1 := by
  rcases Nat.lt_or_ge (i + 1) (f q) with h1 | h1
  · obtain ⟨m, hr, hp, hl⟩ := (h q (i + 1)).1 h1
    have h2 : m ≤ i := by
      rcases hl with rfl | hl
      · exact Nat.le_refl _
      · exact Nat.le_of_lt hl.lt
    have h3 : pos E m ≤ m := cnt_le _ _ _
    omega
  · exact h1
/-- The events that the program puts together: those of After, and the last one of the rank. -/
def AheadOf (E : Nat → Ev) (i : Nat) (l : List Nat) : Prop := (∀ k ∈ l, Dir E i k) ∧ (∀ k ∈ (E i).af, k < i → k ∈ l) ∧ ∀ m, m < i → (E m).r = (E i).r → ∃ k ∈ l, (E k).r = (E i).r ∧ m ≤ k
theorem AheadOf.ah {i m : Nat} {l : List Nat} (h : AheadOf E i l) : Ah E i m ↔ ∃ k ∈ l, Le E k m := by
  constructor
  · intro ha
    obtain ⟨k, hd, hl⟩ := ha.by_dir
    rcases hd.2 with hr | hk
    · obtain ⟨k', hk', hr', hle⟩ := h.2.2 k hd.1 hr
      refine ⟨k', hk', ?_⟩
      by_cases e : k = k'
      · exact e ▸ hl
      · have h2 : Ah E k' k := same_rank (by omega) (hr.trans hr'.symm)
        rcases hl with rfl | hl
        · exact .inr h2
        · exact .inr (h2.trans hl)
    · exact ⟨k, h.2.1 k hk hd.1, hl⟩
  · rintro ⟨k, hk, hl⟩
    exact (h.1 k hk).le hl
/-- The greatest of what these tell, and one more of its own rank. -/
theorem tells_merge {i : Nat} {l : List Nat} (h : AheadOf E i l) {F : Nat → Nat → Nat} (hF : ∀ k ∈ l, Tells E k (F k)) {f : Nat → Nat} (hf : ∀ q c, c < f q ↔ ∃ k ∈ l, c < F k q) : Tells E i fun q => f q + (if (E i).r = q then 1 else 0) := by
  have h1 : ∀ q c, c < f q ↔ ∃ m, (E m).r = q ∧ pos E m = c ∧ Ah E i m := fun q c => by
    rw [hf]
    constructor
    · rintro ⟨k, hk, hc⟩
      obtain ⟨m, hr, hp, hl⟩ := (hF k hk q c).1 hc
      exact ⟨m, hr, hp, h.ah.2 ⟨k, hk, hl⟩⟩
    · rintro ⟨m, hr, hp, ha⟩
      obtain ⟨k, hk, hl⟩ := h.ah.1 ha
      exact ⟨k, hk, (hF k hk q c).2 ⟨m, hr, hp, hl⟩⟩
  intro q c
  show c < f q + (if (E i).r = q then 1 else 0) ↔ _
  by_cases hq : (E i).r = q
  · subst hq
    rw [if_pos rfl]
    have hp : f (E i).r = pos E i := by
      rcases Nat.lt_trichotomy (f (E i).r) (pos E i) with h2 | h2 | h2
      · obtain ⟨m, hm, hr, hpm⟩ := pos_at h2
        have := (h1 (E i).r (f (E i).r)).2 ⟨m, hr, hpm, same_rank hm hr⟩
        omega
      · exact h2
      · obtain ⟨m, hr, hpm, ha⟩ := (h1 (E i).r (pos E i)).1 h2
        have := pos_lt ha.lt hr
        omega
    constructor
    · intro hc
      by_cases e : c = f (E i).r
      · exact ⟨i, rfl, by omega, .inl rfl⟩
      · obtain ⟨m, hr, hpm, ha⟩ := (h1 (E i).r c).1 (by omega)
        exact ⟨m, hr, hpm, .inr ha⟩
    · rintro ⟨m, hr, hpm, hl⟩
      rcases hl with rfl | hl
      · omega
      · have := (h1 (E i).r c).2 ⟨m, hr, hpm, hl⟩
        omega
  · rw [if_neg hq]
    constructor
    · intro hc
      obtain ⟨m, hr, hpm, ha⟩ := (h1 q c).1 hc
      exact ⟨m, hr, hpm, .inr ha⟩
    · rintro ⟨m, hr, hpm, hl⟩
      rcases hl with rfl | hl
      · exact absurd hr hq
      · exact (h1 q c).2 ⟨m, hr, hpm, hl⟩
end Ord
end Go.Proofs.Ytflaikhkddjfjaa
