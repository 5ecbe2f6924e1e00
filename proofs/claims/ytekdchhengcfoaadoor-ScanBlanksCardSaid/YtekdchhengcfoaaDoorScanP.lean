/- What a scan comes to, in plain words: skipping a remark, the word with which a text begins, the rows of words. No program's text. -/
import Derived.Test.YtekdchhengcfoaaDoorRows
import Derived.Test.YtekdchhengcfoaaDoorScanD
namespace Go.Proofs.YtekdchhengcfoaaDoor
open Go.RowKit
set_option linter.unusedVariables false
set_option linter.unusedSimpArgs false
/-- Where a remark ends. -/
def skip (s : ByteArray) (pos : Nat) : Nat :=
  if h : pos < s.size then (if (s[pos]).toNat = 10 then pos else skip s (pos + 1)) else pos
termination_by s.size - pos
theorem skip_stop {s : ByteArray} {pos : Nat} (h : pos < s.size) (hn : (s[pos]).toNat = 10) : skip s pos = pos := by
  unfold skip; rw [dif_pos h, if_pos hn]
theorem skip_go {s : ByteArray} {pos : Nat} (h : pos < s.size) (hn : ¬ (s[pos]).toNat = 10) : skip s pos = skip s (pos + 1) := by
  conv => lhs; unfold skip
  rw [dif_pos h, if_neg hn]
theorem skip_end {s : ByteArray} {pos : Nat} (h : ¬ pos < s.size) : skip s pos = pos := by
  unfold skip; rw [dif_neg h]
theorem skip_ge (s : ByteArray) : ∀ (k pos : Nat), s.size - pos = k → pos ≤ skip s pos
  | 0, pos, h => by rw [skip_end (by omega)]; exact Nat.le_refl _
  | k + 1, pos, h => by
    by_cases hp : pos < s.size
    · by_cases hn : (s[pos]).toNat = 10
      · rw [skip_stop hp hn]; exact Nat.le_refl _
      · rw [skip_go hp hn]
        have := skip_ge s k (pos + 1) (by omega)
        omega
    · rw [skip_end hp]; exact Nat.le_refl _
theorem skip_many {s : ByteArray} : ∀ (w pos : Nat), (∀ k, k < w → ∃ h : pos + k < s.size, ¬ (s[pos + k]).toNat = 10) → skip s pos = skip s (pos + w)
  | 0, _, _ => rfl
  | w + 1, pos, h => by
    obtain ⟨h0, h1⟩ := h 0 (by omega)
    rw [skip_go (pos := pos) (by omega) (by simpa using h1), skip_many w (pos + 1) (fun k hk => ?_)]
    · congr 1; omega
    · obtain ⟨h2, h3⟩ := h (k + 1) (by omega)
      have e : pos + 1 + k = pos + (k + 1) := by omega
      refine ⟨by omega, ?_⟩
      simpa [e] using h3
/-- All bytes of a rune that isn't plain ASCII are high. -/
theorem decode_cont (s : ByteArray) (pos : Nat) (h : pos < s.size) : ∀ k, 1 ≤ k → k < (Utf8.decode s pos).2 → pos + k < s.size ∧ (s.get! (pos + k)).toNat / 64 = 2 := by
  intro k hk hk2
  unfold Utf8.decode at hk2
  simp only [] at hk2
  split at hk2
  · simp at hk2; omega
  · split at hk2
    · rename_i hc
      simp only [Bool.and_eq_true, decide_eq_true_eq, beq_iff_eq] at hc
      split at hk2
      · have : k = 1 := by simp at hk2; omega
        subst this; exact hc.2
      · simp at hk2; omega
    · split at hk2
      · rename_i hc
        simp only [Bool.and_eq_true, decide_eq_true_eq, beq_iff_eq] at hc
        split at hk2
        · have : k = 1 ∨ k = 2 := by simp at hk2; omega
          rcases this with rfl | rfl
          · exact hc.1.2
          · exact hc.2
        · simp at hk2; omega
      · split at hk2
        · rename_i hc
          simp only [Bool.and_eq_true, decide_eq_true_eq, beq_iff_eq] at hc
          split at hk2
          · have : k = 1 ∨ k = 2 ∨ k = 3 := by simp at hk2; omega
            rcases this with rfl | rfl | rfl
            · exact hc.1.1.2
            · exact hc.1.2
            · exact hc.2
          · simp at hk2; omega
        · simp at hk2; omega
theorem skip_rune {s : ByteArray} {pos : Nat} (h : pos < s.size) (hn : ¬ (s[pos]).toNat = 10) : skip s pos = skip s (pos + (Utf8.decode s pos).2) := by
  refine skip_many _ _ fun k hk => ?_
  rcases Nat.eq_zero_or_pos k with rfl | h0
  · exact ⟨h, hn⟩
  · obtain ⟨h1, h2⟩ := decode_cont s pos h k h0 hk
    refine ⟨h1, ?_⟩
    have e : s.get! (pos + k) = s[pos + k] := by
      have := get_at s (pos + k) h1
      simpa using this
    rw [e] at h2
    omega
/-- A number's digits. -/
def numOf (l : List UInt8) : Int := l.foldl (fun n b => n * 10 + ((b.toNat : Int) - 48)) 0
/-- The word with which a text begins: its kind, how long it is, its number. -/
def wordOf (t : ByteArray) : Option (Int × Nat × Int) :=
  if h : 0 < t.size then
    if isLet (t[0]).toNat = true then
      (if wordB (t.extract 0 (runFrom isLod t 0)).toList then some (3, runFrom isLod t 0, 0) else if runFrom isLod t 0 ≤ 12 then some (1, runFrom isLod t 0, 0) else none)
    else if isDig (t[0]).toNat = true then
      (if 18 < runFrom isDig t 0 ∨ ((t[0]).toNat = 48 ∧ 1 < runFrom isDig t 0) then none else some (2, runFrom isDig t 0, numOf (t.extract 0 (runFrom isDig t 0)).data.toList))
    else (if 0 < signFrom t 0 then some (4, signFrom t 0, 0) else none)
  else none
/-- A word. -/
structure Tok where
  k : Int
  s : ByteArray
  n : Int
  l : Nat
  c : Nat
/-- What a scan comes to from a place on: the words; where it stops, if it does. -/
inductive Sc (s : ByteArray) : Nat → Nat → Nat → List Tok → Option (Nat × Nat) → Prop
  | fin {pos line col : Nat} : ¬ pos < s.size → Sc s pos line col [] none
  | nl {pos line col : Nat} {l : List Tok} {e : Option (Nat × Nat)} (h : pos < s.size) : (s[pos]).toNat = 10 → Sc s (pos + 1) (line + 1) 1 l e → Sc s pos line col l e
  | blank {pos line col : Nat} {l : List Tok} {e : Option (Nat × Nat)} (h : pos < s.size) : ((s[pos]).toNat = 32 ∨ (s[pos]).toNat = 9 ∨ (s[pos]).toNat = 13) → Sc s (pos + 1) line (col + 1) l e → Sc s pos line col l e
  | hash {pos line col : Nat} {l : List Tok} {e : Option (Nat × Nat)} (h : pos < s.size) : (s[pos]).toNat = 35 → Sc s (skip s pos) line (col + (skip s pos - pos)) l e → Sc s pos line col l e
  | bad {pos line col : Nat} (h : pos < s.size) : (¬ (s[pos]).toNat = 10 ∧ ¬ (s[pos]).toNat = 32 ∧ ¬ (s[pos]).toNat = 9 ∧ ¬ (s[pos]).toNat = 13 ∧ ¬ (s[pos]).toNat = 35) → wordOf (s.extract pos s.size) = none → Sc s pos line col [] (some (line, col))
  | tok {pos line col n : Nat} {k v : Int} {l : List Tok} {e : Option (Nat × Nat)} (h : pos < s.size) : (¬ (s[pos]).toNat = 10 ∧ ¬ (s[pos]).toNat = 32 ∧ ¬ (s[pos]).toNat = 9 ∧ ¬ (s[pos]).toNat = 13 ∧ ¬ (s[pos]).toNat = 35) →
      wordOf (s.extract pos s.size) = some (k, n, v) → Sc s (pos + n) line (col + n) l e → Sc s pos line col (⟨k, s.extract pos (pos + n), v, line, col⟩ :: l) e
theorem Sc.det {s : ByteArray} {pos line col : Nat} {l : List Tok} {e : Option (Nat × Nat)} (h : Sc s pos line col l e) : ∀ {l' : List Tok} {e' : Option (Nat × Nat)}, Sc s pos line col l' e' → l = l' ∧ e = e' := by
  induction h with
  | fin h0 => intro l' e' h'; cases h' <;> first | exact ⟨rfl, rfl⟩ | (rename_i h1 _ _; exact absurd h1 h0) | (rename_i h1 _ _ _; exact absurd h1 h0)
  | nl h0 hc _ ih =>
    intro l' e' h'
    cases h' with
    | fin h1 => exact absurd h0 h1
    | nl h1 hc' h2 => exact ih h2
    | blank h1 hc' h2 => omega
    | hash h1 hc' h2 => omega
    | bad h1 hc' h2 => exact absurd hc hc'.1
    | tok h1 hc' h2 h3 => exact absurd hc hc'.1
  | blank h0 hc _ ih =>
    intro l' e' h'
    cases h' with
    | fin h1 => exact absurd h0 h1
    | nl h1 hc' h2 => omega
    | blank h1 hc' h2 => exact ih h2
    | hash h1 hc' h2 => omega
    | bad h1 hc' h2 => omega
    | tok h1 hc' h2 h3 => omega
  | hash h0 hc _ ih =>
    intro l' e' h'
    cases h' with
    | fin h1 => exact absurd h0 h1
    | nl h1 hc' h2 => omega
    | blank h1 hc' h2 => omega
    | hash h1 hc' h2 => exact ih h2
    | bad h1 hc' h2 => omega
    | tok h1 hc' h2 h3 => omega
  | bad h0 hc hw =>
    intro l' e' h'
    cases h' with
    | fin h1 => exact absurd h0 h1
    | nl h1 hc' h2 => omega
    | blank h1 hc' h2 => omega
    | hash h1 hc' h2 => omega
    | bad h1 hc' h2 => exact ⟨rfl, rfl⟩
    | tok h1 hc' h2 h3 => rw [hw] at h2; cases h2
  | tok h0 hc hw _ ih =>
    intro l' e' h'
    cases h' with
    | fin h1 => exact absurd h0 h1
    | nl h1 hc' h2 => omega
    | blank h1 hc' h2 => omega
    | hash h1 hc' h2 => omega
    | bad h1 hc' h2 => rw [hw] at h2; cases h2
    | tok h1 hc' h2 h3 =>
      rw [hw] at h2
      injection h2 with h2
      injection h2 with h4 h5
      injection h5 with h5 h6
      subst h4 h5 h6
      obtain ⟨rfl, rfl⟩ := ih h3
      exact ⟨rfl, rfl⟩
theorem runFrom_ge (p : Int → Bool) (s : ByteArray) : ∀ (k pos : Nat), s.size - pos = k → pos ≤ runFrom p s pos
  | 0, pos, h => by rw [runFrom_end (by omega)]; exact Nat.le_refl _
  | k + 1, pos, h => by
    by_cases hp : pos < s.size
    · by_cases hn : (s[pos]).toNat < 128 ∧ p (s[pos]).toNat = true
      · rw [runFrom_go hp hn]
        have := runFrom_ge p s k (pos + 1) (by omega)
        omega
      · rw [runFrom_stop hp hn]; exact Nat.le_refl _
    · rw [runFrom_end hp]; exact Nat.le_refl _
theorem runFrom_le (p : Int → Bool) (s : ByteArray) : ∀ (k pos : Nat), s.size - pos = k → pos ≤ s.size → runFrom p s pos ≤ s.size
  | 0, pos, h, h' => by rw [runFrom_end (by omega)]; exact h'
  | k + 1, pos, h, h' => by
    by_cases hp : pos < s.size
    · by_cases hn : (s[pos]).toNat < 128 ∧ p (s[pos]).toNat = true
      · rw [runFrom_go hp hn]
        exact runFrom_le p s k (pos + 1) (by omega) (by omega)
      · rw [runFrom_stop hp hn]; exact h'
    · rw [runFrom_end hp]; exact h'
/-- All bytes of a run are of the class. -/
theorem runFrom_all (p : Int → Bool) (s : ByteArray) : ∀ (k pos : Nat), s.size - pos = k → ∀ j, pos ≤ j → j < runFrom p s pos → ∃ h : j < s.size, (s[j]).toNat < 128 ∧ p (s[j]).toNat = true
  | 0, pos, h, j, h1, h2 => by rw [runFrom_end (by omega)] at h2; omega
  | k + 1, pos, h, j, h1, h2 => by
    by_cases hp : pos < s.size
    · by_cases hn : (s[pos]).toNat < 128 ∧ p (s[pos]).toNat = true
      · rw [runFrom_go hp hn] at h2
        by_cases hj : j = pos
        · subst hj; exact ⟨hp, hn⟩
        · exact runFrom_all p s k (pos + 1) (by omega) j (by omega) h2
      · rw [runFrom_stop hp hn] at h2; omega
    · rw [runFrom_end hp] at h2; omega
end Go.Proofs.YtekdchhengcfoaaDoor
