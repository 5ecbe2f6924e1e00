/- The text of a row of picks, pick by pick. No program's text. -/
import Derived.Test.YtaakndenkfkijaaDoorWitO
namespace Go.Proofs.YtaakndenkfkijaaDoor
open Go.RowKit
open Go.Lib (itoa itoa_length_le)
set_option linter.unusedVariables false
set_option linter.unusedSimpArgs false
namespace Wit
theorem ptT_pos {p : Pk} {w : List UInt8} (h : ptT p = some w) : w ≠ [] := by
  unfold ptT at h
  split at h
  · split at h
    · cases h; simp
    · cases h
  · split at h
    · split at h
      · cases h; simp
      · cases h
    · split at h
      · cases h; simp
      · cases h
theorem one_some {p : Pk} (h : ¬ oneT p = []) : ptT p = some (oneT p) := by
  unfold oneT at *
  cases hp : ptT p with
  | none => rw [hp] at h; exact absurd rfl h
  | some w => rfl
theorem one_none {p : Pk} (h : oneT p = []) : ptT p = none := by
  unfold oneT at *
  cases hp : ptT p with
  | none => rfl
  | some w => rw [hp] at h; exact absurd h (ptT_pos hp)
theorem jn_snoc (b : UInt8) (w : List UInt8) : ∀ (l : List (List UInt8)), l ≠ [] → jnB b (l ++ [w]) = (jnB b l ++ [b]) ++ w
  | [], h => absurd rfl h
  | [p], _ => by simp [jnB]
  | p :: q :: r, _ => by
    have := jn_snoc b w (q :: r) (by simp)
    rw [List.cons_append, jn_cons b p _ (by simp), this, jn_cons b p _ (by simp)]
    simp
theorem txts_all : ∀ {l : List Pk}, (∀ i (h : i < l.length), ¬ oneT l[i] = []) → txts l = some (l.map oneT)
  | [], _ => rfl
  | p :: l, h => by
    have h0 := one_some (h 0 (by simp))
    have := txts_all (l := l) fun i hi => h (i + 1) (by simpa using hi)
    simp only [List.getElem_cons_zero] at h0
    rw [txts, h0]
    simp only
    rw [this]
    rfl
theorem txts_no : ∀ {l : List Pk} (i : Nat) (h : i < l.length), oneT l[i] = [] → txts l = none
  | p :: l, 0, _, h => by
    have h0 := one_none h
    simp only [List.getElem_cons_zero] at h0
    rw [txts, h0]
  | p :: l, i + 1, hi, h => by
    have := txts_no (l := l) i (by simpa using hi) h
    rw [txts, this]
    cases ptT p <;> rfl
/-- The text of the first k picks. -/
def ttP (l : List Pk) (k : Nat) : List UInt8 := jnB 32 ((l.take k).map oneT)
theorem ttP_0 (l : List Pk) : ttP l 0 = [] := rfl
theorem ttP_1 (l : List Pk) (h : 0 < l.length) : ttP l 1 = oneT l[0] := by
  unfold ttP
  cases l with
  | nil => simp at h
  | cons p l => rfl
theorem ttP_s (l : List Pk) (k : Nat) (h : k < l.length) (h0 : k ≠ 0) : ttP l (k + 1) = (ttP l k ++ [32]) ++ oneT l[k] := by
  unfold ttP
  rw [List.take_succ_eq_append_getElem h, List.map_append, List.map_cons, List.map_nil, jn_snoc 32 _ _ (by
    intro e
    have := congrArg List.length e
    rw [List.length_map, List.length_take, List.length_nil] at this
    omega)]
theorem one_len {p : Pk} (h : p.ok) : (oneT p).length ≤ 200 := by
  obtain ⟨o1, o2, o3, o4, o5⟩ := h
  have l1 := itoa_length_le _ o1.1 o1.2
  have l2 := itoa_length_le _ o2.1 o2.2
  have l3 := itoa_length_le _ o3.1 o3.2
  have l4 := itoa_length_le _ o4.1 o4.2
  have l5 := itoa_length_le _ o5.1 o5.2
  unfold oneT ptT
  split
  · split <;> simp [dots]; omega
  · split
    · split <;> simp [dots]; omega
    · split <;> simp [dots]; omega
theorem ttP_len {l : List Pk} (h : ∀ i (h : i < l.length), (l[i]).ok) : ∀ k, k ≤ l.length → (ttP l k).length ≤ k * 201
  | 0, _ => by simp [ttP_0]
  | k + 1, hk => by
    have ih := ttP_len h k (by omega)
    have h1 := one_len (h k (by omega))
    by_cases h0 : k = 0
    · subst h0
      rw [ttP_1 l (by omega)]
      omega
    · rw [ttP_s l k (by omega) h0]
      simp only [List.length_append, List.length_cons, List.length_nil]
      omega
theorem txtP_0 {l : List Pk} (h : l.length = 0) : txtP l = some [45] := by unfold txtP; rw [if_pos h]
theorem txtP_yes {l : List Pk} (h0 : 0 < l.length) (h : ∀ i (h : i < l.length), ¬ oneT l[i] = []) : txtP l = some (ttP l l.length) := by
  unfold txtP ttP
  rw [if_neg (by omega), txts_all h, List.take_length]
theorem txtP_no {l : List Pk} {i : Nat} (h0 : i < l.length) (h : oneT l[i] = []) : txtP l = none := by
  unfold txtP
  rw [if_neg (by omega), txts_no i h0 h]
/-- What is told of a row. -/
def txR (l : List Pk) : List UInt8 := (txtP l).getD []
def txE (l : List Pk) : Int := if (txtP l).isSome = true then 0 else 2
end Wit
end Go.Proofs.YtaakndenkfkijaaDoor
