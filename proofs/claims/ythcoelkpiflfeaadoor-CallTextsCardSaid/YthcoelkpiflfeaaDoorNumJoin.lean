/- Numbers' texts, one behind the other, and what replacing between them does. No program's text. -/
import Derived.Test.YthcoelkpiflfeaaDoorRows
import Derived.Test.YthcoelkpiflfeaaDoorNumP
import Derived.Lib.Replace
import Derived.Lib.IndexLaws
import Derived.Lib.Strings
namespace Go.Proofs.YthcoelkpiflfeaaDoor
open Go.RowKit
open Go.Lib (itoa decDigits decDigits_one index occAt index_first index_none count count_miss count_hit replaceK replaceK_hit replaceAll replace replaceNum trimSuffix hasSuffix)
set_option linter.unusedVariables false
set_option linter.unusedSimpArgs false
theorem dec_bytes : ∀ (u : Nat), ∀ b ∈ decDigits u, 48 ≤ b.toNat ∧ b.toNat ≤ 57 := by
  intro u
  induction u using Nat.strongRecOn with
  | _ u ih =>
    intro b hb
    have one : ∀ d, d < 10 → 48 ≤ (UInt8.ofNat (48 + d)).toNat ∧ (UInt8.ofNat (48 + d)).toNat ≤ 57 := fun d hd => by rw [UInt8.toNat_ofNat']; omega
    by_cases h : u < 10
    · rw [decDigits_one h] at hb
      simp only [List.mem_singleton] at hb
      subst hb
      exact one u h
    · rw [decDigits, dif_neg h] at hb
      rcases List.mem_append.1 hb with hb | hb
      · exact ih _ (by omega) b hb
      · simp only [List.mem_singleton] at hb
        subst hb
        exact one _ (by omega)
theorem itoa_bytes (n : Int) : ∀ b ∈ itoa n, b.toNat = 45 ∨ (48 ≤ b.toNat ∧ b.toNat ≤ 57) := by
  intro b hb
  unfold itoa at hb
  split at hb
  · rcases List.mem_cons.1 hb with rfl | hb
    · exact .inl rfl
    · exact .inr (dec_bytes _ b hb)
  · exact .inr (dec_bytes _ b hb)
theorem dec_ne (u : Nat) : decDigits u ≠ [] := by
  unfold decDigits
  split <;> simp
theorem itoa_ne (n : Int) : itoa n ≠ [] := by
  unfold itoa
  split
  · simp
  · exact dec_ne _
theorem itoa_no44 (n : Int) : ∀ b ∈ itoa n, b ≠ 44 := by
  rintro b hb rfl
  have := itoa_bytes n _ hb
  simp at this
def tlC : List Int → List UInt8
  | [] => []
  | z :: l => 44 :: 32 :: (itoa z ++ tlC l)
def jnC : List Int → List UInt8
  | [] => []
  | z :: l => itoa z ++ tlC l
def tlS : List Int → List UInt8
  | [] => []
  | z :: l => 32 :: (itoa z ++ tlS l)
theorem occ_no (t r : List UInt8) (h : ∀ b ∈ t, b ≠ 44) (j : Nat) (hj : j < t.length) : occAt (t ++ r) [44, 32] j = false := by
  unfold occAt
  rw [List.drop_append_of_le_length (by omega), List.drop_eq_getElem_cons hj]
  have := h _ (List.getElem_mem hj)
  simp only [List.cons_append, List.isPrefixOf]
  rw [Bool.and_eq_false_iff]
  left
  simpa using fun e => this e.symm
theorem idx_none (t : List UInt8) (h : ∀ b ∈ t, b ≠ 44) : index t [44, 32] = -1 := by
  refine index_none fun j hj => ?_
  rcases Nat.lt_or_ge j t.length with h1 | h1
  · have := occ_no t [] h j h1
    rwa [List.append_nil] at this
  · unfold occAt
    rw [List.drop_eq_nil_of_le h1]
    rfl
theorem idx_hit (t r : List UInt8) (h : ∀ b ∈ t, b ≠ 44) : index (t ++ 44 :: 32 :: r) [44, 32] = t.length := by
  refine index_first (by simp) ?_ fun j hj => occ_no t _ h j hj
  unfold occAt
  simp [List.isPrefixOf]
theorem drop_hit (t r : List UInt8) : (t ++ 44 :: 32 :: r).drop (t.length + 2) = r := by
  rw [← List.drop_drop, List.drop_left]
  rfl
theorem count_jn : ∀ (l : List Int) (t : List UInt8), (∀ b ∈ t, b ≠ 44) → count (t ++ tlC l) [44, 32] = l.length
  | [], t, h => by rw [tlC, List.append_nil, count_miss (idx_none t h)]; rfl
  | z :: l, t, h => by
    rw [tlC, count_hit (by simp) (idx_hit t _ h)]
    rw [show ([44, 32] : List UInt8).length = 2 from rfl, drop_hit, count_jn l (itoa z) (itoa_no44 z)]
    simp [Nat.add_comm]
theorem rep_jn : ∀ (l : List Int) (t : List UInt8), (∀ b ∈ t, b ≠ 44) → replaceK [44, 32] [32] l.length (t ++ tlC l) = t ++ tlS l
  | [], t, h => by simp [tlC, tlS, replaceK]
  | z :: l, t, h => by
    rw [tlC, List.length_cons, replaceK_hit _ _ _ _ _ (idx_hit t _ h), show ([44, 32] : List UInt8).length = 2 from rfl, drop_hit, rep_jn l (itoa z) (itoa_no44 z), tlS]
    rw [List.take_left]
    simp
theorem replace_jn (zs : List Int) : replaceAll (jnC zs) [44, 32] [32] = (match zs with | [] => [] | z :: l => itoa z ++ tlS l) := by
  unfold replaceAll replace
  rw [if_neg (by decide)]
  have e : replaceNum (jnC zs) [44, 32] (-1) = count (jnC zs) [44, 32] := by unfold replaceNum; rw [if_pos (.inl (by decide))]
  rw [e]
  cases zs with
  | nil =>
    rw [jnC, count_miss (idx_none [] (by simp))]
    rfl
  | cons z l =>
    rw [jnC, count_jn l _ (itoa_no44 z), rep_jn l _ (itoa_no44 z)]
theorem tlS_last : ∀ (l : List Int) (t : List UInt8), t ≠ [] → (∀ b ∈ t, b ≠ 32) → ∃ x b, t ++ tlS l = x ++ [b] ∧ b ≠ 32
  | [], t, h, h2 => by
    rw [tlS, List.append_nil]
    exact ⟨t.dropLast, t.getLast h, (List.dropLast_concat_getLast h).symm, h2 _ (List.getLast_mem h)⟩
  | z :: l, t, h, h2 => by
    obtain ⟨x, b, h3, h4⟩ := tlS_last l (itoa z) (itoa_ne z) (fun b hb e => by subst e; have := itoa_bytes z _ hb; simp at this)
    exact ⟨t ++ 32 :: x, b, by rw [tlS, h3]; simp, h4⟩
/-- The text of a row of numbers. -/
def rowT (zs : List Int) : List UInt8 := [114, 111, 119] ++ tlS zs
theorem values_spec (zs : List Int) : trimSuffix ([114, 111, 119, 32] ++ replaceAll (jnC zs) [44, 32] [32]) [32] = rowT zs := by
  rw [replace_jn]
  cases zs with
  | nil => decide
  | cons z l =>
    obtain ⟨x, b, h1, h2⟩ := tlS_last l (itoa z) (itoa_ne z) (fun b hb e => by subst e; have := itoa_bytes z _ hb; simp at this)
    simp only
    rw [h1]
    have : hasSuffix ([114, 111, 119, 32] ++ (x ++ [b])) [32] = false := by
      unfold hasSuffix
      rw [← Bool.not_eq_true, List.isSuffixOf_iff_suffix]
      rintro ⟨y, hy⟩
      have e := congrArg List.getLast? hy
      rw [List.getLast?_concat, show ([114, 111, 119, 32] ++ (x ++ [b]) : List UInt8) = ([114, 111, 119, 32] ++ x) ++ [b] from rfl, List.getLast?_concat] at e
      exact h2 (Option.some.inj e).symm
    unfold trimSuffix
    rw [if_neg (by rw [this]; decide), rowT, tlS, h1]
    rfl
end Go.Proofs.YthcoelkpiflfeaaDoor
