/- What a result tells, in plain words. No program's text. -/
import Derived.Test.YthcoelkpiflfeaaDoorNumJoin
import Derived.Lib.ItoaLen
namespace Go.Proofs.YthcoelkpiflfeaaDoor
open Go.RowKit
open Go.Lib (itoa itoa_length_le decDigits_one)
set_option linter.unusedVariables false
set_option linter.unusedSimpArgs false
namespace Told
theorem itoa0 : itoa 0 = [48] := by
  have := Go.Lib.itoa_nonneg 0
  rw [decDigits_one (by omega)] at this
  exact this
theorem itoa1 : itoa 1 = [49] := by
  have := Go.Lib.itoa_nonneg 1
  rw [decDigits_one (by omega)] at this
  exact this
def Fit (n : Int) : Prop := -9223372036854775808 ≤ n ∧ n ≤ 9223372036854775807
theorem tlC_snoc (z : Int) : ∀ l : List Int, tlC (l ++ [z]) = tlC l ++ (44 :: 32 :: itoa z)
  | [] => by simp [tlC]
  | x :: l => by rw [List.cons_append, tlC, tlC, tlC_snoc z l]; simp
theorem tlS_snoc (z : Int) : ∀ l : List Int, tlS (l ++ [z]) = tlS l ++ (32 :: itoa z)
  | [] => by simp [tlS]
  | x :: l => by rw [List.cons_append, tlS, tlS, tlS_snoc z l]; simp
theorem jnC_snoc (z : Int) (l : List Int) (h : l ≠ []) : jnC (l ++ [z]) = (jnC l ++ [44, 32]) ++ itoa z := by
  cases l with
  | nil => exact absurd rfl h
  | cons x l => rw [List.cons_append, jnC, jnC, tlC_snoc]; simp
theorem take_snoc (l : List Int) (k : Nat) (h : k < l.length) : l.take (k + 1) = l.take k ++ [l.getD k 0] := by
  rw [List.take_succ_eq_append_getElem h, List.getD, List.getElem?_eq_getElem h]
  rfl
theorem jn_0 (l : List Int) (h : 0 < l.length) : jnC (l.take 1) = itoa (l.getD 0 0) := by
  cases l with
  | nil => simp at h
  | cons x l => simp [jnC, tlC]
theorem jn_s (l : List Int) (k : Nat) (h : k < l.length) (h0 : k ≠ 0) : jnC (l.take (k + 1)) = (jnC (l.take k) ++ [44, 32]) ++ itoa (l.getD k 0) := by
  rw [take_snoc l k h, jnC_snoc]
  intro e
  have := congrArg List.length e
  rw [List.length_take, List.length_nil] at this
  omega
theorem ts_s (l : List Int) (k : Nat) (h : k < l.length) : tlS (l.take (k + 1)) = tlS (l.take k) ++ (32 :: itoa (l.getD k 0)) := by
  rw [take_snoc l k h, tlS_snoc]
theorem getD_fit {l : List Int} (h : ∀ z ∈ l, Fit z) (i : Nat) : Fit (l.getD i 0) := by
  rw [List.getD]
  cases e : l[i]? with
  | none => show Fit 0; unfold Fit; omega
  | some z => exact h z (List.mem_of_getElem? e)
theorem fit_len {z : Int} (h : Fit z) : (itoa z).length ≤ 21 := itoa_length_le z h.1 h.2
theorem tlC_len : ∀ {l : List Int}, (∀ z ∈ l, Fit z) → (tlC l).length ≤ l.length * 23
  | [], _ => by simp [tlC]
  | x :: l, h => by
    have h1 := fit_len (h x List.mem_cons_self)
    have h2 := tlC_len (l := l) fun z hz => h z (List.mem_cons_of_mem _ hz)
    simp only [tlC, List.length_cons, List.length_append]
    omega
theorem jnC_len {l : List Int} (h : ∀ z ∈ l, Fit z) : (jnC l).length ≤ l.length * 23 := by
  cases l with
  | nil => simp [jnC]
  | cons x l =>
    have h1 := fit_len (h x List.mem_cons_self)
    have h2 := tlC_len (l := l) fun z hz => h z (List.mem_cons_of_mem _ hz)
    simp only [jnC, List.length_cons, List.length_append]
    omega
theorem tlS_len : ∀ {l : List Int}, (∀ z ∈ l, Fit z) → (tlS l).length ≤ l.length * 23
  | [], _ => by simp [tlS]
  | x :: l, h => by
    have h1 := fit_len (h x List.mem_cons_self)
    have h2 := tlS_len (l := l) fun z hz => h z (List.mem_cons_of_mem _ hz)
    simp only [tlS, List.length_cons, List.length_append]
    omega
theorem fit_take {l : List Int} (h : ∀ z ∈ l, Fit z) (k : Nat) : ∀ z ∈ l.take k, Fit z := fun z hz => h z (List.mem_of_mem_take hz)
end Told
end Go.Proofs.YthcoelkpiflfeaaDoor
