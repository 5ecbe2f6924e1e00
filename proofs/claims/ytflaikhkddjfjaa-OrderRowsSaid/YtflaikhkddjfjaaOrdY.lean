/- The chapter's example: three events, reckoned. -/
import Derived.Test.YtflaikhkddjfjaaRows
import Derived.Test.YtflaikhkddjfjaaOrdX
namespace Go.Proofs.Ytflaikhkddjfjaa
open Go Go.RowKit
set_option linter.unusedVariables false
set_option linter.unusedSimpArgs false
namespace Ord
theorem grow_last {n : Nat} {E : Nat → Ev} {es : List Eo} {k : Nat} (h : Grow n E es) (hk : es.length = k + 1) :
    ∃ es' x, es = es' ++ [x] ∧ Grow n E es' ∧ es'.length = k ∧ x.r = (E k).r ∧ x.ah = aheadL n E k ∧ x.ck = tickL (foldM es' (List.replicate n 0) x.ah) x.r ∧ x.d = foldD es' 1 x.ah := by
  cases h with
  | nil => cases hk
  | @snoc es' x h1 h2 h3 h4 h5 h6 h7 =>
    have e : es'.length = k := by rw [List.length_append] at hk; simpa using hk
    subst e
    exact ⟨es', x, rfl, h1, rfl, h4, h5, h6, h7⟩
def ex0 (A C : Option Addr) (a c : Nat) : Eo := ⟨0, A, a, [], C, c, [1, 0], 1⟩
def ex1 (A C : Option Addr) (a c : Nat) : Eo := ⟨1, A, a, [], C, c, [0, 1], 1⟩
def ex2 (A C : Option Addr) (a c : Nat) : Eo := ⟨1, A, a, [0, 1], C, c, [1, 2], 2⟩
def exE (i : Nat) : Ev := match i with
  | 0 => ⟨0, []⟩
  | 1 => ⟨1, []⟩
  | _ => ⟨1, [0]⟩
set_option maxRecDepth 100000 in
theorem ex_es {es : List Eo} (h : Grow 2 exE es) (hl : es.length = 3) : ∃ A0 C0 a0 c0 A1 C1 a1 c1 A2 C2 a2 c2, es = [ex0 A0 C0 a0 c0, ex1 A1 C1 a1 c1, ex2 A2 C2 a2 c2] := by
  obtain ⟨es2, x2, rfl, h2, l2, r2, ah2, ck2, d2⟩ := grow_last h hl
  obtain ⟨es1, x1, rfl, h1, l1, r1, ah1, ck1, d1⟩ := grow_last h2 l2
  obtain ⟨es0, x0, rfl, h0, l0, r0, ah0, ck0, d0⟩ := grow_last h1 l1
  have e0 := List.eq_nil_of_length_eq_zero l0
  subst e0
  obtain ⟨R0, A0, a0, H0, C0, c0, K0, D0⟩ := x0
  obtain ⟨R1, A1, a1, H1, C1, c1, K1, D1⟩ := x1
  obtain ⟨R2, A2, a2, H2, C2, c2, K2, D2⟩ := x2
  dsimp only at r0 ah0 ck0 d0 r1 ah1 ck1 d1 r2 ah2 ck2 d2
  have r0' : R0 = 0 := r0
  have r1' : R1 = 1 := r1
  have r2' : R2 = 1 := r2
  have ah0' : H0 = [] := ah0.trans (by decide)
  have ah1' : H1 = [] := ah1.trans (by decide)
  have ah2' : H2 = [0, 1] := ah2.trans (by decide)
  subst r0' r1' r2' ah0' ah1' ah2'
  have ck0' : K0 = [1, 0] := ck0.trans (by decide)
  have d0' : D0 = 1 := d0.trans (by decide)
  subst ck0' d0'
  have ck1' : K1 = [0, 1] := ck1.trans rfl
  have d1' : D1 = 1 := d1.trans rfl
  subst ck1' d1'
  have ck2' : K2 = [1, 2] := ck2.trans rfl
  have d2' : D2 = 2 := d2.trans rfl
  subst ck2' d2'
  exact ⟨A0, C0, a0, c0, A1, C1, a1, c1, A2, C2, a2, c2, rfl⟩
section
variable (A0 C0 A1 C1 A2 C2 : Option Addr) (a0 c0 a1 c1 a2 c2 : Nat)
theorem ex_ah01 : aheadB [ex0 A0 C0 a0 c0, ex1 A1 C1 a1 c1, ex2 A2 C2 a2 c2] 0 1 = false := by kernel_rfl
theorem ex_ah10 : aheadB [ex0 A0 C0 a0 c0, ex1 A1 C1 a1 c1, ex2 A2 C2 a2 c2] 1 0 = false := by kernel_rfl
theorem ex_ah02 : aheadB [ex0 A0 C0 a0 c0, ex1 A1 C1 a1 c1, ex2 A2 C2 a2 c2] 0 2 = true := by kernel_rfl
theorem ex_ah12 : aheadB [ex0 A0 C0 a0 c0, ex1 A1 C1 a1 c1, ex2 A2 C2 a2 c2] 1 2 = true := by kernel_rfl
theorem ex_past : pastL [ex0 A0 C0 a0 c0, ex1 A1 C1 a1 c1, ex2 A2 C2 a2 c2] 2 3 = [0, 1] := by kernel_rfl
theorem ex_is : isF [ex0 A0 C0 a0 c0, ex1 A1 C1 a1 c1, ex2 A2 C2 a2 c2] [0, 2, 1] (fun _ => false) = false := by kernel_rfl
theorem ex_first : firstL [ex0 A0 C0 a0 c0, ex1 A1 C1 a1 c1, ex2 A2 C2 a2 c2] [1] = [1, 0, 2] := by kernel_rfl
end
end Ord
end Go.Proofs.Ytflaikhkddjfjaa
