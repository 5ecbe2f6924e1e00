/- What two clocks of one history tell of their events. -/
import Derived.Test.YtflaikhkddjfjaaRows
import Derived.Test.YtflaikhkddjfjaaOrdM
namespace Go.Proofs.Ytflaikhkddjfjaa
open Go Go.RowKit
set_option linter.unusedVariables false
set_option linter.unusedSimpArgs false
namespace Ord
theorem all_upto {l m : List Int} (p : Int × Int → Bool) : (upto (pr l m) l.length).all p = true ↔ ∀ j, j < l.length → p (l.getD j 0, m.getD j 0) = true := by
  simp [upto, pr, List.all_eq_true]
theorem cls_one (pre : List (Int × Int)) : cls pre = 1 ↔ pre.all (fun x => decide (x.1 ≤ x.2)) = true ∧ ¬ pre.all (fun x => decide (x.2 ≤ x.1)) = true := by
  unfold cls
  cases pre.all (fun x => decide (x.1 ≤ x.2)) <;> cases pre.all (fun x => decide (x.2 ≤ x.1)) <;> simp
theorem cls_zero (pre : List (Int × Int)) : cls pre = 0 ↔ pre.all (fun x => decide (x.1 ≤ x.2)) = true ∧ pre.all (fun x => decide (x.2 ≤ x.1)) = true := by
  unfold cls
  cases pre.all (fun x => decide (x.1 ≤ x.2)) <;> cases pre.all (fun x => decide (x.2 ≤ x.1)) <;> simp
structure Two (n : Nat) (E : Nat → Ev) (es : List Eo) : Prop where
  s : Sound n E es
  f : Fit n es
variable {n : Nat} {E : Nat → Ev} {es : List Eo}
def ckN (es : List Eo) (i q : Nat) : Nat := ((es.getD i default).ck.getD q 0).toNat
theorem Two.le (h : Two n E es) {i k : Nat} (hi : i < es.length) (hk : k < es.length) : (∀ j, j < n → (es.getD i default).ck.getD j 0 ≤ (es.getD k default).ck.getD j 0) ↔ Le E k i := by
  rw [← (h.s.t i hi).within (h.s.t k hk)]
  have li := h.s.len i hi
  have lk := h.s.len k hk
  constructor
  · intro h1 q
    show ((es.getD i default).ck.getD q 0).toNat ≤ ((es.getD k default).ck.getD q 0).toNat
    by_cases hq : q < n
    · have := h1 q hq
      omega
    · have e1 : (es.getD i default).ck.getD q 0 = 0 := by rw [List.getD_eq_getElem?_getD, List.getElem?_eq_none (by omega)]; rfl
      rw [e1]
      exact Nat.zero_le _
  · intro h1 j hj
    have h2 : ((es.getD i default).ck.getD j 0).toNat ≤ ((es.getD k default).ck.getD j 0).toNat := h1 j
    have := h.s.pos i hi j
    have := h.s.pos k hk j
    omega
theorem Two.may (h : Two n E es) {i k : Nat} (hi : i < es.length) (hk : k < es.length) : may2B (es.getD i default).ck (es.getD k default).ck = true :=
  (h.f.at_ hi).1.may2 (h.f.at_ hk).1 h.f.n1 h.f.n64 (by have := h.f.le; omega)
theorem Two.e0 (h : Two n E es) {i k : Nat} (hi : i < es.length) (hk : k < es.length) : ofE (es.getD i default).ck (es.getD k default).ck = 0 := by
  unfold ofE ofOk
  rw [h.may hi hk]
  rfl
theorem Two.ahead (h : Two n E es) {i k : Nat} (hi : i < es.length) (hk : k < es.length) : aheadB es i k = true ↔ (i ≠ k ∧ Ah E k i) := by
  unfold aheadB
  rw [inB_yes hi, inB_yes hk, Bool.true_and, Bool.true_and, Int.toNat_natCast, Int.toNat_natCast, Bool.and_eq_true, decide_eq_true_eq, decide_eq_true_eq]
  have p1 := h.s.pos i hi (E i).r
  have p2 := h.s.pos k hk (E i).r
  by_cases hne : i = k
  · subst hne
    simp
  · rw [(h.s.r i hi).1]
    have := (h.s.t i hi).ahead (h.s.t k hk) hne
    constructor
    · rintro ⟨_, h1⟩
      exact ⟨hne, this.1 (by omega)⟩
    · rintro ⟨_, h1⟩
      have := this.2 h1
      exact ⟨by omega, by omega⟩
theorem Two.u (h : Two n E es) {i k : Nat} (hi : i < es.length) (hk : k < es.length) : (ofU (es.getD i default).ck (es.getD k default).ck = 1 ↔ aheadB es i k = true) ∧ (ofU (es.getD i default).ck (es.getD k default).ck = 0 ↔ i = k) := by
  have e : ofU (es.getD i default).ck (es.getD k default).ck = cls (upto (pr (es.getD i default).ck (es.getD k default).ck) (es.getD i default).ck.length) := by
    unfold ofU ofOk
    rw [h.may hi hk]
    rfl
  rw [e, cls_one, cls_zero, all_upto, all_upto]
  simp only [decide_eq_true_eq]
  rw [h.s.len i hi, h.le hi hk, h.le hk hi]
  have ha := h.ahead hi hk
  rw [ha]
  unfold Le
  constructor
  · constructor
    · rintro ⟨h1, h2⟩
      have hne : i ≠ k := fun e => h2 (.inl e.symm)
      exact ⟨hne, h1.resolve_left hne⟩
    · rintro ⟨hne, h1⟩
      refine ⟨.inr h1, fun h2 => ?_⟩
      rcases h2 with h2 | h2
      · exact hne h2.symm
      · have := h1.lt
        have := h2.lt
        omega
  · constructor
    · rintro ⟨h1, h2⟩
      rcases h1 with h1 | h1
      · exact h1
      · rcases h2 with h2 | h2
        · exact h2.symm
        · have := h1.lt
          have := h2.lt
          omega
    · rintro rfl
      exact ⟨.inl rfl, .inl rfl⟩
end Ord
end Go.Proofs.Ytflaikhkddjfjaa
