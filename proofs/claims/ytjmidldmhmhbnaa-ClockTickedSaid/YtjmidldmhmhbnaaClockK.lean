/- Three clocks that may be told of one another; the order of clocks, in plain words. -/
import Derived.Test.YtjmidldmhmhbnaaClockJ
namespace Go.Proofs.Ytjmidldmhmhbnaa
open Go.RowKit Go.Shelf
set_option linter.unusedVariables false
set_option linter.unusedSimpArgs false

def may3B (l m e : List Int) : Bool := may2B l m && may2B m e
theorem may3B_yes {l m e : List Int} (h : may3B l m e = true) : l.length = m.length ∧ m.length = e.length ∧ mayB l = true ∧ mayB m = true ∧ mayB e = true := by
  simp [may3B, may2B] at h
  obtain ⟨⟨h1, h2, h3⟩, h4, h5, h6⟩ := h
  exact ⟨h1, h4, h2, h3, h6⟩
theorem may3B_eq (l m e : List Int) : may3B l m e = (decide (l.length ≤ 64) && (decide (l.length = m.length) && (decide (m.length = e.length) && (mayB l && (mayB m && mayB e))))) := by
  by_cases h : mayB l = true
  · have := (mayB_len h).2
    simp only [may3B, may2B, h, decide_eq_true this, Bool.true_and]
    cases decide (l.length = m.length) <;> cases mayB m <;> simp
  · have h' : mayB l = false := by simpa using h
    simp [may3B, may2B, h']

set_option maxRecDepth 100000 in
set_option maxHeartbeats 1000000 in
theorem may3_a (A A' A2 : Option Addr) (l m e : List Int) (cap cap' cap2 B B' B2 : Nat) (w : World) (hr : Rd w B A l) (hr' : Rd w B' A' m) (hr2 : Rd w B2 A2 e) (hm : l.length ≤ maxLen) (hm' : m.length ≤ maxLen) (hm2 : e.length ≤ maxLen) :
    Calls Try.prog 25 #[.slice A l.length cap, .slice A' m.length cap', .slice A2 e.length cap2] w fun e_ w' => e_ = .returned (.bool (may3B l m e)) ∧ w = w' := by
  have Hr := hide hr
  have Hr' := hide hr'
  have Hr2 := hide hr2
  have HE := hide (may3B_eq l m e)
  clear hr hr' hr2
  by_cases h64 : l.length ≤ 64
  · by_cases h1 : l.length = m.length
    · by_cases h2 : m.length = e.length
      · have t1 : ((l.length : Int) == (m.length : Int)) = true := by rw [beq_iff_eq]; omega
        have t2 : ((m.length : Int) == (e.length : Int)) = true := by rw [beq_iff_eq]; omega
        have H1 := hide h1
        have H2 := hide h2
        clear h1 h2
        cases hA : mayB l
        · have HA := hide hA
          clear hA
          go_enter Try.func25, Try.ntmps25
          go_wp2_with fail
          refine (may_a _ _ _ _ _ Hr.out hm).mono ?_
          rw [HA.out]
          rintro e_ w' ⟨rfl, rfl⟩
          go_wp2
          go_ret
          exact ⟨ret_bool (by rw [HE.out, HA.out]; simp), rfl⟩
        · cases hB : mayB m
          · have HA := hide hA
            have HB := hide hB
            clear hA hB
            go_enter Try.func25, Try.ntmps25
            go_wp2_with fail
            refine (may_a _ _ _ _ _ Hr.out hm).mono ?_
            rw [HA.out]
            rintro e_ w' ⟨rfl, rfl⟩
            go_wp2_with fail
            refine (may_a _ _ _ _ _ Hr'.out hm').mono ?_
            rw [HB.out]
            rintro e_ w' ⟨rfl, rfl⟩
            go_wp2
            go_ret
            exact ⟨ret_bool (by rw [HE.out, HB.out]; simp), rfl⟩
          · have HA := hide hA
            have HB := hide hB
            clear hA hB
            go_enter Try.func25, Try.ntmps25
            go_wp2_with fail
            refine (may_a _ _ _ _ _ Hr.out hm).mono ?_
            rw [HA.out]
            rintro e_ w' ⟨rfl, rfl⟩
            go_wp2_with fail
            refine (may_a _ _ _ _ _ Hr'.out hm').mono ?_
            rw [HB.out]
            rintro e_ w' ⟨rfl, rfl⟩
            go_wp2_with fail
            refine (may_a _ _ _ _ _ Hr2.out hm2).mono ?_
            rintro e_ w' ⟨rfl, rfl⟩
            go_wp2
            go_ret
            exact ⟨ret_bool (by rw [HE.out, HA.out, HB.out, decide_eq_true h64, decide_eq_true H1.out, decide_eq_true H2.out]; rfl), rfl⟩
      · have t1 : ((l.length : Int) == (m.length : Int)) = true := by rw [beq_iff_eq]; omega
        have t2 : ((m.length : Int) == (e.length : Int)) = false := by rw [beq_eq_false_iff_ne]; omega
        have H1 := hide h1
        have H2 := hide h2
        clear h1 h2
        go_enter Try.func25, Try.ntmps25
        go_wp2
        go_ret
        exact ⟨ret_bool (by rw [HE.out]; simp [H2.out]), rfl⟩
    · have t1 : ((l.length : Int) == (m.length : Int)) = false := by rw [beq_eq_false_iff_ne]; omega
      have H1 := hide h1
      clear h1
      go_enter Try.func25, Try.ntmps25
      go_wp2
      go_ret
      exact ⟨ret_bool (by rw [HE.out]; simp [H1.out]), rfl⟩
  · have h65 : 64 < l.length := by omega
    go_enter Try.func25, Try.ntmps25
    go_wp2
    go_ret
    exact ⟨ret_bool (by rw [HE.out]; simp [h64]), rfl⟩

/-! the order, in plain words -/
theorem wB_iff (l m : List Int) : wB l m = true ↔ ∀ j < l.length, l.getD j 0 ≤ m.getD j 0 := by
  constructor
  · intro h j hj
    by_cases h1 : m.getD j 0 < l.getD j 0
    · rw [wB_no j hj h1] at h; cases h
    · omega
  · exact wB_mk
theorem wB_refl (l : List Int) : wB l l = true := wB_mk fun _ _ => Int.le_refl _
theorem wB_trans {l m e : List Int} (hl : l.length = m.length) (h1 : wB l m = true) (h2 : wB m e = true) : wB l e = true := by
  rw [wB_iff] at *
  exact fun j hj => Int.le_trans (h1 j hj) (h2 j (by omega))
theorem wB_anti {l m : List Int} (hl : l.length = m.length) (h1 : wB l m = true) (h2 : wB m l = true) : l = m := by
  rw [wB_iff] at *
  exact of_decide_eq_true (sameB_mk hl fun j hj => by have := h1 j hj; have := h2 j (by omega); omega)
theorem isum_le {l m : List Int} (hl : l.length = m.length) (h : wB l m = true) (k : Nat) (hk : k ≤ l.length) : isum (l.take k) ≤ isum (m.take k) := by
  rw [wB_iff] at h
  induction k with
  | zero => simp
  | succ k ih =>
    rw [take_sum k (by omega), take_sum k (by omega)]
    have := ih (by omega)
    have := h k (by omega)
    omega
theorem isum_lt {l m : List Int} (hl : l.length = m.length) (h : wB l m = true) (j : Nat) (hj : j < l.length) (hlt : l.getD j 0 < m.getD j 0) (k : Nat) (hk : k ≤ l.length) (hjk : j < k) : isum (l.take k) < isum (m.take k) := by
  induction k with
  | zero => omega
  | succ k ih =>
    rw [take_sum k (by omega), take_sum k (by omega)]
    have h' := (wB_iff l m).1 h k (by omega)
    by_cases hjk' : j = k
    · subst hjk'
      have := isum_le hl h j (by omega)
      omega
    · have := ih (by omega) (by omega)
      omega
theorem sum_ahead {l m : List Int} (hl : l.length = m.length) (ha : mayB l = true) (hb : mayB m = true) (h1 : wB l m = true) (h2 : wB m l = false) : sumB l < sumB m := by
  have : ∃ j, j < l.length ∧ l.getD j 0 < m.getD j 0 := by
    rcases Classical.em (∃ j, j < l.length ∧ l.getD j 0 < m.getD j 0) with h | h
    · exact h
    · exfalso
      have : wB m l = true := by
        rw [wB_iff]
        intro j hj
        by_cases h3 : l.getD j 0 < m.getD j 0
        · exact absurd ⟨j, by omega, h3⟩ h
        · omega
      rw [this] at h2; cases h2
  obtain ⟨j, hj, hlt⟩ := this
  have h3 := isum_lt hl h1 j hj hlt l.length (Nat.le_refl _) hj
  rw [List.take_length, hl, List.take_length] at h3
  simp only [sumB, ha, hb, if_true]
  exact h3

/-- All that the statement on the order asks of two clocks, and of a third one. -/
theorem order_cases {l m e : List Int} (h : may3B l m e = true) :
    (lawOf l m = 0 ∧ lawOf m l = 0 ∧ sameB l m = true ∧ lawOf m e = lawOf l e) ∨
    (lawOf l m = 1 ∧ lawOf m l = 2 ∧ sameB l m = false ∧ sumB l < sumB m ∧ lawOf m e = 1 ∧ lawOf l e = 1) ∨
    (lawOf l m = 1 ∧ lawOf m l = 2 ∧ sameB l m = false ∧ sumB l < sumB m ∧ lawOf m e ≠ 1) ∨
    (lawOf l m = 2 ∧ lawOf m l = 1 ∧ sameB l m = false) ∨ (lawOf l m = 3 ∧ lawOf m l = 3 ∧ sameB l m = false) := by
  obtain ⟨h1, h2, ha, hb, hc⟩ := may3B_yes h
  have e1 : may2B l m = true := by simp [may2B, h1, ha, hb]
  have e2 : may2B m l = true := by simp [may2B, h1, ha, hb]
  have e3 : may2B m e = true := by simp [may2B, h2, hb, hc]
  have e4 : may2B l e = true := by simp [may2B, h1, h2, ha, hc]
  rw [lawOf_yes e1, lawOf_yes e2, lawOf_yes e3, lawOf_yes e4, ofU_w e1, ofU_w e2, ofU_w e3, ofU_w e4]
  have hs : wB l m = false → sameB l m = false := fun hw => by
    rw [Bool.eq_false_iff]
    intro hs
    have : l = m := of_decide_eq_true hs
    subst this
    rw [wB_refl] at hw; cases hw
  have hs' : wB m l = false → sameB l m = false := fun hw => by
    rw [Bool.eq_false_iff]
    intro hs
    have : l = m := of_decide_eq_true hs
    subst this
    rw [wB_refl] at hw; cases hw
  cases p : wB l m <;> cases q : wB m l
  · exact .inr (.inr (.inr (.inr ⟨rfl, rfl, hs p⟩)))
  · exact .inr (.inr (.inr (.inl ⟨rfl, rfl, hs p⟩)))
  · have hlt := sum_ahead h1 ha hb p q
    cases p2 : wB m e
    · exact .inr (.inr (.inl ⟨rfl, rfl, hs' q, hlt, by cases wB e m <;> simp⟩))
    · cases q2 : wB e m
      · refine .inr (.inl ⟨rfl, rfl, hs' q, hlt, rfl, ?_⟩)
        have p3 : wB l e = true := wB_trans h1 p p2
        have q3 : wB e l = false := by
          rw [Bool.eq_false_iff]
          intro q3
          rw [wB_trans (by omega) q3 p] at q2; cases q2
        simp [p3, q3]
      · exact .inr (.inr (.inl ⟨rfl, rfl, hs' q, hlt, by simp⟩))
  · have : l = m := wB_anti h1 p q
    subst this
    exact .inl ⟨rfl, rfl, decide_eq_true rfl, rfl⟩
end Go.Proofs.Ytjmidldmhmhbnaa
