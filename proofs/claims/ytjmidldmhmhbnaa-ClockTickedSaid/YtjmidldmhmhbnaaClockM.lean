/- Ticks of clocks, in plain words. -/
import Derived.Test.YtjmidldmhmhbnaaClockK
namespace Go.Proofs.Ytjmidldmhmhbnaa
open Go.RowKit Go.Shelf
set_option linter.unusedVariables false
set_option linter.unusedSimpArgs false

theorem getD_set (l : List Int) (k j : Nat) (x : Int) (hk : k < l.length) : (l.set k x).getD j 0 = if j = k then x else l.getD j 0 := by
  rw [List.getD_eq_getElem?_getD, List.getD_eq_getElem?_getD, List.getElem?_set]
  by_cases h : k = j
  · subst h; simp [hk]
  · simp [h, show ¬ j = k from fun e => h e.symm]
theorem ticks {l : List Int} (k : Nat) (ha : mayB l = true) (hk : k < l.length) (hs : l.getD k 0 < 1099511627776) :
    tickE l k = 0 ∧ (tickL l k).length = l.length ∧ (∀ j, (tickL l k).getD j 0 = if j = k then l.getD k 0 + 1 else l.getD j 0) ∧ mayB (tickL l k) = true := by
  have hok : tickOk l k = true := tickOk_yes ha ⟨by omega, by omega, by rw [Int.toNat_natCast]; exact hs⟩
  obtain ⟨hL, hE⟩ := tick_yes hok
  rw [Int.toNat_natCast] at hL
  have hg : ∀ j, (tickL l k).getD j 0 = if j = k then l.getD k 0 + 1 else l.getD j 0 := fun j => by rw [hL, getD_set _ _ _ _ hk]
  have hlen : (tickL l k).length = l.length := by rw [hL, List.length_set]
  have hl := mayB_len ha
  refine ⟨hE, hlen, hg, mayB_mk (by omega) (by omega) fun j hj => ?_⟩
  rw [hg j]
  have h1 := mayB_at ha k hk
  have h2 := mayB_at ha j (by omega)
  unfold okB
  rw [decide_eq_true_eq]
  split <;> omega
theorem tick_may2 {l : List Int} (k : Nat) (ha : mayB l = true) (hk : k < l.length) (hs : l.getD k 0 < 1099511627776) : may2B l (tickL l k) = true ∧ may2B (tickL l k) l = true := by
  obtain ⟨_, h1, _, h2⟩ := ticks k ha hk hs
  simp [may2B, h1, h2, ha]
theorem tick_ahead {l : List Int} (k : Nat) (ha : mayB l = true) (hk : k < l.length) (hs : l.getD k 0 < 1099511627776) : lawOf l (tickL l k) = 1 := by
  obtain ⟨hE, hlen, hg, hm⟩ := ticks k ha hk hs
  have h2 := (tick_may2 k ha hk hs).1
  rw [lawOf_yes h2, ofU_w h2]
  have p : wB l (tickL l k) = true := wB_mk fun j hj => by
    rw [hg j]
    split
    · rename_i h; subst h; omega
    · exact Int.le_refl _
  have q : wB (tickL l k) l = false := wB_no k (by omega) (by rw [hg k, if_pos rfl]; omega)
  rw [p, q]; rfl
theorem isum_ticked (l : List Int) (k : Nat) (hk : k < l.length) (T : List Int) (hT : T.length = l.length) (hg : ∀ j, T.getD j 0 = if j = k then l.getD k 0 + 1 else l.getD j 0) (n : Nat) (hn : n ≤ l.length) :
    isum (T.take n) = isum (l.take n) + if k < n then 1 else 0 := by
  induction n with
  | zero => simp [isum]
  | succ n ih =>
    rw [take_sum n (by omega), take_sum n (by omega), ih (by omega), hg n]
    by_cases h : n = k
    · subst h; simp; omega
    · by_cases h2 : k < n
      · have : k < n + 1 := by omega
        simp [h, h2, this]; omega
      · have : ¬ k < n + 1 := by omega
        simp [h, h2, this]
theorem tick_sum {l : List Int} (k : Nat) (ha : mayB l = true) (hk : k < l.length) (hs : l.getD k 0 < 1099511627776) : sumB (tickL l k) = sumB l + 1 := by
  obtain ⟨hE, hlen, hg, hm⟩ := ticks k ha hk hs
  have h := isum_ticked l k hk _ hlen hg l.length (Nat.le_refl _)
  rw [List.take_length, ← hlen, List.take_length, if_pos (by omega)] at h
  simp only [sumB, ha, hm, if_true]
  exact h
theorem tick_late {l : List Int} (k : Nat) (ha : mayB l = true) (hk : k < l.length) (hs : l.getD k 0 < 1099511627776) : lateB l (tickL l k) k = true ∧ lateE l (tickL l k) k = 0 := by
  obtain ⟨hE, hlen, hg, hm⟩ := ticks k ha hk hs
  obtain ⟨h1, h2⟩ := late_yes (tick_may2 k ha hk hs).1 (r := k) ⟨by omega, by omega⟩
  rw [h1, h2, Int.toNat_natCast, hg k, if_pos rfl]
  exact ⟨decide_eq_true (by omega), rfl⟩
theorem tick_twice {l : List Int} (a b : Nat) (ha : mayB l = true) (hka : a < l.length) (hkb : b < l.length) (hs : ∀ j < l.length, l.getD j 0 ≤ 549755813888) :
    tickE (tickL l a) b = 0 ∧ tickE (tickL l b) a = 0 ∧ tickL (tickL l b) a = tickL (tickL l a) b ∧ lawOf (tickL l a) (tickL (tickL l a) b) = 1 ∧
      lateB (tickL (tickL l a) b) (tickL l a) a = false ∧ lateE (tickL (tickL l a) b) (tickL l a) a = 0 ∧ (tickL (tickL l a) b).length = l.length ∧ (tickL (tickL l b) a).length = l.length := by
  have sa := hs a hka
  have sb := hs b hkb
  obtain ⟨_, la, ga, ma⟩ := ticks a ha hka (by omega)
  obtain ⟨_, lb, gb, mb⟩ := ticks b ha hkb (by omega)
  have hab : (tickL l a).getD b 0 < 1099511627776 := by rw [ga b]; split <;> omega
  have hba : (tickL l b).getD a 0 < 1099511627776 := by rw [gb a]; split <;> omega
  obtain ⟨e1, l1, g1, m1⟩ := ticks b ma (by omega) hab
  obtain ⟨e2, l2, g2, m2⟩ := ticks a mb (by omega) hba
  have hm2 := (tick_may2 b ma (by omega) hab).2
  obtain ⟨n1, n2⟩ := late_yes hm2 (r := a) ⟨by omega, by omega⟩
  refine ⟨e1, e2, ?_, tick_ahead b ma (by omega) hab, ?_, n2, by omega, by omega⟩
  · refine of_decide_eq_true (sameB_mk (by omega) fun j hj => ?_)
    rw [g1 j, g2 j, ga b, gb a, ga j, gb j]
    by_cases h1 : j = a <;> by_cases h2 : j = b <;> by_cases h3 : a = b <;> simp_all <;> omega
  · rw [n1, Int.toNat_natCast, g1 a]
    refine decide_eq_false ?_
    by_cases h : a = b
    · subst h; simp; omega
    · simp [h]
end Go.Proofs.Ytjmidldmhmhbnaa
