/- What two clocks come to, merged, in plain words; 'above'. -/
import Derived.Test.YtjmidldmhmhbnaaClockK
namespace Go.Proofs.Ytjmidldmhmhbnaa
open Go.RowKit Go.Shelf
set_option linter.unusedVariables false
set_option linter.unusedSimpArgs false

def aboveB (l m : List Int) : Bool := decide (lawOf l m = 0 ∨ lawOf l m = 1)
theorem aboveB_w {l m : List Int} (h : may2B l m = true) : aboveB l m = wB l m := by
  unfold aboveB
  rw [lawOf_yes h, ofU_w h]
  cases wB l m <;> cases wB m l <;> simp

set_option maxRecDepth 100000 in
set_option maxHeartbeats 1000000 in
theorem above_a (A A' : Option Addr) (l m : List Int) (cap cap' : Nat) (w : World) (hr : Rd w w.heap.size A l) (hr' : Rd w w.heap.size A' m) (hm : l.length ≤ maxLen) (hm' : m.length ≤ maxLen) :
    Calls Try.prog 27 #[.slice A l.length cap, .slice A' m.length cap'] w fun e w' => e = .returned (.bool (aboveB l m)) ∧ Below w.heap.size w w' := by
  have Hr := hide hr
  have Hr' := hide hr'
  clear hr hr'
  by_cases h0 : lawOf l m = 0
  · have hB : aboveB l m = true := by simp [aboveB, h0]
    rw [hB]
    have H0 := hide h0
    clear h0 hB
    go_enter Try.func27, Try.ntmps27
    go_wp2_with fail
    refine (lawOf_a _ _ _ _ _ _ _ Hr.out Hr'.out hm hm').mono ?_
    rw [H0.out]
    rintro e w' ⟨rfl, hb⟩
    go_wp2
    go_ret
    exact ⟨rfl, hb⟩
  · by_cases h1 : lawOf l m = 1
    · have hB : aboveB l m = true := by simp [aboveB, h1]
      rw [hB]
      have H1 := hide h1
      clear h0 h1 hB
      go_enter Try.func27, Try.ntmps27
      go_wp2_with fail
      refine (lawOf_a _ _ _ _ _ _ _ Hr.out Hr'.out hm hm').mono ?_
      rw [H1.out]
      rintro e W1 ⟨rfl, hb⟩
      have R1 := hide (rd_on Hr.out hb)
      have S1 := hide (rd_on Hr'.out hb)
      have HB := hide hb
      clear hb
      go_wp2_with fail
      refine (lawOf_a _ _ _ _ _ _ _ R1.out S1.out hm hm').mono ?_
      rw [H1.out]
      rintro e w' ⟨rfl, hb⟩
      go_wp2
      go_ret
      exact ⟨rfl, HB.out.trans (hb.mono HB.out.size)⟩
    · have hB : aboveB l m = false := by simp [aboveB, h0, h1]
      rw [hB]
      have t0 : ((lawOf l m : Int) == 0) = false := by rw [beq_eq_false_iff_ne]; omega
      have t1 : ((lawOf l m : Int) == 1) = false := by rw [beq_eq_false_iff_ne]; omega
      clear h0 h1 hB
      go_enter Try.func27, Try.ntmps27
      go_wp2_with fail
      refine (lawOf_a _ _ _ _ _ _ _ Hr.out Hr'.out hm hm').mono ?_
      rintro e W1 ⟨rfl, hb⟩
      have R1 := hide (rd_on Hr.out hb)
      have S1 := hide (rd_on Hr'.out hb)
      have HB := hide hb
      clear hb
      go_wp2_with fail
      refine (lawOf_a _ _ _ _ _ _ _ R1.out S1.out hm hm').mono ?_
      rintro e w' ⟨rfl, hb⟩
      go_wp2
      go_ret
      exact ⟨rfl, HB.out.trans (hb.mono HB.out.size)⟩

theorem upto_at {α : Type} (f : Nat → α) {k j : Nat} (h : j < k) (d : α) : (upto f k).getD j d = f j := by
  simp [upto, List.getD_eq_getElem?_getD, h]
theorem merge_yes' {l m : List Int} (h : may2B l m = true) : mergeL l m = mx (upto (pr l m) l.length) ∧ mergeE l m = 0 := by simp [mergeL, mergeE, h]
theorem merge_at {l m : List Int} (h : may2B l m = true) (j : Nat) (hj : j < l.length) : (mergeL l m).getD j 0 = max (l.getD j 0) (m.getD j 0) := by
  rw [(merge_yes' h).1]
  simp [mx, upto, pr, List.getD_eq_getElem?_getD, hj]
theorem merge_len {l m : List Int} (h : may2B l m = true) : (mergeL l m).length = l.length := by
  rw [(merge_yes' h).1, mx_length, upto_length]
theorem merge_may {l m : List Int} (h : may2B l m = true) : mayB (mergeL l m) = true := by
  obtain ⟨h1, ha, hb⟩ := may2B_yes h
  have hl := mayB_len ha
  refine mayB_mk (by rw [merge_len h]; exact hl.1) (by rw [merge_len h]; exact hl.2) fun j hj => ?_
  rw [merge_len h] at hj
  rw [merge_at h j hj]
  have := mayB_at ha j hj
  have := mayB_at hb j (by omega)
  unfold okB
  rw [decide_eq_true_eq]
  omega
theorem merge_may2 {l m : List Int} (h : may2B l m = true) {e : List Int} (he : mayB e = true) (hl : l.length = e.length) : may2B (mergeL l m) e = true ∧ may2B e (mergeL l m) = true := by
  have h1 := merge_may h
  have h2 := merge_len h
  simp [may2B, h1, h2, he, hl]
theorem merge_comm {l m : List Int} (h : may2B l m = true) : mergeL m l = mergeL l m := by
  obtain ⟨h1, ha, hb⟩ := may2B_yes h
  have h' : may2B m l = true := by simp [may2B, h1, ha, hb]
  refine of_decide_eq_true (sameB_mk (by rw [merge_len h, merge_len h']; omega) fun j hj => ?_)
  rw [merge_len h'] at hj
  rw [merge_at h j (by omega), merge_at h' j hj]
  omega
theorem merge_assoc {l m e : List Int} (h : may3B l m e = true) : mergeL (mergeL l m) e = mergeL l (mergeL m e) := by
  obtain ⟨h1, h2, ha, hb, hc⟩ := may3B_yes h
  have e1 : may2B l m = true := by simp [may2B, h1, ha, hb]
  have e3 : may2B m e = true := by simp [may2B, h2, hb, hc]
  have e5 := (merge_may2 e1 hc (by omega)).1
  have e6 := (merge_may2 e3 ha (by omega)).2
  refine of_decide_eq_true (sameB_mk (by rw [merge_len e5, merge_len e6, merge_len e1]) fun j hj => ?_)
  rw [merge_len e5, merge_len e1] at hj
  rw [merge_at e5 j (by rw [merge_len e1]; exact hj), merge_at e6 j hj, merge_at e1 j hj, merge_at e3 j (by omega)]
  omega
theorem merge_above {l m : List Int} (h : may2B l m = true) : aboveB l (mergeL l m) = true ∧ aboveB m (mergeL l m) = true := by
  obtain ⟨h1, ha, hb⟩ := may2B_yes h
  rw [aboveB_w (merge_may2 h ha rfl).2, aboveB_w (merge_may2 h hb h1).2, wB_iff, wB_iff]
  refine ⟨fun j hj => ?_, fun j hj => ?_⟩
  · rw [merge_at h j hj]; omega
  · rw [merge_at h j (by omega)]; omega
theorem merge_least {l m e : List Int} (h : may3B l m e = true) (hp : aboveB l e = true) (hq : aboveB m e = true) : aboveB (mergeL l m) e = true := by
  obtain ⟨h1, h2, ha, hb, hc⟩ := may3B_yes h
  have e1 : may2B l m = true := by simp [may2B, h1, ha, hb]
  have e3 : may2B m e = true := by simp [may2B, h2, hb, hc]
  have e4 : may2B l e = true := by simp [may2B, h1, h2, ha, hc]
  rw [aboveB_w e4, wB_iff] at hp
  rw [aboveB_w e3, wB_iff] at hq
  rw [aboveB_w (merge_may2 e1 hc (by omega)).1, wB_iff]
  intro j hj
  rw [merge_len e1] at hj
  rw [merge_at e1 j hj]
  have := hp j hj
  have := hq j (by omega)
  omega
end Go.Proofs.Ytjmidldmhmhbnaa
