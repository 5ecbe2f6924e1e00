/- The two Firsts and the two Is: what is the same, said plainly. No program's text. -/
import Derived.Test.YtflaikhkddjfjaaOrdQ
import Derived.Test.YtflaikhkddjfjaaOrdM
namespace Go.Proofs.Ytflaikhkddjfjaa
open Go Go.RowKit
set_option linter.unusedVariables false
set_option linter.unusedSimpArgs false
namespace Ord
/-- The first place that hits: what lies there, or -1. -/
def fndI (h : Nat → Bool) (v : Nat → Int) : Nat → Int
  | 0 => -1
  | k + 1 => if 0 ≤ fndI h v k then fndI h v k else if h k = true then v k else -1
theorem fndI_stay {h : Nat → Bool} {v : Nat → Int} {k : Nat} (h0 : 0 ≤ fndI h v k) : ∀ j, k ≤ j → fndI h v j = fndI h v k
  | 0, hj => by rw [Nat.le_zero.1 hj]
  | j + 1, hj => by
    by_cases e : k = j + 1
    · rw [e]
    · have ih := fndI_stay h0 j (by omega)
      rw [fndI, if_pos (by rw [ih]; exact h0), ih]
theorem fndI_ge {h : Nat → Bool} {v : Nat → Int} (hv : ∀ k, h k = true → 0 ≤ v k) : ∀ n, -1 ≤ fndI h v n
  | 0 => by rw [fndI]; omega
  | n + 1 => by
    rw [fndI]
    split
    · omega
    · split
      · have := hv n (by assumption); omega
      · omega
theorem fndI_some {h : Nat → Bool} {v : Nat → Int} (hv : ∀ k, h k = true → 0 ≤ v k) : ∀ n, 0 ≤ fndI h v n → ∃ t, t < n ∧ h t = true ∧ fndI h v n = v t ∧ ∀ s, s < t → h s = false
  | 0, h0 => by rw [fndI] at h0; omega
  | n + 1, h0 => by
    by_cases hn : 0 ≤ fndI h v n
    · obtain ⟨t, h1, h2, h3, h4⟩ := fndI_some hv n hn
      exact ⟨t, by omega, h2, by rw [fndI, if_pos hn]; exact h3, h4⟩
    · have hnone : ∀ s, s < n → h s = false := by
        intro s hs
        cases hhs : h s with
        | false => rfl
        | true =>
          exfalso
          have h5 : 0 ≤ fndI h v (s + 1) := by
            rw [fndI]
            split
            · assumption
            · exact hv s hhs
          rw [← fndI_stay h5 n (by omega)] at h5
          exact hn h5
      rw [fndI, if_neg hn] at h0 ⊢
      by_cases hh : h n = true
      · rw [if_pos hh] at h0 ⊢
        exact ⟨n, by omega, hh, rfl, hnone⟩
      · rw [if_neg hh] at h0
        omega
theorem fndI_none {h : Nat → Bool} {v : Nat → Int} (hv : ∀ k, h k = true → 0 ≤ v k) {n : Nat} (h0 : ¬ 0 ≤ fndI h v n) : ∀ s, s < n → h s = false := fun s hs => by
  cases hhs : h s with
  | false => rfl
  | true =>
    exfalso
    have h5 : 0 ≤ fndI h v (s + 1) := by
      rw [fndI]
      split
      · assumption
      · exact hv s hhs
    rw [← fndI_stay h5 n (by omega)] at h5
    exact h0 h5
/-- The document's ready. -/
noncomputable def rdyB (E : Nat → Ev) (len : Nat) (f : Nat → Bool) (i : Nat) : Bool := (List.range len).all (fun k => !ahB E i k || f k) && !f i
def memF (acc : List Nat) (m : Nat) : Bool := decide (m ∈ acc)
noncomputable def hitB (E : Nat → Ev) (len : Nat) (f : Nat → Bool) (x : Int) : Bool := decide (0 ≤ x ∧ x < (len : Int)) && rdyB E len f x.toNat
/-- The document's next one. -/
noncomputable def nxtR (E : Nat → Ev) (len : Nat) (f : Nat → Bool) (want : List Int) : Int :=
  if 0 ≤ fndI (fun k => hitB E len f (want.getD k 0)) (fun k => want.getD k 0) want.length then fndI (fun k => hitB E len f (want.getD k 0)) (fun k => want.getD k 0) want.length else fndI (rdyB E len f) (fun i => (i : Int)) len
theorem hit_ge {E : Nat → Ev} {len : Nat} {f : Nat → Bool} {want : List Int} : ∀ k, hitB E len f (want.getD k 0) = true → 0 ≤ want.getD k 0 := fun k h => by
  unfold hitB at h
  rw [Bool.and_eq_true, decide_eq_true_eq] at h
  exact h.1.1
theorem rdy_iff {E : Nat → Ev} {es : List Eo} {acc : List Nat} {wt : List Int} (H : Hist E es) (W : Wt es acc wt) {i : Nat} (hi : i < es.length) : rdyB E es.length (memF acc) i = true ↔ i ∈ readyL wt es.length := by
  rw [W.ready]
  unfold rdyB memF
  rw [Bool.and_eq_true, List.all_eq_true]
  constructor
  · rintro ⟨h1, h2⟩
    refine ⟨hi, by simpa using h2, fun k hk => ?_⟩
    have hk2 := H.lt i hi k hk
    have h3 := h1 k (List.mem_range.2 (by omega))
    rw [(ahB_iff).2 ((H.a i hi).ah.2 ⟨k, hk, .inl rfl⟩)] at h3
    simpa using h3
  · rintro ⟨_, h2, h3⟩
    refine ⟨fun k hk => ?_, by simpa using h2⟩
    cases ha : ahB E i k with
    | false => rfl
    | true =>
      obtain ⟨j, hj, hle⟩ := (H.a i hi).ah.1 (ahB_iff.1 ha)
      have hja := h3 j hj
      have hka : k ∈ acc := by
        rcases hle with rfl | h5
        · exact hja
        · exact closed_ah H W.lt W.closed (j + 1) j k (by omega) hja h5
      simp [hka]
/-- The best one has the least turn. -/
theorem bestL_min (tn : List Int) : ∀ (l : List Nat) (f : Nat), (∀ j, (j = f ∨ j ∈ l) → ∃ m : Nat, l.foldl (stepB tn) (f : Int) = (m : Int) ∧ tn.getD m 0 ≤ tn.getD j 0)
  | [], f, j, hj => ⟨f, rfl, by rcases hj with rfl | h; exact Int.le_refl _; cases h⟩
  | x :: l, f, j, hj => by
    rw [List.foldl_cons]
    have hs : stepB tn (f : Int) x = if tn.getD x 0 < tn.getD f 0 then (x : Int) else (f : Int) := by
      unfold stepB
      rw [decide_eq_false (show ¬ (f : Int) < 0 by omega), Bool.false_or, Int.toNat_natCast]
      by_cases h : tn.getD x 0 < tn.getD f 0
      · rw [if_pos h, decide_eq_true h]; rfl
      · rw [if_neg h, decide_eq_false h]; rfl
    rw [hs]
    by_cases h : tn.getD x 0 < tn.getD f 0
    · rw [if_pos h]
      rcases hj with rfl | hj
      · obtain ⟨m, h1, h2⟩ := bestL_min tn l x x (.inl rfl)
        exact ⟨m, h1, by omega⟩
      · rcases List.mem_cons.1 hj with rfl | hj
        · exact bestL_min tn l j j (.inl rfl)
        · exact bestL_min tn l x j (.inr hj)
    · rw [if_neg h]
      rcases hj with rfl | hj
      · exact bestL_min tn l j j (.inl rfl)
      · rcases List.mem_cons.1 hj with rfl | hj
        · obtain ⟨m, h1, h2⟩ := bestL_min tn l f f (.inl rfl)
          exact ⟨m, h1, by omega⟩
        · exact bestL_min tn l f j (.inr hj)
theorem bestL_least {tn : List Int} {l : List Nat} {m : Nat} (h : bestL tn l = (m : Int)) : ∀ j ∈ l, tn.getD m 0 ≤ tn.getD j 0 := fun j hj => by
  cases l with
  | nil => cases hj
  | cons x l =>
    have e : bestL tn (x :: l) = l.foldl (stepB tn) (x : Int) := by
      unfold bestL
      rw [List.foldl_cons]
      congr 1
    rw [e] at h
    obtain ⟨m', h1, h2⟩ := bestL_min tn l x j (by rcases List.mem_cons.1 hj with rfl | h; exact .inl rfl; exact .inr h)
    have : m' = m := by rw [h1] at h; omega
    rw [← this]
    exact h2
/-- What the turns say. -/
theorem tnF_spec {len : Nat} {want : List Int} : ∀ k, k ≤ want.length → ∀ i, i < len → (∀ t, t < k → want.getD t 0 = (i : Int) → (tnF len want k).getD i 0 ≤ t) ∧ ((tnF len want k).getD i 0 < want.length → ∃ t : Nat, t < k ∧ (tnF len want k).getD i 0 = t ∧ want.getD t 0 = (i : Int)) ∧ ((want.length : Int) ≤ (tnF len want k).getD i 0 → (tnF len want k).getD i 0 = want.length + i)
  | 0, _, i, hi => by
    rw [tnF, tn0_at hi]
    exact ⟨fun t ht => absurd ht (Nat.not_lt_zero t), fun h => by omega, fun _ => by omega⟩
  | k + 1, hk, i, hi => by
    obtain ⟨h1, h2, h3⟩ := tnF_spec (len := len) (want := want) k (by omega) i hi
    have hg : (tnF len want (k + 1)).getD i 0 = if want.getD k 0 = (i : Int) then min ((tnF len want k).getD i 0) (k : Int) else (tnF len want k).getD i 0 := by
      rw [tnF]
      unfold tnS
      by_cases e : want.getD k 0 = (i : Int)
      · rw [if_pos e, if_pos (by omega), e, Int.toNat_natCast, List.getD_eq_getElem?_getD, List.getElem?_set, if_pos rfl, if_pos (by rw [tnF_len]; exact hi)]
        rfl
      · rw [if_neg e]
        split
        · rw [List.getD_eq_getElem?_getD, List.getElem?_set, if_neg (by omega), ← List.getD_eq_getElem?_getD]
        · rfl
    rw [hg]
    by_cases e : want.getD k 0 = (i : Int)
    · rw [if_pos e]
      refine ⟨fun t ht hw => ?_, fun hl => ?_, fun hl => by omega⟩
      · by_cases et : t = k
        · subst et; omega
        · have := h1 t (by omega) hw; omega
      · by_cases hm : (tnF len want k).getD i 0 ≤ (k : Int)
        · rw [Int.min_eq_left hm] at hl ⊢
          obtain ⟨t, g1, g2, g3⟩ := h2 hl
          exact ⟨t, by omega, g2, g3⟩
        · rw [Int.min_eq_right (by omega)]
          exact ⟨k, by omega, rfl, e⟩
    · rw [if_neg e]
      refine ⟨fun t ht hw => ?_, fun hl => ?_, h3⟩
      · by_cases et : t = k
        · subst et; exact absurd hw e
        · exact h1 t (by omega) hw
      · obtain ⟨t, g1, g2, g3⟩ := h2 hl
        exact ⟨t, by omega, g2, g3⟩
/-- The document's next one is the program's. -/
theorem nxt_same {E : Nat → Ev} {es : List Eo} {acc : List Nat} {wt : List Int} (H : Hist E es) (W : Wt es acc wt) (want : List Int) (hne : readyL wt es.length ≠ []) : nxtR E es.length (memF acc) want = bestL (tnF es.length want want.length) (readyL wt es.length) := by
  obtain ⟨m, hm, hb⟩ := bestL_mem (tn := tnF es.length want want.length) hne
  have hleast := bestL_least hb
  have hml := (W.ready.1 hm).1
  have hmr := (rdy_iff H W hml).2 hm
  have hitm : ∀ t, want.getD t 0 = (m : Int) → hitB E es.length (memF acc) (want.getD t 0) = true := fun t ht => by
    unfold hitB
    rw [ht, Int.toNat_natCast, hmr, decide_eq_true (by omega)]
    rfl
  rw [hb]
  unfold nxtR
  obtain ⟨s1, s2, s3⟩ := tnF_spec (len := es.length) (want := want) want.length (Nat.le_refl _) m hml
  by_cases h0 : 0 ≤ fndI (fun k => hitB E es.length (memF acc) (want.getD k 0)) (fun k => want.getD k 0) want.length
  · rw [if_pos h0]
    obtain ⟨t, ht, h1, h2, h3⟩ := fndI_some (fun k hk => hit_ge k hk) _ h0
    have h1' : hitB E es.length (memF acc) (want.getD t 0) = true := h1
    have hx := h1'
    unfold hitB at hx
    rw [Bool.and_eq_true, decide_eq_true_eq] at hx
    obtain ⟨⟨x0, x1⟩, x2⟩ := hx
    obtain ⟨x, hxe⟩ : ∃ x : Nat, want.getD t 0 = (x : Int) := ⟨(want.getD t 0).toNat, by omega⟩
    rw [hxe, Int.toNat_natCast] at x2
    rw [hxe] at x1
    have hxl : x < es.length := by omega
    have hxr := (rdy_iff H W hxl).1 x2
    have l1 := hleast x hxr
    have l2 := (tnF_spec (len := es.length) (want := want) want.length (Nat.le_refl _) x hxl).1 t ht hxe
    obtain ⟨t', g1, g2, g3⟩ := s2 (by omega)
    have htt : t' = t := by
      by_cases e : t' < t
      · have h5 : hitB E es.length (memF acc) (want.getD t' 0) = false := h3 t' e
        rw [hitm t' g3] at h5
        cases h5
      · omega
    rw [h2, ← htt]
    exact g3
  · rw [if_neg h0]
    have hno := fndI_none (fun k hk => hit_ge k hk) h0
    have big : ∀ j ∈ readyL wt es.length, (tnF es.length want want.length).getD j 0 = want.length + j := fun j hj => by
      have hjl := (W.ready.1 hj).1
      obtain ⟨_, j2, j3⟩ := tnF_spec (len := es.length) (want := want) want.length (Nat.le_refl _) j hjl
      by_cases hlt : (tnF es.length want want.length).getD j 0 < want.length
      · obtain ⟨t, g1, g2, g3⟩ := j2 hlt
        have h5 : hitB E es.length (memF acc) (want.getD t 0) = false := hno t g1
        unfold hitB at h5
        rw [g3, Int.toNat_natCast, (rdy_iff H W hjl).2 hj, decide_eq_true (by omega)] at h5
        cases h5
      · exact j3 (by omega)
    have hge : 0 ≤ fndI (rdyB E es.length (memF acc)) (fun i => (i : Int)) es.length := by
      by_cases h : 0 ≤ fndI (rdyB E es.length (memF acc)) (fun i => (i : Int)) es.length
      · exact h
      · have := fndI_none (fun k _ => Int.natCast_nonneg k) h m hml
        rw [hmr] at this
        cases this
    obtain ⟨t, ht, h1, h2, h3⟩ := fndI_some (fun k _ => Int.natCast_nonneg k) _ hge
    rw [h2]
    have htr := (rdy_iff H W ht).1 h1
    have l1 := hleast t htr
    rw [big t htr, big m hm] at l1
    have : ¬ m < t := fun e => by
      have := h3 m e
      rw [hmr] at this
      cases this
    show (t : Int) = m
    omega
end Ord
end Go.Proofs.Ytflaikhkddjfjaa
