/- A text's tail, and the longest sign by its length. No program's text. -/
import Derived.Test.YtekdchhengcfoaaDoorRows
import Derived.Test.YtekdchhengcfoaaDoorScanO
namespace Go.Proofs.YtekdchhengcfoaaDoor
open Go.RowKit
set_option linter.unusedVariables false
set_option linter.unusedSimpArgs false
theorem run_tail (p : Int → Bool) (s : ByteArray) (pos : Nat) : ∀ (k j : Nat), s.size - pos - j = k → pos + j ≤ s.size → runFrom p (s.extract pos s.size) j + pos = runFrom p s (pos + j)
  | 0, j, h, h' => by
    rw [runFrom_end (by rw [tail_size]; omega), runFrom_end (by omega)]
    omega
  | k + 1, j, h, h' => by
    have h1 : j < (s.extract pos s.size).size := by rw [tail_size]; omega
    have h2 : pos + j < s.size := by omega
    have e := tail_get s pos j h1
    by_cases hc : (s[pos + j]).toNat < 128 ∧ p (s[pos + j]).toNat = true
    · rw [runFrom_go h2 hc, runFrom_go h1 (by rw [e]; exact hc)]
      exact run_tail p s pos k (j + 1) (by omega) (by omega)
    · rw [runFrom_stop h2 hc, runFrom_stop h1 (by rw [e]; exact hc)]
      omega
theorem signL_const (t : ByteArray) (c : Nat) : ∀ L : List ByteArray, (∀ p ∈ L, p.size = c) → ((∃ p ∈ L, hpB t p = true) → signFromL t L = c) ∧ ((¬ ∃ p ∈ L, hpB t p = true) → signFromL t L = 0)
  | [], _ => ⟨(by rintro ⟨p, hp, _⟩; cases hp), fun _ => rfl⟩
  | q :: L, h => by
    have ih := signL_const t c L (fun p hp => h p (by simp [hp]))
    by_cases hq : hpB t q = true
    · refine ⟨fun _ => ?_, fun hn => absurd ⟨q, by simp, hq⟩ hn⟩
      rw [signFromL, if_pos hq]
      exact h q (by simp)
    · rw [signFromL, if_neg hq]
      refine ⟨?_, fun hn => ih.2 (fun ⟨p, hp, hh⟩ => hn ⟨p, by simp [hp], hh⟩)⟩
      rintro ⟨p, hp, hh⟩
      rcases List.mem_cons.1 hp with rfl | hp
      · exact absurd hh hq
      · exact ih.1 ⟨p, hp, hh⟩
theorem signL_append (t : ByteArray) : ∀ A B : List ByteArray, ((∃ p ∈ A, hpB t p = true) → signFromL t (A ++ B) = signFromL t A) ∧ ((¬ ∃ p ∈ A, hpB t p = true) → signFromL t (A ++ B) = signFromL t B)
  | [], B => ⟨(by rintro ⟨p, hp, _⟩; cases hp), fun _ => rfl⟩
  | q :: A, B => by
    have ih := signL_append t A B
    by_cases hq : hpB t q = true
    · refine ⟨fun _ => ?_, fun hn => absurd ⟨q, by simp, hq⟩ hn⟩
      rw [List.cons_append, signFromL, if_pos hq, signFromL, if_pos hq]
    · rw [List.cons_append, signFromL, if_neg hq]
      refine ⟨?_, fun hn => ih.2 (fun ⟨p, hp, hh⟩ => hn ⟨p, by simp [hp], hh⟩)⟩
      rintro ⟨p, hp, hh⟩
      rcases List.mem_cons.1 hp with rfl | hp
      · exact absurd hh hq
      · rw [ih.1 ⟨p, hp, hh⟩, signFromL, if_neg hq]
def signs2 : List ByteArray := signsB.take 6
def signs1 : List ByteArray := signsB.drop 6
theorem signs2_size : ∀ p ∈ signs2, p.size = 2 := by decide +kernel
theorem signs1_size : ∀ p ∈ signs1, p.size = 1 := by decide +kernel
theorem signs_split : signsB = signs2 ++ signs1 := (List.take_append_drop 6 signsB).symm
theorem mem_signs {x : ByteArray} : x ∈ signsB ↔ signB x.toList = true := by
  unfold signB signsB
  rw [decide_eq_true_eq]
  constructor
  · intro h
    obtain ⟨k, hk, rfl⟩ := List.mem_map.1 h
    rw [signAtK_toList]
    have hk' : k < signsL.length := by have : signsL.length = 23 := rfl; simp at hk; omega
    rw [List.getD_eq_getElem?_getD, List.getElem?_eq_getElem hk']
    exact List.getElem_mem hk'
  · intro h
    obtain ⟨k, hk, he⟩ := List.getElem_of_mem h
    refine List.mem_map.2 ⟨k, by have : signsL.length = 23 := rfl; simp; omega, ?_⟩
    apply toList_inj
    rw [signAtK_toList, List.getD_eq_getElem?_getD, List.getElem?_eq_getElem hk]
    exact he
theorem hp_iff {t p : ByteArray} : hpB t p = true ↔ p.size ≤ t.size ∧ t.extract 0 p.size = p := by
  unfold hpB
  rw [Bool.and_eq_true, decide_eq_true_eq, beq_iff_eq]
  exact ⟨fun ⟨a, b⟩ => ⟨a, toList_inj b⟩, fun ⟨a, b⟩ => ⟨a, by rw [b]⟩⟩
theorem some2 {t : ByteArray} : (∃ p ∈ signs2, hpB t p = true) ↔ 2 ≤ t.size ∧ signB (t.extract 0 2).toList = true := by
  constructor
  · rintro ⟨p, hp, h⟩
    obtain ⟨h1, h2⟩ := hp_iff.1 h
    rw [signs2_size p hp] at h1 h2
    exact ⟨h1, by rw [h2]; exact mem_signs.1 (by rw [signs_split]; exact List.mem_append_left _ hp)⟩
  · rintro ⟨h1, h2⟩
    have h3 := mem_signs.2 h2
    have hz : (t.extract 0 2).size = 2 := ext_size t 2 h1
    rw [signs_split] at h3
    rcases List.mem_append.1 h3 with h3 | h3
    · exact ⟨_, h3, hp_iff.2 ⟨by omega, by rw [hz]⟩⟩
    · have := signs1_size _ h3
      omega
theorem some1 {t : ByteArray} (h0 : 0 < t.size) : (∃ p ∈ signs1, hpB t p = true) ↔ signB (t.extract 0 1).toList = true := by
  constructor
  · rintro ⟨p, hp, h⟩
    obtain ⟨h1, h2⟩ := hp_iff.1 h
    rw [signs1_size p hp] at h1 h2
    rw [h2]
    exact mem_signs.1 (by rw [signs_split]; exact List.mem_append_right _ hp)
  · intro h2
    have h3 := mem_signs.2 h2
    have hz : (t.extract 0 1).size = 1 := ext_size t 1 h0
    rw [signs_split] at h3
    rcases List.mem_append.1 h3 with h3 | h3
    · have := signs2_size _ h3
      omega
    · exact ⟨_, h3, hp_iff.2 ⟨by omega, by rw [hz]⟩⟩
theorem signFrom_len {t : ByteArray} (h0 : 0 < t.size) : signFrom t 0 = if 2 ≤ t.size ∧ signB (t.extract 0 2).toList = true then 2 else if signB (t.extract 0 1).toList = true then 1 else 0 := by
  have e : signFrom t 0 = signFromL t (signs2 ++ signs1) := by unfold signFrom; rw [List.drop_zero, signs_split]
  rw [e]
  by_cases h2 : 2 ≤ t.size ∧ signB (t.extract 0 2).toList = true
  · rw [if_pos h2, (signL_append t _ _).1 (some2.2 h2)]
    exact (signL_const t 2 _ signs2_size).1 (some2.2 h2)
  · rw [if_neg h2, (signL_append t _ _).2 (fun h => h2 (some2.1 h))]
    by_cases h1 : signB (t.extract 0 1).toList = true
    · rw [if_pos h1]
      exact (signL_const t 1 _ signs1_size).1 ((some1 h0).2 h1)
    · rw [if_neg h1]
      exact (signL_const t 1 _ signs1_size).2 (fun h => h1 ((some1 h0).1 h))
end Go.Proofs.YtekdchhengcfoaaDoor
