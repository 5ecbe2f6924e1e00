/- What a word's text alone tells of its kind. No program's text. -/
import Derived.Test.YtekdchhengcfoaaDoorRows
import Derived.Test.YtekdchhengcfoaaDoorScanK
namespace Go.Proofs.YtekdchhengcfoaaDoor
open Go.RowKit
set_option linter.unusedVariables false
set_option linter.unusedSimpArgs false
def hdLet : List UInt8 → Bool
  | b :: _ => isLet b.toNat
  | [] => false
def hdSign : List UInt8 → Bool
  | b :: _ => !isLet b.toNat && !isDig b.toNat && !(b.toNat == 10 || b.toNat == 32 || b.toNat == 9 || b.toNat == 13 || b.toNat == 35)
  | [] => false
theorem words_head : ∀ w ∈ wordsL, hdLet w = true ∧ w.all (fun b => isLet b.toNat) = true := by decide +kernel
theorem signs_head : ∀ w ∈ signsL, hdSign w = true := by decide +kernel
theorem toList_cons (x : ByteArray) (h : 0 < x.size) : x.toList = x[0] :: x.data.toList.tail := by
  rw [ByteArray.toList_eq]
  have hl : 0 < x.data.toList.length := by simpa using h
  cases hx : x.data.toList with
  | nil => rw [hx] at hl; simp at hl
  | cons a l =>
    have e : x[0] = a := by
      have e1 : x[0] = x.data.toList[0]'hl := rfl
      rw [e1]
      simp [hx]
    simp [e]
theorem toList_nil (x : ByteArray) (h : ¬ 0 < x.size) : x.toList = [] := by
  rw [ByteArray.toList_eq]
  apply List.eq_nil_of_length_eq_zero
  have e : x.data.toList.length = x.size := rfl
  omega
theorem word_hd {x : ByteArray} (h : wordB x.toList = true) : ∃ h : 0 < x.size, isLet (x[0]).toNat = true := by
  unfold wordB at h
  have h1 := (words_head _ (of_decide_eq_true h)).1
  by_cases h0 : 0 < x.size
  · rw [toList_cons x h0] at h1; exact ⟨h0, h1⟩
  · rw [toList_nil x h0] at h1; cases h1
theorem sign_hd {x : ByteArray} (h : signB x.toList = true) : ∃ h : 0 < x.size, isLet (x[0]).toNat = false ∧ isDig (x[0]).toNat = false ∧ ¬ (x[0]).toNat = 10 ∧ ¬ (x[0]).toNat = 32 ∧ ¬ (x[0]).toNat = 9 ∧ ¬ (x[0]).toNat = 13 ∧ ¬ (x[0]).toNat = 35 := by
  unfold signB at h
  have h1 := signs_head _ (of_decide_eq_true h)
  by_cases h0 : 0 < x.size
  · rw [toList_cons x h0] at h1
    simp only [hdSign, Bool.and_eq_true, Bool.not_eq_true', Bool.or_eq_false_iff, beq_eq_false_iff_ne, ne_eq] at h1
    obtain ⟨⟨a, b⟩, ⟨⟨⟨c, d⟩, e⟩, f⟩, g⟩ := h1
    exact ⟨h0, a, b, c, d, e, f, g⟩
  · rw [toList_nil x h0] at h1; cases h1
theorem name_hd {x : ByteArray} (h : nameB x = true) : ∃ h : 0 < x.size, x.size ≤ 12 ∧ isLet (x[0]).toNat = true ∧ runFrom isLod x 0 = x.size ∧ wordB x.toList = false := by
  unfold nameB at h
  split at h
  · rename_i h0
    simp only [Bool.and_eq_true, decide_eq_true_eq, Bool.not_eq_true'] at h
    exact ⟨h0, h.1.1.1, h.1.1.2, h.1.2, h.2⟩
  · cases h
theorem run_whole (p : Int → Bool) (x : ByteArray) (ha : ∀ j (h : j < x.size), (x[j]).toNat < 128 ∧ p (x[j]).toNat = true) : ∀ (k pos : Nat), x.size - pos = k → pos ≤ x.size → runFrom p x pos = x.size
  | 0, pos, h, h' => by rw [runFrom_end (by omega)]; omega
  | k + 1, pos, h, h' => by rw [runFrom_go (by omega) (ha pos (by omega))]; exact run_whole p x ha k (pos + 1) (by omega) (by omega)
/-- What holds of a word. -/
def TokOk (k : Int) (x : ByteArray) (v : Int) : Prop := nameB x = (k == 1) ∧ wordB x.toList = (k == 3) ∧ signB x.toList = (k == 4) ∧ 1 ≤ k ∧ k ≤ 4 ∧ (k = 2 ∨ v = 0) ∧ 0 ≤ v
theorem nameB_false {x : ByteArray} (h : ¬ ∃ h : 0 < x.size, isLet (x[0]).toNat = true) : nameB x = false := by
  rw [← Bool.not_eq_true]
  intro h1
  obtain ⟨a, _, b, _⟩ := name_hd h1
  exact h ⟨a, b⟩
theorem wordB_false {x : ByteArray} (h : ¬ ∃ h : 0 < x.size, isLet (x[0]).toNat = true) : wordB x.toList = false := by
  rw [← Bool.not_eq_true]
  exact fun h1 => h (word_hd h1)
theorem wordOf_ok {t : ByteArray} {k v : Int} {n : Nat} (h : wordOf t = some (k, n, v)) : TokOk k (t.extract 0 n) v := by
  obtain ⟨n0, n1, _⟩ := wordOf_ascii h
  have hsz := ext_size t n n1
  have hx0 : 0 < (t.extract 0 n).size := by omega
  have hx1 : (t.extract 0 n)[0] = t[0] := ext_get t n n1 0 hx0
  unfold wordOf at h
  split at h
  · rename_i h0
    split at h
    · rename_i h1
      have hsign : n = runFrom isLod t 0 → signB (t.extract 0 n).toList = false := fun _ => by
        rw [← Bool.not_eq_true]
        intro h2
        obtain ⟨_, h3, _⟩ := sign_hd h2
        rw [hx1, h1] at h3
        cases h3
      split at h
      · rename_i hw
        simp only [Option.some.injEq, Prod.mk.injEq] at h
        obtain ⟨rfl, rfl, rfl⟩ := h
        refine ⟨?_, hw, hsign rfl, by omega, by omega, .inr rfl, by omega⟩
        unfold nameB
        rw [dif_pos hx0, hw]
        simp
      · rename_i hw
        split at h
        · rename_i hl
          simp only [Option.some.injEq, Prod.mk.injEq] at h
          obtain ⟨rfl, rfl, rfl⟩ := h
          have hw' : wordB (t.extract 0 (runFrom isLod t 0)).toList = false := by simpa using hw
          refine ⟨?_, hw', hsign rfl, by omega, by omega, .inr rfl, by omega⟩
          have hr : runFrom isLod (t.extract 0 (runFrom isLod t 0)) 0 = (t.extract 0 (runFrom isLod t 0)).size := run_whole isLod _ (fun j hj => by
            rw [ext_get t _ n1 j hj]
            obtain ⟨_, h3⟩ := runFrom_all isLod t _ 0 rfl j (Nat.zero_le _) (by rw [hsz] at hj; exact hj)
            exact h3) _ 0 rfl (Nat.zero_le _)
          unfold nameB
          rw [dif_pos hx0, hx1, h1, hw', hr, hsz]
          simp [hl]
        · cases h
    · rename_i h1
      have h1' : isLet (t[0]).toNat = false := by simpa using h1
      have hn : nameB (t.extract 0 n) = false := nameB_false (by rintro ⟨_, h2⟩; rw [hx1, h1'] at h2; cases h2)
      have hw : wordB (t.extract 0 n).toList = false := wordB_false (by rintro ⟨_, h2⟩; rw [hx1, h1'] at h2; cases h2)
      split at h
      · rename_i h2
        have hs : signB (t.extract 0 n).toList = false := by
          rw [← Bool.not_eq_true]
          intro h3
          obtain ⟨_, _, h4, _⟩ := sign_hd h3
          rw [hx1, h2] at h4
          cases h4
        split at h
        · cases h
        · simp only [Option.some.injEq, Prod.mk.injEq] at h
          obtain ⟨rfl, rfl, rfl⟩ := h
          refine ⟨hn, hw, hs, by omega, by omega, .inl rfl, ?_⟩
          refine (numOf_bd _ fun b hb => ?_).1
          obtain ⟨j, hj, rfl⟩ := List.getElem_of_mem hb
          have hj' : j < (t.extract 0 (runFrom isDig t 0)).size := hj
          have e : (t.extract 0 (runFrom isDig t 0)).data.toList[j] = (t.extract 0 (runFrom isDig t 0))[j]'hj' := rfl
          rw [e, ext_get t _ n1 j hj']
          obtain ⟨_, _, h3⟩ := runFrom_all isDig t _ 0 rfl j (Nat.zero_le _) (by rw [hsz] at hj'; exact hj')
          exact h3
      · split at h
        · simp only [Option.some.injEq, Prod.mk.injEq] at h
          obtain ⟨rfl, rfl, rfl⟩ := h
          refine ⟨hn, hw, ?_, by omega, by omega, .inr rfl, by omega⟩
          have hf : signFrom (t.extract 0 (signFrom t 0)) 0 = (t.extract 0 (signFrom t 0)).size := by
            rcases signFromL_of t (signsB.drop 0) with h4 | ⟨p, hp, h5, h6⟩
            · have : signFrom t 0 = 0 := h4
              omega
            · have hx : t.extract 0 p.size = p := by
                simp only [hpB, Bool.and_eq_true, beq_iff_eq] at h5
                exact toList_inj h5.2
              have h7 : signFrom t 0 = p.size := h6.symm
              rw [h7, hx]
              have hp' : p ∈ signsB := by simpa using hp
              unfold signsB at hp'
              obtain ⟨k, hk, rfl⟩ := List.mem_map.1 hp'
              have := sign_each ⟨k, by simpa using hk⟩
              exact this
          exact ((sign_iff _ (by rw [toList_cons _ hx0]; simp)).1 hf)
        · cases h
  · cases h
theorem sc_ok {s : ByteArray} {pos line col : Nat} {l : List Tok} {e : Option (Nat × Nat)} (h : Sc s pos line col l e) : ∀ t ∈ l, TokOk t.k t.s t.n ∧ t.s.size ≤ s.size := by
  induction h with
  | fin => intro t ht; cases ht
  | nl _ _ _ ih => exact ih
  | blank _ _ _ ih => exact ih
  | hash _ _ _ ih => exact ih
  | bad => intro t ht; cases ht
  | tok h0 hc hw _ ih =>
    rename_i pos line col n k v l e _
    intro t ht
    rcases List.mem_cons.1 ht with rfl | ht
    · have h1 := wordOf_ok hw
      have h2 := (wordOf_ascii hw).2.1
      rw [tail_size] at h2
      rw [ext_ext _ _ _ (by omega)] at h1
      exact ⟨h1, by show (s.extract pos (pos + n)).size ≤ s.size; rw [ByteArray.size_extract]; omega⟩
    · exact ih t ht
theorem whole (s : ByteArray) : s.extract 0 s.size = s := by
  apply ByteArray.ext
  simp
theorem single {s : ByteArray} (h : nameB s = true ∨ wordB s.toList = true ∨ signB s.toList = true) : ∃ k, Sc s 0 1 1 [⟨k, s, 0, 1, 1⟩] none := by
  have key : ∃ k, wordOf s = some (k, s.size, 0) ∧ ∃ h : 0 < s.size, ¬ (s[0]).toNat = 10 ∧ ¬ (s[0]).toNat = 32 ∧ ¬ (s[0]).toNat = 9 ∧ ¬ (s[0]).toNat = 13 ∧ ¬ (s[0]).toNat = 35 := by
    rcases h with h | h | h
    · obtain ⟨h0, h1, h2, h3, h4⟩ := name_hd h
      have h5 := h2
      simp [isLet] at h5
      refine ⟨1, ?_, h0, by omega, by omega, by omega, by omega, by omega⟩
      unfold wordOf
      rw [dif_pos h0, if_pos h2, h3, whole, h4, if_neg (by simp), if_pos h1]
    · obtain ⟨h0, h2⟩ := word_hd h
      have h5 := h2
      simp [isLet] at h5
      refine ⟨3, ?_, h0, by omega, by omega, by omega, by omega, by omega⟩
      have ha := (words_head _ (of_decide_eq_true h)).2
      rw [List.all_eq_true] at ha
      have h3 : runFrom isLod s 0 = s.size := run_whole isLod s (fun j hj => by
        have h6 := ha s[j] (by rw [ByteArray.toList_eq]; exact List.getElem_mem (l := s.data.toList) (n := j) (by simpa using hj))
        refine ⟨?_, by simp [isLod, h6]⟩
        simp [isLet] at h6
        omega) _ 0 rfl (Nat.zero_le _)
      unfold wordOf
      rw [dif_pos h0, if_pos h2, h3, whole, if_pos h]
    · obtain ⟨h0, h1, h2, h3⟩ := sign_hd h
      have h4 := (sign_iff s (by rw [toList_cons s h0]; simp)).2 h
      refine ⟨4, ?_, h0, h3⟩
      unfold wordOf
      rw [dif_pos h0, if_neg (by simp [h1]), if_neg (by simp [h2]), h4, if_pos h0]
  obtain ⟨k, h1, h0, h2⟩ := key
  refine ⟨k, ?_⟩
  have h3 := Sc.tok (line := 1) (col := 1) (l := []) (e := none) h0 h2 (by rw [whole]; exact h1) (.fin (by omega))
  rw [Nat.zero_add, whole] at h3
  exact h3
end Go.Proofs.YtekdchhengcfoaaDoor
