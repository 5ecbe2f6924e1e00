/- Signs and names, told twice; the statement ScanWords. -/
import Derived.Test.YtekdchhengcfoaaDoorRows
import Derived.Test.YtekdchhengcfoaaDoorScanC
namespace Go.Proofs.YtekdchhengcfoaaDoor
open Go.RowKit
set_option linter.unusedVariables false
set_option linter.unusedSimpArgs false
def signB (l : List UInt8) : Bool := decide (l ∈ signsL)
theorem signB_none (l : List UInt8) (h : ∀ n ∈ signsL, (l == n) = false) : signB l = false := by
  unfold signB
  rw [decide_eq_false_iff_not]
  intro hm
  have := h l hm
  simp at this
set_option maxRecDepth 100000 in
set_option maxHeartbeats 2000000 in
theorem sign_b (s : ByteArray) (w : World) : Calls Tryd.prog 15 #[.string s] w fun e w' => e = .returned (.bool (signB s.toList)) ∧ w = w' := by
  go_enter Tryd.func15, Tryd.ntmps15
  go_wp2
  all_goals
    go_ret
    refine ⟨?_, rfl⟩
    first
    | (rename_i hl; rw [beq_iff_eq] at hl; rw [hl]; rfl)
    | (rename_i h1 h2; rw [h1] at h2; cases h2)
    | (rw [signB_none s.toList (by simp only [signsL, List.forall_mem_cons]; simp [*])]; rfl)
theorem sign_each : ∀ k : Fin 23, signFrom (signAtK k.1) 0 = (signAtK k.1).size := by decide +kernel
theorem sign_iff (s : ByteArray) (h : s.toList ≠ []) : (signFrom s 0 = s.size) ↔ signB s.toList = true := by
  unfold signB
  rw [decide_eq_true_eq]
  constructor
  · intro hs
    rcases signFromL_of s (signsB.drop 0) with h0 | ⟨p, hp, h1, h2⟩
    · exfalso
      unfold signFrom at hs
      rw [h0] at hs
      apply h
      rw [ByteArray.toList_eq]
      exact List.eq_nil_of_length_eq_zero (by simpa using hs.symm)
    · have : s = p := hpB_whole h1 (h2.trans hs)
      subst this
      simp only [List.drop_zero, signsB, List.mem_map, List.mem_range] at hp
      obtain ⟨k, hk, rfl⟩ := hp
      rw [signAtK_toList, List.getD_eq_getElem?_getD, List.getElem?_eq_getElem (by have : signsL.length = 23 := rfl; omega)]
      exact List.getElem_mem _
  · intro hm
    obtain ⟨k, hk, he⟩ := List.getElem_of_mem hm
    have hk' : k < 23 := hk
    have : s = signAtK k := toList_inj (by rw [signAtK_toList, List.getD_eq_getElem?_getD, List.getElem?_eq_getElem hk]; exact he.symm)
    subst this
    exact sign_each ⟨k, hk'⟩
set_option maxRecDepth 100000 in
theorem sign_a (s : ByteArray) (w : World) (hs : s.size ≤ 9223372036854775807) (h : Sg w) : Calls Tryd.prog 14 #[.string s] w fun e w' => e = .returned (.bool (signB s.toList)) ∧ w = w' := by
  have H := hide h
  clear h
  by_cases h0 : s.toList = []
  · have E : Hid (signB s.toList = false) := hide (by rw [h0]; rfl)
    have h1 : s.toList.isEmpty = true := by rw [h0]; rfl
    have h2 : (!s.toList.isEmpty) = false := by rw [h0]; rfl
    have H0 := hide h0
    clear h0
    go_enter Tryd.func14, Tryd.ntmps14
    go_wp2_with fail
    go_ret
    exact ⟨by rw [E.out]; rfl, rfl⟩
  · have h1 : s.toList.isEmpty = false := by simpa using h0
    have h2 : (!s.toList.isEmpty) = true := by simpa using h0
    have I := sign_iff s h0
    clear h0
    by_cases he : signFrom s 0 = s.size
    · have E := hide (I.1 he)
      have d : ((signFrom s 0 : Int) == (s.size : Int)) = true := by simp [he]
      clear I he
      go_enter Tryd.func14, Tryd.ntmps14
      go_wp2_with fail
      refine (sign_at s _ hs H.out).mono ?_
      rintro e w' ⟨rfl, rfl⟩
      go_wp2_with fail
      go_ret
      exact ⟨by rw [E.out]; rfl, rfl⟩
    · have E : Hid (signB s.toList = false) := hide (by rw [Bool.eq_false_iff]; exact fun h => he (I.2 h))
      have d0 : ¬ (signFrom s 0 : Int) = (s.size : Int) := by omega
      have d : ((signFrom s 0 : Int) == (s.size : Int)) = false := by simpa using d0
      clear I he d0
      go_enter Tryd.func14, Tryd.ntmps14
      go_wp2_with fail
      refine (sign_at s _ hs H.out).mono ?_
      rintro e w' ⟨rfl, rfl⟩
      go_wp2_with fail
      go_ret
      exact ⟨by rw [E.out]; rfl, rfl⟩
/-! Names -/
def nameB (s : ByteArray) : Bool := if h : 0 < s.size then decide (s.size ≤ 12) && isLet (s[0]'h).toNat && decide (runFrom isLod s 0 = s.size) && !wordB s.toList else false
set_option maxRecDepth 100000 in
set_option maxHeartbeats 4000000 in
theorem name_a (s : ByteArray) (w : World) (hs : s.size ≤ 9223372036854775807) : Calls Tryd.prog 16 #[.string s] w fun e w' => e = .returned (.bool (nameB s)) ∧ Below w.heap.size w w' := by
  by_cases h0 : 0 < s.size
  rotate_left
  · have E := hide (show nameB s = false by simp [nameB, h0])
    have d : ¬ (0 : Int) < (s.size : Int) := by omega
    have d2 := decide_eq_false d
    clear h0
    go_enter Tryd.func16, Tryd.ntmps16
    go_wp2_with fail
    go_ret
    exact ⟨by rw [E.out]; rfl, Below.refl _ _⟩
  have p0 : (0 : Int) < (s.size : Int) := by omega
  by_cases h1 : s.size ≤ 12
  rotate_left
  · have E := hide (show nameB s = false by simp [nameB, h1])
    have d : ¬ (s.size : Int) ≤ 12 := by omega
    have d2 := decide_eq_false d
    clear h1
    go_enter Tryd.func16, Tryd.ntmps16
    go_wp2_with fail
    go_ret
    exact ⟨by rw [E.out]; rfl, Below.refl _ _⟩
  have p1 : (s.size : Int) ≤ 12 := by omega
  by_cases h2 : isLet (s[0]).toNat = true
  rotate_left
  · have h2 : isLet (s[0]).toNat = false := by simpa using h2
    have E := hide (show nameB s = false by simp [nameB, h0, h2])
    go_enter Tryd.func16, Tryd.ntmps16
    go_wp2_with fail
    refine (let_a _ _).mono ?_
    rintro e w' ⟨rfl, rfl⟩
    go_wp2_with fail
    go_ret
    exact ⟨by rw [E.out]; rfl, Below.refl _ _⟩
  by_cases h3 : runFrom isLod s 0 = s.size
  rotate_left
  · have E := hide (show nameB s = false by simp [nameB, h0, h3])
    have d0 : ¬ (runFrom isLod s 0 : Int) = (s.size : Int) := by omega
    have d : ((runFrom isLod s 0 : Int) == (s.size : Int)) = false := by simpa using d0
    clear h3 d0
    go_enter Tryd.func16, Tryd.ntmps16
    go_wp2_with fail
    refine (let_a _ _).mono ?_
    rintro e w' ⟨rfl, rfl⟩
    go_wp2_with fail
    refine (row_lod s _ hs).mono ?_
    rintro e W1 ⟨rfl, hb⟩
    have HB := hide hb
    clear hb
    go_wp2_with fail
    go_ret
    exact ⟨by rw [E.out]; rfl, HB.out⟩
  have H3 := hide h3
  have d : ((runFrom isLod s 0 : Int) == (s.size : Int)) = true := by simp [h3]
  clear h3
  by_cases h4 : wordB s.toList = true
  · have E := hide (show nameB s = false by simp [nameB, h4])
    go_enter Tryd.func16, Tryd.ntmps16
    go_wp2_with fail
    refine (let_a _ _).mono ?_
    rintro e w' ⟨rfl, rfl⟩
    go_wp2_with fail
    refine (row_lod s _ hs).mono ?_
    rintro e W1 ⟨rfl, hb⟩
    have HB := hide hb
    clear hb
    go_wp2_with fail
    refine (word_a _ _).mono ?_
    rintro e w' ⟨rfl, rfl⟩
    go_wp2_with fail
    go_ret
    exact ⟨by rw [E.out]; rfl, HB.out⟩
  · have h4 : wordB s.toList = false := by simpa using h4
    have E := hide (show nameB s = true by simp [nameB, h0, h1, h2, h4, H3.out])
    go_enter Tryd.func16, Tryd.ntmps16
    go_wp2_with fail
    refine (let_a _ _).mono ?_
    rintro e w' ⟨rfl, rfl⟩
    go_wp2_with fail
    refine (row_lod s _ hs).mono ?_
    rintro e W1 ⟨rfl, hb⟩
    have HB := hide hb
    clear hb
    go_wp2_with fail
    refine (word_a _ _).mono ?_
    rintro e w' ⟨rfl, rfl⟩
    go_wp2_with fail
    go_ret
    exact ⟨by rw [E.out]; rfl, HB.out⟩
theorem lod_of_let {c : Int} (h : isLet c = true) : isLod c = true := by simp [isLod, h]
theorem lod_of_dig {c : Int} (h : isDig c = true) : isLod c = true := by simp [isLod, h]
theorem lod_none {c : Int} (h : isLet c = false) (h' : isDig c = false) : isLod c = false := by simp [isLod, h, h']
theorem let_lt {n : Nat} (h : isLet (n : Int) = true) : n < 128 := by simp [isLet] at h; omega
theorem dig_lt {n : Nat} (h : isDig (n : Int) = true) : n < 128 := by simp [isDig] at h; omega
set_option maxRecDepth 100000 in
set_option maxHeartbeats 4000000 in
theorem name_b (s : ByteArray) (w : World) (hs : s.size ≤ 9223372036854775807) : Calls Tryd.prog 17 #[.string s] w fun e w' => e = .returned (.bool (nameB s)) ∧ Below w.heap.size w w' := by
  by_cases h0 : 0 < s.size
  rotate_left
  · have E := hide (show nameB s = false by simp [nameB, h0])
    have d : (s.size : Int) < 1 := by omega
    clear h0
    go_enter Tryd.func17, Tryd.ntmps17
    go_wp2_with fail
    go_ret
    exact ⟨by rw [E.out]; rfl, Below.refl _ _⟩
  have p0 : ¬ (s.size : Int) < 1 := by omega
  have p0' := decide_eq_false p0
  by_cases h1 : s.size ≤ 12
  rotate_left
  · have E := hide (show nameB s = false by simp [nameB, h1])
    have d : (12 : Int) < (s.size : Int) := by omega
    clear h1
    go_enter Tryd.func17, Tryd.ntmps17
    go_wp2_with fail
    go_ret
    exact ⟨by rw [E.out]; rfl, Below.refl _ _⟩
  have p1 : ¬ (12 : Int) < (s.size : Int) := by omega
  have p1' := decide_eq_false p1
  by_cases h2 : isLet (s[0]).toNat = true
  rotate_left
  · have h2 : isLet (s[0]).toNat = false := by simpa using h2
    have E := hide (show nameB s = false by simp [nameB, h0, h2])
    go_enter Tryd.func17, Tryd.ntmps17
    go_wp2_with fail
    refine (let_b _ _).mono ?_
    rintro e w' ⟨rfl, rfl⟩
    go_wp2_with fail
    go_ret
    exact ⟨by rw [E.out]; rfl, Below.refl _ _⟩
  by_cases h4 : wordB s.toList = true
  · have E := hide (show nameB s = false by simp [nameB, h4])
    go_enter Tryd.func17, Tryd.ntmps17
    go_wp2_with fail
    refine (let_b _ _).mono ?_
    rintro e w' ⟨rfl, rfl⟩
    go_wp2_with fail
    refine (word_b _ _).mono ?_
    rintro e W1 ⟨rfl, hb⟩
    have HB := hide hb
    clear hb
    go_wp2_with fail
    go_ret
    exact ⟨by rw [E.out]; rfl, HB.out⟩
  have h4 : wordB s.toList = false := by simpa using h4
  have NE : Hid (∀ n, runFrom isLod s 0 = n → n ≠ s.size → nameB s = false) := hide (fun n h h' => by rw [← h] at h'; simp [nameB, h'])
  have YE : Hid (runFrom isLod s 0 = s.size → nameB s = true) := hide (fun h => by simp [nameB, h0, h1, h2, h4, h])
  go_enter Tryd.func17, Tryd.ntmps17
  go_wp2_with fail
  refine (let_b _ _).mono ?_
  rintro e w' ⟨rfl, rfl⟩
  go_wp2_with fail
  refine (word_b _ _).mono ?_
  rintro e W1 ⟨rfl, hb⟩
  have HB := hide hb
  clear hb
  go_wp2_with fail
  clear h2 h4 p0' p1'
  go_loop [3] (fun i => ∃ k : Nat, k ≤ s.size ∧ i = .int .i64 k ∧ Hid (runFrom isLod s k = runFrom isLod s 0)) (fun i => s.size - (intOf i).toNat)
  case atStart => exact ⟨0, by omega, rfl, hide rfl⟩
  case round =>
    obtain ⟨k, hk, rfl, hr⟩ := hrel
    by_cases hlt : k < s.size
    · by_cases c1 : isLet (s[k]).toNat = true
      · have R := hide ((runFrom_go (p := isLod) hlt ⟨let_lt c1, lod_of_let c1⟩).symm.trans hr.out)
        go_wp2_with fail
        refine (let_b _ _).mono ?_
        rintro e w' ⟨rfl, rfl⟩
        go_wp2_with fail
        go_round
        case rel => exact ⟨k + 1, by omega, by go_num, R⟩
        case measure => simp [intOf]; omega
      · have c1 : isLet (s[k]).toNat = false := by simpa using c1
        by_cases c2 : isDig (s[k]).toNat = true
        · have R := hide ((runFrom_go (p := isLod) hlt ⟨dig_lt c2, lod_of_dig c2⟩).symm.trans hr.out)
          go_wp2_with fail
          refine (let_b _ _).mono ?_
          rintro e w' ⟨rfl, rfl⟩
          go_wp2_with fail
          refine (dig_b _ _).mono ?_
          rintro e w' ⟨rfl, rfl⟩
          go_wp2_with fail
          go_round
          case rel => exact ⟨k + 1, by omega, by go_num, R⟩
          case measure => simp [intOf]; omega
        · have c2 : isDig (s[k]).toNat = false := by simpa using c2
          have E := hide (NE.out k ((runFrom_stop (p := isLod) hlt (fun h => by rw [lod_none c1 c2] at h; exact absurd h.2 (by simp))).symm.trans hr.out).symm (by omega))
          go_wp2_with fail
          refine (let_b _ _).mono ?_
          rintro e w' ⟨rfl, rfl⟩
          go_wp2_with fail
          refine (dig_b _ _).mono ?_
          rintro e w' ⟨rfl, rfl⟩
          go_wp2_with fail
          go_ret
          exact ⟨by rw [E.out]; rfl, HB.out⟩
    · obtain rfl : k = s.size := by omega
      have E := hide (YE.out ((runFrom_end hlt).symm.trans hr.out).symm)
      go_wp2_with fail
      go_ret
      exact ⟨by rw [E.out]; rfl, HB.out⟩
end Go.Proofs.YtekdchhengcfoaaDoor
