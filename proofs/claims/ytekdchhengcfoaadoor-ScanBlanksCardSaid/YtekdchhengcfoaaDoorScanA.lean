/- What words, signs and names are: the contracts of the program's functions and of the chapter's, at every text. -/
import Derived.Test.YtekdchhengcfoaaDoorRows
import Derived.Test.YtekdchhengcfoaaDoorBase
import Derived.Laws.RangeAny
import Derived.Lib.OthersKept
namespace Go.Proofs.YtekdchhengcfoaaDoor
open Go.RowKit
set_option linter.unusedVariables false
set_option linter.unusedSimpArgs false
def wordsL : List (List UInt8) := [[105, 110, 116], [105, 102], [101, 108, 115, 101], [119, 104, 105, 108, 101], [102, 111, 114], [97, 115, 115, 101, 114, 116], [115, 116, 111, 112], [114, 97, 110, 107], [115, 105, 122, 101], [97, 110, 121], [118, 97, 108, 117, 101], [112, 101, 101, 114], [116, 97, 103], [102, 108, 97, 103], [105, 110, 100, 101, 120], [114, 101, 113], [99, 111, 109, 109], [114, 111, 119], [115, 117, 109], [109, 97, 120], [109, 105, 110], [115, 101, 110, 100], [115, 115, 101, 110, 100], [98, 115, 101, 110, 100], [105, 115, 101, 110, 100], [105, 115, 115, 101, 110, 100], [114, 101, 99, 118], [105, 114, 101, 99, 118], [112, 114, 111, 98, 101], [105, 112, 114, 111, 98, 101], [119, 97, 105, 116], [119, 97, 105, 116, 97, 108, 108], [119, 97, 105, 116, 97, 110, 121], [116, 101, 115, 116], [116, 101, 115, 116, 97, 110, 121], [98, 97, 114, 114, 105, 101, 114], [98, 99, 97, 115, 116], [114, 101, 100, 117, 99, 101], [97, 108, 108, 114, 101, 100, 117, 99, 101], [103, 97, 116, 104, 101, 114], [100, 117, 112], [115, 112, 108, 105, 116], [102, 114, 101, 101]]
def signsL : List (List UInt8) := [[60, 61], [62, 61], [61, 61], [33, 61], [38, 38], [124, 124], [40], [41], [123], [125], [91], [93], [59], [44], [61], [43], [45], [42], [47], [37], [60], [62], [33]]
def wordB (l : List UInt8) : Bool := decide (l ∈ wordsL)
theorem wordB_none (l : List UInt8) (h : ∀ n ∈ wordsL, (l == n) = false) : wordB l = false := by
  unfold wordB
  rw [decide_eq_false_iff_not]
  intro hm
  have := h l hm
  simp at this
set_option maxRecDepth 100000 in
set_option maxHeartbeats 2000000 in
theorem word_a (s : ByteArray) (w : World) : Calls Tryd.prog 12 #[.string s] w fun e w' => e = .returned (.bool (wordB s.toList)) ∧ w = w' := by
  go_enter Tryd.func12, Tryd.ntmps12
  go_wp2
  all_goals
    go_ret
    refine ⟨?_, rfl⟩
    first
    | (rename_i hl; rw [beq_iff_eq] at hl; rw [hl]; rfl)
    | (rename_i h1 h2; rw [h1] at h2; cases h2)
    | (rw [wordB_none s.toList (by simp only [wordsL, List.forall_mem_cons]; simp [*])]; rfl)
def wordAt (k : Nat) : ByteArray := ⟨(wordsL.getD k []).toArray⟩
theorem wordAt_toList (k : Nat) : (wordAt k).toList = wordsL.getD k [] := by
  rw [ByteArray.toList_eq]; rfl
def wordV (k : Nat) : Value := .string (wordAt k)
theorem words_len : wordsL.length = 43 := rfl
theorem wordB_at (k : Nat) (hk : k < 43) (l : List UInt8) (h : wordsL.getD k [] = l) : wordB l = true := by
  subst h
  unfold wordB
  rw [decide_eq_true_eq, List.getD_eq_getElem?_getD, List.getElem?_eq_getElem (by rw [words_len]; exact hk)]
  exact List.getElem_mem _
set_option maxRecDepth 100000 in
set_option maxHeartbeats 2000000 in
theorem words_list (w : World) : Calls Tryd.prog 26 #[] w fun e w' => e = .returned (.slice (some ⟨w.heap.size, 0, none⟩) 43 43) ∧ (∀ j < 43, w'.cell? ⟨w.heap.size, j, none⟩ = some (.string (wordAt j))) ∧ w.heap.size < w'.heap.size ∧ Below w.heap.size w w' := by
  go_enter Tryd.func26, Tryd.ntmps26
  go_wp2_with fail
  go_ret
  refine ⟨rfl, fun j hj => ?_, by simp, (Below.refl _ _).alloc (Nat.le_refl _) _⟩
  rw [World.cell?_alloc_new]
  have h : ∀ j : Fin 43, (((List.range 43).map wordV).toArray)[j.1]? = some (.string (wordAt j.1)) := fun j => by simp [wordV]
  exact h ⟨j, hj⟩
set_option maxRecDepth 100000 in
set_option maxHeartbeats 2000000 in
theorem word_b (s : ByteArray) (w : World) : Calls Tryd.prog 13 #[.string s] w fun e w' => e = .returned (.bool (wordB s.toList)) ∧ Below w.heap.size w w' := by
  go_enter Tryd.func13, Tryd.ntmps13
  go_wp2_with fail
  refine (words_list w).mono ?_
  rintro e W1 ⟨rfl, hc, hl, hb⟩
  have Hc := hide hc
  have HB := hide hb
  clear hc hb
  go_wp2_with fail
  go_loop [4] (fun i => ∃ k : Nat, k ≤ 43 ∧ i = .int .i64 k ∧ Hid (∀ j < k, (wordsL.getD j [] == s.toList) = false)) (fun i => 43 - (intOf i).toNat)
  case atStart => exact ⟨0, by omega, rfl, hide fun j hj => by omega⟩
  case round =>
    obtain ⟨k, hk, rfl, hno⟩ := hrel
    by_cases hlt : k < 43
    · have hc := Hc.out k hlt
      by_cases he : ((wordAt k).toList == s.toList) = true
      · have E := hide (wordB_at k hlt s.toList (by rw [← wordAt_toList]; simpa using he))
        go_wp2_with fail
        go_ret
        exact ⟨by rw [E.out]; rfl, HB.out⟩
      · have he : ((wordAt k).toList == s.toList) = false := by simpa using he
        have He := hide he
        go_wp2_with fail
        go_round
        case rel => exact ⟨k + 1, by omega, by go_num, hide fun j hj => by
          by_cases hjk : j = k
          · subst hjk; rw [← wordAt_toList]; exact He.out
          · exact hno.out j (by omega)⟩
        case measure => simp [intOf]; omega
    · obtain rfl : k = 43 := by omega
      have E := hide (wordB_none s.toList (fun n hn => by
        obtain ⟨j, hj, rfl⟩ := List.getElem_of_mem hn
        have := hno.out j (by have := words_len; omega)
        rw [List.getD_eq_getElem?_getD, List.getElem?_eq_getElem hj] at this
        simp only [Option.getD_some] at this
        rw [beq_eq_false_iff_ne] at this ⊢
        exact fun e => this e.symm))
      go_wp2_with fail
      go_ret
      exact ⟨by rw [E.out]; rfl, HB.out⟩
/-! Letters and digits -/
def isLet (c : Int) : Bool := decide (97 ≤ c) && decide (c ≤ 122)
def isDig (c : Int) : Bool := decide (48 ≤ c) && decide (c ≤ 57)
def isLod (c : Int) : Bool := isLet c || isDig c
set_option maxRecDepth 100000 in
theorem let_a (c : Int) (w : World) : Calls Tryd.prog 28 #[.int .u8 c] w fun e w' => e = .returned (.bool (isLet c)) ∧ w = w' := by
  by_cases h1 : 97 ≤ c
  · by_cases h2 : c ≤ 122
    · have E := hide (show isLet c = true by simp [isLet, h1, h2])
      go_enter Tryd.func28, Tryd.ntmps28
      go_wp2_with fail
      go_ret
      exact ⟨by rw [E.out]; rfl, rfl⟩
    · have E := hide (show isLet c = false by simp [isLet, h2])
      have d := decide_eq_false h2
      go_enter Tryd.func28, Tryd.ntmps28
      go_wp2_with fail
      go_ret
      exact ⟨by rw [E.out]; rfl, rfl⟩
  · have E := hide (show isLet c = false by simp [isLet, h1])
    have d := decide_eq_false h1
    go_enter Tryd.func28, Tryd.ntmps28
    go_wp2_with fail
    go_ret
    exact ⟨by rw [E.out]; rfl, rfl⟩
set_option maxRecDepth 100000 in
theorem dig_a (c : Int) (w : World) : Calls Tryd.prog 39 #[.int .u8 c] w fun e w' => e = .returned (.bool (isDig c)) ∧ w = w' := by
  by_cases h1 : 48 ≤ c
  · by_cases h2 : c ≤ 57
    · have E := hide (show isDig c = true by simp [isDig, h1, h2])
      go_enter Tryd.func39, Tryd.ntmps39
      go_wp2_with fail
      go_ret
      exact ⟨by rw [E.out]; rfl, rfl⟩
    · have E := hide (show isDig c = false by simp [isDig, h2])
      have d := decide_eq_false h2
      go_enter Tryd.func39, Tryd.ntmps39
      go_wp2_with fail
      go_ret
      exact ⟨by rw [E.out]; rfl, rfl⟩
  · have E := hide (show isDig c = false by simp [isDig, h1])
    have d := decide_eq_false h1
    go_enter Tryd.func39, Tryd.ntmps39
    go_wp2_with fail
    go_ret
    exact ⟨by rw [E.out]; rfl, rfl⟩
set_option maxRecDepth 100000 in
theorem let_b (c : Int) (w : World) : Calls Tryd.prog 31 #[.int .u8 c] w fun e w' => e = .returned (.bool (isLet c)) ∧ w = w' := by
  by_cases h1 : 97 ≤ c
  · by_cases h2 : c ≤ 122
    · have E := hide (show isLet c = true by simp [isLet, h1, h2])
      go_enter Tryd.func31, Tryd.ntmps31
      go_wp2_with fail
      go_ret
      exact ⟨by rw [E.out]; rfl, rfl⟩
    · have E := hide (show isLet c = false by simp [isLet, h2])
      have d := decide_eq_false h2
      go_enter Tryd.func31, Tryd.ntmps31
      go_wp2_with fail
      go_ret
      exact ⟨by rw [E.out]; rfl, rfl⟩
  · have E := hide (show isLet c = false by simp [isLet, h1])
    have d := decide_eq_false h1
    go_enter Tryd.func31, Tryd.ntmps31
    go_wp2_with fail
    go_ret
    exact ⟨by rw [E.out]; rfl, rfl⟩
set_option maxRecDepth 100000 in
theorem dig_b (c : Int) (w : World) : Calls Tryd.prog 32 #[.int .u8 c] w fun e w' => e = .returned (.bool (isDig c)) ∧ w = w' := by
  by_cases h1 : 48 ≤ c
  · by_cases h2 : c ≤ 57
    · have E := hide (show isDig c = true by simp [isDig, h1, h2])
      go_enter Tryd.func32, Tryd.ntmps32
      go_wp2_with fail
      go_ret
      exact ⟨by rw [E.out]; rfl, rfl⟩
    · have E := hide (show isDig c = false by simp [isDig, h2])
      have d := decide_eq_false h2
      go_enter Tryd.func32, Tryd.ntmps32
      go_wp2_with fail
      go_ret
      exact ⟨by rw [E.out]; rfl, rfl⟩
  · have E := hide (show isDig c = false by simp [isDig, h1])
    have d := decide_eq_false h1
    go_enter Tryd.func32, Tryd.ntmps32
    go_wp2_with fail
    go_ret
    exact ⟨by rw [E.out]; rfl, rfl⟩
set_option maxRecDepth 100000 in
theorem lod_a (c : Int) (w : World) : Calls Tryd.prog 30 #[.int .u8 c] w fun e w' => e = .returned (.bool (isLod c)) ∧ w = w' := by
  by_cases h : isLet c = true
  · have E := hide (show isLod c = true by simp [isLod, h])
    go_enter Tryd.func30, Tryd.ntmps30
    go_wp2_with (go_at_call 28; refine (let_a _ _).mono ?_; rintro e w' ⟨rfl, rfl⟩)
    go_ret
    exact ⟨by rw [E.out]; rfl, rfl⟩
  · have h : isLet c = false := by simpa using h
    have E := hide (show isLod c = isDig c by simp [isLod, h])
    go_enter Tryd.func30, Tryd.ntmps30
    go_wp2_with (first | (go_at_call 28; refine (let_a _ _).mono ?_; rintro e w' ⟨rfl, rfl⟩) | (go_at_call 39; refine (dig_a _ _).mono ?_; rintro e w' ⟨rfl, rfl⟩))
    go_ret
    exact ⟨by rw [E.out]; rfl, rfl⟩
end Go.Proofs.YtekdchhengcfoaaDoor
