/- What May asks: a receive, a rank of a group, as many requests, whether one is among others: the program. -/
import Derived.Test.YthcoelkpiflfeaaDoorRows
import Derived.Test.YthcoelkpiflfeaaDoorCalD
import Derived.BigQuiet
namespace Go.Proofs.YthcoelkpiflfeaaDoor
open Go Go.RowKit Go.Lib Go.Proofs.YthcoelkpiflfeaaDoor.Grp
set_option linter.unusedVariables false
set_option linter.unusedSimpArgs false
namespace Cal
instance (k : Int) : Decidable (wildK k) := by unfold wildK; infer_instance
instance (c : Cl) : Decidable (manyR c) := by unfold manyR; infer_instance
instance (c : Cl) : Decidable (mayR c) := by unfold mayR; infer_instance
instance (c : Cl) (n : Nat) (f : Int) : Decidable (mayF c n f) := by
  unfold mayF
  repeat' split
  all_goals infer_instance
instance (c : Cl) (l : List Int) : Decidable (mayC c l) := by unfold mayC; infer_instance
set_option maxRecDepth 100000 in
set_option maxHeartbeats 8000000 in
theorem receives_c (k : Int) (w : World) : Calls Tryd.prog 59 #[.int .u8 k] w fun e w' => e = .returned (.bool (decide (wildK k))) ∧ w' = w := by
  have hc : (k = 6 ∨ k = 7 ∨ k = 13 ∨ k = 14) ∨ (¬ k = 6 ∧ ¬ k = 7 ∧ ¬ k = 13 ∧ ¬ k = 14) := by omega
  rcases hc with hc | ⟨h6, h7, h13, h14⟩
  · rw [decide_eq_true (show wildK k from hc)]
    rcases hc with rfl | rfl | rfl | rfl
    all_goals
      go_enter Tryd.func59, Tryd.ntmps59
      go_wp2_with fail
      go_ret
      exact ⟨rfl, rfl⟩
  · rw [decide_eq_false (show ¬ wildK k by unfold wildK; omega)]
    have b6 : (k == 6) = false := by simpa using h6
    have b7 : (k == 7) = false := by simpa using h7
    have b13 : (k == 13) = false := by simpa using h13
    have b14 : (k == 14) = false := by simpa using h14
    go_enter Tryd.func59, Tryd.ntmps59
    go_wp2_with fail
    go_ret
    exact ⟨rfl, rfl⟩
set_option maxRecDepth 100000 in
set_option maxHeartbeats 8000000 in
theorem Rank_c (key : ByteArray) (A : Option Addr) (cap : Nat) (l : List Int) (z : Int) (w : World) (h : NRow w A l) (hl : l.length ≤ 100000) :
    Calls Tryd.prog 60 #[.agg #[.string key, .slice A l.length cap], .int .i64 z] w fun e w' => (∃ v, e = .returned (.tuple #[v, .bool (decide (0 ≤ z ∧ z < (l.length : Int)))])) ∧ Below w.heap.size w w' := by
  have b1 := (Below.refl w.heap.size w).alloc (Nat.le_refl _) (.cells #[.string key, .slice A l.length cap] 37)
  have H1 := h.below b1
  have hb0 := b1
  obtain ⟨m, hm⟩ : ∃ m, l.length = m := ⟨_, rfl⟩
  have HB := hide b1
  rw [hm] at HB
  by_cases h0 : 0 ≤ z
  · by_cases h2 : z < (l.length : Int)
    · rw [decide_eq_true (show 0 ≤ z ∧ z < (l.length : Int) from ⟨h0, h2⟩)]
      obtain ⟨j, rfl⟩ : ∃ j : Nat, z = (j : Int) := ⟨z.toNat, by omega⟩
      have hj : j < l.length := by omega
      obtain ⟨a, rfl, ha, hc⟩ := h (by omega)
      have cz := hc j hj
      have hA := block_of_add a j
      rw [hm] at h2 ⊢
      have g1 : ¬ (j : Int) < 0 := by omega
      have g2 : ¬ (m : Int) ≤ (j : Int) := by omega
      clear hc h H1 b1 hb0 hj hl hm
      go_enter Tryd.func60, Tryd.ntmps60
      go_wp2_with fail
      exact bodyPost_ret (v := .tuple #[.int .i64 (l.getD j 0), .bool true]) (by simp [results, Tryd.results60, go_sem]) rfl ⟨⟨_, rfl⟩, HB.out⟩
    · rw [decide_eq_false (show ¬ (0 ≤ z ∧ z < (l.length : Int)) from fun h => h2 h.2)]
      rw [hm] at h2 ⊢
      have g1 : ¬ z < 0 := by omega
      have g2 : (m : Int) ≤ z := by omega
      clear h H1 b1 hb0 hl hm
      go_enter Tryd.func60, Tryd.ntmps60
      go_wp2_with fail
      exact bodyPost_ret (v := .tuple #[.int .i64 0, .bool false]) (by simp [results, Tryd.results60, go_sem]) rfl ⟨⟨_, rfl⟩, HB.out⟩
  · rw [decide_eq_false (show ¬ (0 ≤ z ∧ z < (l.length : Int)) from fun h => h0 h.1)]
    rw [hm]
    have g1 : z < 0 := by omega
    clear h H1 b1 hb0 hl hm
    go_enter Tryd.func60, Tryd.ntmps60
    go_wp2_with fail
    exact bodyPost_ret (v := .tuple #[.int .i64 0, .bool false]) (by simp [results, Tryd.results60, go_sem]) rfl ⟨⟨_, rfl⟩, HB.out⟩
set_option maxRecDepth 100000 in
set_option maxHeartbeats 8000000 in
theorem Index_c (A : Option Addr) (cap : Nat) (l : List Int) (z : Int) (w : World) (h : NRow w A l) (hl : l.length ≤ 100000) :
    Calls Tryd.prog 87 #[.slice A l.length cap, .int .i64 z] w fun e w' => ∃ r : Int, e = .returned (.int .i64 r) ∧ (0 ≤ r ↔ z ∈ l) ∧ w' = w := by
  have H := hide h
  have HL := hide hl
  obtain ⟨m, hm⟩ : ∃ m, l.length = m := ⟨_, rfl⟩
  have HM := hide hm
  rw [hm]
  clear h hl hm
  go_enter Tryd.func87, Tryd.ntmps87
  go_wp2_with fail
  go_loopw [5, 8] (fun v5 vi wr => ∃ i : Nat, i ≤ m ∧ vi = .int .i64 i ∧ wr = w ∧ Hid (∀ j, j < i → l.getD j 0 ≠ z)) (fun _ vi _ => m - (RowKit.intOf vi).toNat)
  case atStart => exact ⟨0, Nat.zero_le _, rfl, rfl, hide (fun j h => absurd h (Nat.not_lt_zero j))⟩
  case round =>
    obtain ⟨i, hi, rfl, rfl, HN⟩ := hrel
    by_cases hlt : i < m
    rotate_left
    · have hltI : ¬ (i : Int) < (m : Int) := by omega
      have hno : ¬ z ∈ l := fun hz => by
        obtain ⟨j, hj, e⟩ := List.getElem_of_mem hz
        refine HN.out j (by have := HM.out; omega) ?_
        rw [List.getD, List.getElem?_eq_getElem hj]
        exact e
      have FIN := hide hno
      clear hno
      go_wp2_with fail
      go_ret
      exact ⟨-1, rfl, ⟨fun h => absurd h (by decide), fun h => absurd h FIN.out⟩, rfl⟩
    · have hltI : (i : Int) < (m : Int) := by omega
      have hi0 : ¬ (i : Int) < 0 := by omega
      have hs1 : IntKind.i64.wrap ((i : Int) + 1) = (i : Int) + 1 := by rw [IntKind.wrap_i64]; have := HL.out; have := HM.out; omega
      obtain ⟨a, rfl, ha, hc⟩ := H.out (by have := HM.out; omega)
      have cz := hc i (by have := HM.out; omega)
      have HMEM : Hid (l.getD i 0 = z → z ∈ l) := hide (fun e => by
        rw [← e, List.getD, List.getElem?_eq_getElem (by have := HM.out; omega)]
        exact List.getElem_mem _)
      have HNX : Hid (l.getD i 0 ≠ z → ∀ j, j < i + 1 → l.getD j 0 ≠ z) := hide (fun hne j hj => by
        by_cases hji : j = i
        · subst hji; exact hne
        · exact HN.out j (by omega))
      clear hc
      generalize l.getD i 0 = x at *
      by_cases hx : z = x
      · have e1 : (z == x) = true := by simpa using hx
        have FIN := hide (HMEM.out hx.symm)
        have HX := hide hx
        clear hx
        go_wp2_with fail
        go_ret
        exact ⟨i, rfl, ⟨fun _ => FIN.out, fun _ => by omega⟩, rfl⟩
      · have e1 : (z == x) = false := by simpa using hx
        have HN2 := hide (HNX.out (fun e => hx e.symm))
        have HX := hide hx
        clear hx
        go_wp2_with fail
        go_roundw
        case rel => exact ⟨i + 1, by omega, by go_num, by first | rfl | trivial, HN2⟩
        case measure => simp [RowKit.intOf] <;> omega
set_option maxRecDepth 100000 in
set_option maxHeartbeats 8000000 in
theorem Contains_c (A : Option Addr) (cap : Nat) (l : List Int) (z : Int) (w : World) (h : NRow w A l) (hl : l.length ≤ 100000) :
    Calls Tryd.prog 70 #[.slice A l.length cap, .int .i64 z] w fun e w' => e = .returned (.bool (decide (z ∈ l))) ∧ w' = w := by
  have IX := hide (Index_c A cap l z w h hl)
  clear h hl
  obtain ⟨b, hb⟩ : ∃ b, decide (z ∈ l) = b := ⟨_, rfl⟩
  rw [hb]
  have HB := hide hb
  clear hb
  go_enter Tryd.func70, Tryd.ntmps70
  go_wp2_with fail
  refine IX.out.mono ?_
  rintro e w' ⟨r, rfl, hr, rfl⟩
  by_cases h0 : 0 ≤ r
  · have hbt : b = true := by rw [← HB.out]; exact decide_eq_true (hr.1 h0)
    subst hbt
    clear hr
    go_wp2_with fail
    go_ret
    exact ⟨rfl, rfl⟩
  · have hbf : b = false := by rw [← HB.out]; exact decide_eq_false fun h => h0 (hr.2 h)
    subst hbf
    have H0 := hide (decide_eq_false h0)
    clear hr h0
    go_wp2_with fail
    go_ret
    exact ⟨by show Ending.returned (.bool (decide (0 ≤ r))) = _; rw [H0.out], rfl⟩
end Cal
end Go.Proofs.YthcoelkpiflfeaaDoor
