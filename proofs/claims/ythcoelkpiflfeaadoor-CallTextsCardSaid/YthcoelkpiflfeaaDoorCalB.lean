/- What a kind uses, as the document tells it. -/
import Derived.Test.YthcoelkpiflfeaaDoorRows
import Derived.Test.YthcoelkpiflfeaaDoorCalP
namespace Go.Proofs.YthcoelkpiflfeaaDoor
open Go Go.RowKit Go.Lib
set_option linter.unusedVariables false
set_option linter.unusedSimpArgs false
namespace Cal
/-- The letters of a kind. -/
def usesS (k : Int) : Array UInt8 :=
  if k = 1 ∨ k = 2 ∨ k = 3 ∨ k = 4 ∨ k = 5 then #[99, 112, 116, 118, 115]
  else if k = 6 ∨ k = 7 ∨ k = 13 ∨ k = 14 then #[99, 112, 116]
  else if k = 8 ∨ k = 9 ∨ k = 10 ∨ k = 11 ∨ k = 12 then #[108]
  else if k = 15 ∨ k = 20 ∨ k = 22 then #[99]
  else if k = 16 ∨ k = 19 then #[99, 114, 118]
  else if k = 17 then #[99, 114, 118, 111]
  else if k = 18 then #[99, 118, 111]
  else if k = 21 then #[99, 107]
  else #[]
set_option maxRecDepth 100000 in
set_option maxHeartbeats 8000000 in
theorem uses_b (k : Int) (w : World) : Calls Tryd.prog 25 #[.int .u8 k] w fun e w' => e = .returned (.string ⟨usesS k⟩) ∧ w' = w := by
  have hc : (k = 1 ∨ k = 2 ∨ k = 3 ∨ k = 4 ∨ k = 5 ∨ k = 6 ∨ k = 7 ∨ k = 8 ∨ k = 9 ∨ k = 10 ∨ k = 11 ∨ k = 12 ∨ k = 13 ∨ k = 14 ∨ k = 15 ∨ k = 16 ∨ k = 17 ∨ k = 18 ∨ k = 19 ∨ k = 20 ∨ k = 21 ∨ k = 22) ∨ (k < 1 ∨ 22 < k) := by omega
  rcases hc with hc | hc
  · rcases hc with rfl | rfl | rfl | rfl | rfl | rfl | rfl | rfl | rfl | rfl | rfl | rfl | rfl | rfl | rfl | rfl | rfl | rfl | rfl | rfl | rfl | rfl
    all_goals
      go_enter Tryd.func25, Tryd.ntmps25
      go_wp2_with fail
      go_ret
      exact ⟨rfl, rfl⟩
  · have e : usesS k = #[] := by
      unfold usesS
      rw [if_neg (by omega), if_neg (by omega), if_neg (by omega), if_neg (by omega), if_neg (by omega), if_neg (by omega), if_neg (by omega), if_neg (by omega)]
    rw [e]
    have n1 : ¬ k = 1 := by omega
    have n2 : ¬ k = 2 := by omega
    have n3 : ¬ k = 3 := by omega
    have n4 : ¬ k = 4 := by omega
    have n5 : ¬ k = 5 := by omega
    have n6 : ¬ k = 6 := by omega
    have n7 : ¬ k = 7 := by omega
    have n8 : ¬ k = 8 := by omega
    have n9 : ¬ k = 9 := by omega
    have n10 : ¬ k = 10 := by omega
    have n11 : ¬ k = 11 := by omega
    have n12 : ¬ k = 12 := by omega
    have n13 : ¬ k = 13 := by omega
    have n14 : ¬ k = 14 := by omega
    have n15 : ¬ k = 15 := by omega
    have n16 : ¬ k = 16 := by omega
    have n17 : ¬ k = 17 := by omega
    have n18 : ¬ k = 18 := by omega
    have n19 : ¬ k = 19 := by omega
    have n20 : ¬ k = 20 := by omega
    have n21 : ¬ k = 21 := by omega
    have n22 : ¬ k = 22 := by omega
    clear hc e
    go_enter Tryd.func25, Tryd.ntmps25
    go_wp2_with fail
    go_ret
    exact ⟨rfl, rfl⟩
theorem usesS_len (k : Int) : (usesS k).size ≤ 5 := by
  unfold usesS
  repeat' split
  all_goals decide
theorem mem_at {x : ByteArray} {c : UInt8} (h : c ∈ x.data.toList) : ∃ i, ∃ hi : i < x.size, x[i] = c := by
  obtain ⟨i, hi, e⟩ := List.getElem_of_mem h
  have e' : x.data[i]'(by simpa using hi) = c := by simpa using e
  exact ⟨i, by simpa using hi, e'⟩
theorem at_mem {x : ByteArray} {c : UInt8} {i : Nat} (hi : i < x.size) (h : x[i] = c) : c ∈ x.data.toList := by
  rw [← h]
  have : x[i] = x.data.toList[i]'(by simpa using hi) := by simp [ByteArray.getElem_eq_getElem_data]
  rw [this]
  exact List.getElem_mem _
set_option maxRecDepth 100000 in
set_option maxHeartbeats 8000000 in
theorem has_b (k : Int) (c : UInt8) (w : World) : Calls Tryd.prog 27 #[.int .u8 k, .int .u8 (c.toNat : Int)] w fun e w' => e = .returned (.bool (decide (c ∈ (usesS k).toList))) ∧ w' = w := by
  have US := hide (uses_b k w)
  obtain ⟨x, hx⟩ : ∃ x : ByteArray, (⟨usesS k⟩ : ByteArray) = x := ⟨_, rfl⟩
  have hxs : x.size ≤ 5 := by rw [← hx]; exact usesS_len k
  have hxl : (usesS k).toList = x.data.toList := by rw [← hx]
  rw [hx] at US
  rw [hxl]
  have HL := hide hxs
  clear hx hxs hxl
  obtain ⟨b, hb⟩ : ∃ b, decide (c ∈ x.data.toList) = b := ⟨_, rfl⟩
  rw [hb]
  have HB := hide hb
  obtain ⟨z, hz⟩ : ∃ z : Int, (c.toNat : Int) = z := ⟨_, rfl⟩
  rw [hz]
  have HZ := hide hz
  clear hz hb
  go_enter Tryd.func27, Tryd.ntmps27
  go_wp2_with fail
  refine US.out.mono ?_
  rintro e w' ⟨rfl, rfl⟩
  go_wp2_with fail
  go_loopw [6] (fun vi wr => ∃ i : Nat, i ≤ x.size ∧ vi = .int .i64 i ∧ wr = w' ∧ Hid (∀ j (hj : j < x.size), j < i → x[j] ≠ c)) (fun vi _ => x.size - (RowKit.intOf vi).toNat)
  case atStart => exact ⟨0, Nat.zero_le _, rfl, rfl, hide (fun j _ h => absurd h (Nat.not_lt_zero j))⟩
  case round =>
    obtain ⟨i, hi, rfl, rfl, HN⟩ := hrel
    by_cases hlt : i < x.size
    rotate_left
    · have hltI : ¬ (i : Int) < (x.size : Int) := by omega
      have hbf : b = false := by
        rw [← HB.out]
        refine decide_eq_false fun h => ?_
        obtain ⟨j, hj, e⟩ := mem_at h
        exact HN.out j hj (by omega) e
      subst hbf
      go_wp2_with fail
      go_ret
      exact ⟨rfl, rfl⟩
    · have hltI : (i : Int) < (x.size : Int) := by omega
      have hs1 : IntKind.i64.wrap ((i : Int) + 1) = (i : Int) + 1 := by rw [IntKind.wrap_i64]; have := HL.out; omega
      by_cases he : ((x[i]).toNat : Int) = z
      · have hbt : b = true := by
          rw [← HB.out]
          refine decide_eq_true (at_mem hlt ?_)
          rw [← HZ.out] at he
          exact UInt8.toNat_inj.1 (by omega)
        subst hbt
        go_wp2_with fail
        go_ret
        exact ⟨rfl, rfl⟩
      · go_wp2_with fail
        go_roundw
        case rel =>
          refine ⟨i + 1, by omega, by go_num, by first | rfl | trivial, hide (fun j hj hji => ?_)⟩
          by_cases hji2 : j = i
          · subst hji2
            intro e
            exact he (by rw [← HZ.out, e])
          · exact HN.out j hj (by omega)
        case measure => simp [RowKit.intOf] <;> omega
end Cal
end Go.Proofs.YthcoelkpiflfeaaDoor
