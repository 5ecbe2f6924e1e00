/- The reference's words: a number. -/
import Derived.Test.YtekdchhengcfoaaDoorRows
import Derived.Test.YtekdchhengcfoaaDoorScanL
namespace Go.Proofs.YtekdchhengcfoaaDoor
open Go.RowKit
set_option linter.unusedVariables false
set_option linter.unusedSimpArgs false
set_option maxRecDepth 100000 in
set_option maxHeartbeats 2000000 in
/-- What does not begin with a digit is no number. -/
theorem number_no (x : ByteArray) (w : World) (hx : x.size ≤ 9223372036854775807) (h0 : 0 < x.size) (hd : isDig (x[0]).toNat = false) : Calls Tryd.prog 37 #[.string x] w fun e w' =>
    e = .returned (.tuple #[.int .i64 0, .bool false]) ∧ w = w' := by
  have p0 : ¬ (x.size : Int) < 1 := by omega
  have p1 : (0 : Int) < (x.size : Int) := by omega
  have p2 := decide_eq_false p0
  by_cases h18 : (18 : Int) < (x.size : Int)
  · have h18' := decide_eq_true h18
    go_enter Tryd.func37, Tryd.ntmps37
    go_wp2_with fail
    exact bodyPost_ret (v := .tuple #[.int .i64 0, .bool false]) (by simp [results, Tryd.results37, go_sem]) rfl ⟨rfl, rfl⟩
  have h18' := decide_eq_false h18
  have z1 : (((x[0]).toNat : Int) == 48) = false := by
    simp [isDig] at hd
    have : ¬ ((x[0]).toNat : Int) = 48 := by omega
    simpa using this
  have HD := hide hd
  clear hd
  go_enter Tryd.func37, Tryd.ntmps37
  go_wp2_with fail
  go_loopw [4, 5] (fun v i wr => v = .int .i64 0 ∧ i = .int .i64 0 ∧ w = wr) (fun _ _ _ => 0)
  case atStart => exact ⟨rfl, rfl, rfl⟩
  case round =>
    obtain ⟨rfl, rfl, rfl⟩ := hrel
    have hd := HD.out
    go_wp2_with fail
    refine (dig_b _ _).mono ?_
    rw [HD.out]
    rintro e w' ⟨rfl, rfl⟩
    go_wp2_with fail
    exact bodyPost_ret (v := .tuple #[.int .i64 0, .bool false]) (by simp [results, Tryd.results37, go_sem]) rfl ⟨rfl, rfl⟩
set_option maxRecDepth 100000 in
set_option maxHeartbeats 2000000 in
/-- A row of digits. -/
theorem number_yes (x : ByteArray) (w : World) (hx : x.size ≤ 9223372036854775807) (h0 : 0 < x.size) (hd : ∀ j (h : j < x.size), isDig (x[j]).toNat = true) : Calls Tryd.prog 37 #[.string x] w fun e w' =>
    (if 18 < x.size ∨ ((x[0]).toNat = 48 ∧ 1 < x.size) then e = .returned (.tuple #[.int .i64 0, .bool false]) else e = .returned (.tuple #[.int .i64 (numOf x.data.toList), .bool true])) ∧ w = w' := by
  have p0 : ¬ (x.size : Int) < 1 := by omega
  have p1 : (0 : Int) < (x.size : Int) := by omega
  have p2 := decide_eq_false p0
  have HD := hide hd
  clear hd
  by_cases h18 : (18 : Int) < (x.size : Int)
  · have h18' := decide_eq_true h18
    have E : ∀ a b : Prop, (if 18 < x.size ∨ ((x[0]).toNat = 48 ∧ 1 < x.size) then a else b) = a := fun a b => if_pos (.inl (by omega))
    simp only [E]
    clear E
    go_enter Tryd.func37, Tryd.ntmps37
    go_wp2_with fail
    exact bodyPost_ret (v := .tuple #[.int .i64 0, .bool false]) (by simp [results, Tryd.results37, go_sem]) rfl ⟨rfl, rfl⟩
  have h18' := decide_eq_false h18
  by_cases hz : (x[0]).toNat = 48 ∧ 1 < x.size
  · have E : ∀ a b : Prop, (if 18 < x.size ∨ ((x[0]).toNat = 48 ∧ 1 < x.size) then a else b) = a := fun a b => if_pos (.inr hz)
    simp only [E]
    have z1 : (((x[0]).toNat : Int) == 48) = true := by simp [hz.1]
    have z2 : (1 : Int) < (x.size : Int) := by omega
    clear E hz
    go_enter Tryd.func37, Tryd.ntmps37
    go_wp2_with fail
    exact bodyPost_ret (v := .tuple #[.int .i64 0, .bool false]) (by simp [results, Tryd.results37, go_sem]) rfl ⟨rfl, rfl⟩
  have E : ∀ a b : Prop, (if 18 < x.size ∨ ((x[0]).toNat = 48 ∧ 1 < x.size) then a else b) = b := fun a b => if_neg (by omega)
  simp only [E]
  clear E
  have Z : Hid (¬ ((x[0]).toNat = 48 ∧ 1 < x.size)) := hide hz
  clear hz
  have start : ∀ (K : Prop), (((((x[0]).toNat : Int) == 48) = true ∧ ¬ (1 : Int) < (x.size : Int)) → K) → ((((x[0]).toNat : Int) == 48) = false → K) → K := fun K k1 k2 => by
    by_cases e : (x[0]).toNat = 48
    · exact k1 ⟨by simp [e], by have := Z.out; omega⟩
    · exact k2 (by
        have : ¬ ((x[0]).toNat : Int) = 48 := by omega
        simpa using this)
  refine start _ ?_ ?_
  all_goals
    first
    | (rintro ⟨z1, z2⟩; have z3 := decide_eq_false z2)
    | (intro z1; have z3 := trivial)
    clear start
    go_enter Tryd.func37, Tryd.ntmps37
    go_wp2_with fail
    go_loopw [4, 5] (fun v i wr => ∃ pos : Nat, pos ≤ x.size ∧ v = .int .i64 (numOf (x.data.toList.take pos)) ∧ i = .int .i64 pos ∧ w = wr) (fun _ i _ => x.size - (intOf i).toNat)
    case atStart => exact ⟨0, Nat.zero_le _, rfl, rfl, rfl⟩
    case round =>
      obtain ⟨pos, hpos, rfl, rfl, rfl⟩ := hrel
      by_cases hp : pos < x.size
      · have hdig := HD.out pos hp
        have hc := hdig
        simp [isDig] at hc
        have hpI : (pos : Int) < (x.size : Int) := by omega
        obtain ⟨n0, n3⟩ := num_small x pos hp (by omega) HD.out
        have S := hide (show numOf (x.data.toList.take (pos + 1)) = 10 * numOf (x.data.toList.take pos) + (((x[pos]).toNat : Int) - 48) by rw [take_snoc x pos hp, numOf_snoc, Int.mul_comm])
        go_wp2_with fail
        refine (dig_b _ _).mono ?_
        rw [hdig]
        rintro e w' ⟨rfl, rfl⟩
        go_wp2_with fail
        go_roundw
        case rel => exact ⟨pos + 1, by omega, by rw [S.out], by first | trivial | go_num, by first | rfl | trivial⟩
        case measure => simp [intOf]; omega
      · have T : Hid (x.data.toList.take pos = x.data.toList) := hide (List.take_of_length_le (by have e : x.data.toList.length = x.size := rfl; omega))
        go_wp2_with fail
        exact bodyPost_ret (v := .tuple #[.int .i64 (numOf (x.data.toList.take pos)), .bool true]) (by simp [results, Tryd.results37, go_sem]) rfl ⟨by rw [T.out], rfl⟩
end Go.Proofs.YtekdchhengcfoaaDoor
