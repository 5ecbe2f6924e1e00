/- The program's words: letters, numbers, the word with which a text begins. -/
import Derived.Test.YtekdchhengcfoaaDoorRows
import Derived.Test.YtekdchhengcfoaaDoorScanP
namespace Go.Proofs.YtekdchhengcfoaaDoor
open Go.RowKit
set_option linter.unusedVariables false
set_option linter.unusedSimpArgs false
def tokV (k : Int) (x : ByteArray) (v : Int) : Value := .agg #[.int .u8 k, .string x, .int .i64 v, .int .i64 0, .int .i64 0]
set_option maxRecDepth 100000 in
theorem letters_a (x : ByteArray) (w : World) (hx : x.size ≤ 9223372036854775807) : Calls Tryd.prog 38 #[.string x] w fun e w' =>
    e = .returned (.tuple #[.agg #[.int .u8 (if wordB x.toList then 3 else 1), .string x, .int .i64 0, .int .i64 0, .int .i64 0], .bool (wordB x.toList || decide (x.size ≤ 12))]) ∧ Below w.heap.size w w' := by
  by_cases hw : wordB x.toList = true
  · go_enter Tryd.func38, Tryd.ntmps38
    go_wp2_with (go_at_call 12; refine (word_a _ _).mono ?_; rintro e w' ⟨rfl, rfl⟩)
    exact bodyPost_ret (v := .tuple #[.agg #[.int .u8 3, .string x, .int .i64 0, .int .i64 0, .int .i64 0], .bool true]) (by simp [results, Tryd.results38, go_sem]) rfl ⟨by simp [hw], (Below.refl _ _).alloc (Nat.le_refl _) _⟩
  · have hw : wordB x.toList = false := by simpa using hw
    go_enter Tryd.func38, Tryd.ntmps38
    go_wp2_with (go_at_call 12; refine (word_a _ _).mono ?_; rintro e w' ⟨rfl, rfl⟩)
    exact bodyPost_ret (v := .tuple #[.agg #[.int .u8 1, .string x, .int .i64 0, .int .i64 0, .int .i64 0], .bool (decide (x.size ≤ 12))]) (by simp [results, Tryd.results38, go_sem]; omega) rfl ⟨by simp [hw], (Below.refl _ _).alloc (Nat.le_refl _) _⟩
theorem numOf_snoc (l : List UInt8) (b : UInt8) : numOf (l ++ [b]) = numOf l * 10 + ((b.toNat : Int) - 48) := by simp [numOf]
theorem num_fold : ∀ (l : List UInt8) (a : Int), 0 ≤ a → (∀ b ∈ l, isDig b.toNat = true) → 0 ≤ l.foldl (fun n b => n * 10 + ((b.toNat : Int) - 48)) a ∧ l.foldl (fun n b => n * 10 + ((b.toNat : Int) - 48)) a + 1 ≤ (a + 1) * 10 ^ l.length
  | [], a, h, _ => by simp; exact h
  | b :: l, a, h, hd => by
    have hb := hd b (by simp)
    simp [isDig] at hb
    obtain ⟨h1, h2⟩ := num_fold l (a * 10 + ((b.toNat : Int) - 48)) (by omega) (fun c hc => hd c (by simp [hc]))
    refine ⟨h1, Int.le_trans h2 ?_⟩
    rw [List.length_cons, Int.pow_succ, Int.mul_comm ((10 : Int) ^ l.length) 10, ← Int.mul_assoc]
    exact Int.mul_le_mul_of_nonneg_right (by omega) (Int.le_of_lt (Int.pow_pos (by omega)))
theorem numOf_bd (l : List UInt8) (h : ∀ b ∈ l, isDig b.toNat = true) : 0 ≤ numOf l ∧ numOf l < 10 ^ l.length := by
  obtain ⟨h1, h2⟩ := num_fold l 0 (by omega) h
  exact ⟨h1, by unfold numOf; omega⟩
theorem pow_le18 {n : Nat} (h : n ≤ 18) : (10 : Int) ^ n ≤ 1000000000000000000 := by
  have : ∀ n : Fin 19, (10 : Int) ^ n.1 ≤ 1000000000000000000 := by decide
  exact this ⟨n, by omega⟩
theorem take_snoc (s : ByteArray) (k : Nat) (h : k < s.size) : s.data.toList.take (k + 1) = s.data.toList.take k ++ [s[k]] := by
  rw [List.take_succ_eq_append_getElem (by simpa using h)]; rfl
theorem num_small (x : ByteArray) (pos : Nat) (hp : pos < x.size) (hx : x.size ≤ 18) (hd : ∀ j (h : j < x.size), isDig (x[j]).toNat = true) : 0 ≤ numOf (x.data.toList.take pos) ∧ numOf (x.data.toList.take pos) < 100000000000000000 := by
  obtain ⟨n0, n1⟩ := numOf_bd (x.data.toList.take pos) (fun b hb => by
    obtain ⟨j, hj, rfl⟩ := List.getElem_of_mem hb
    rw [List.length_take] at hj
    have := hd j (by omega)
    rw [List.getElem_take]
    exact this)
  have n2 : ∀ n : Fin 18, (10 : Int) ^ n.1 ≤ 100000000000000000 := by decide
  have n3 := n2 ⟨(x.data.toList.take pos).length, by rw [List.length_take]; omega⟩
  exact ⟨n0, Int.lt_of_lt_of_le n1 n3⟩
set_option maxRecDepth 100000 in
set_option maxHeartbeats 2000000 in
theorem number_a (x : ByteArray) (w : World) (hx : x.size ≤ 9223372036854775807) (h0 : 0 < x.size) (hd : ∀ j (h : j < x.size), isDig (x[j]).toNat = true) : Calls Tryd.prog 40 #[.string x] w fun e w' =>
    (if 18 < x.size ∨ ((x[0]).toNat = 48 ∧ 1 < x.size) then e = .returned (.tuple #[.agg #[.int .u8 0, .string ⟨#[]⟩, .int .i64 0, .int .i64 0, .int .i64 0], .bool false])
      else e = .returned (.tuple #[.agg #[.int .u8 2, .string x, .int .i64 (numOf x.data.toList), .int .i64 0, .int .i64 0], .bool true])) ∧ Below w.heap.size w w' := by
  by_cases h18 : 18 < x.size
  · have h18' : (18 : Int) < (x.size : Int) := by omega
    have E : ∀ a b : Prop, (if 18 < x.size ∨ ((x[0]).toNat = 48 ∧ 1 < x.size) then a else b) = a := fun a b => if_pos (.inl h18)
    simp only [E]
    have HD := hide hd
    clear hd E
    go_enter Tryd.func40, Tryd.ntmps40
    go_wp2_with fail
    exact bodyPost_ret (v := .tuple #[.agg #[.int .u8 0, .string ⟨#[]⟩, .int .i64 0, .int .i64 0, .int .i64 0], .bool false]) (by simp [results, Tryd.results40, go_sem]) rfl ⟨rfl, (Below.refl _ _).alloc (Nat.le_refl _) _⟩
  have h18' : ¬ (18 : Int) < (x.size : Int) := by omega
  by_cases hz : (x[0]).toNat = 48 ∧ 1 < x.size
  · have E : ∀ a b : Prop, (if 18 < x.size ∨ ((x[0]).toNat = 48 ∧ 1 < x.size) then a else b) = a := fun a b => if_pos (.inr hz)
    simp only [E]
    have z1 : (((x[0]).toNat : Int) == 48) = true := by simp [hz.1]
    have z2 : (1 : Int) < (x.size : Int) := by omega
    have HD := hide hd
    clear hd E hz
    go_enter Tryd.func40, Tryd.ntmps40
    go_wp2_with fail
    exact bodyPost_ret (v := .tuple #[.agg #[.int .u8 0, .string ⟨#[]⟩, .int .i64 0, .int .i64 0, .int .i64 0], .bool false]) (by simp [results, Tryd.results40, go_sem]) rfl ⟨rfl, (Below.refl _ _).alloc (Nat.le_refl _) _⟩
  have E : ∀ a b : Prop, (if 18 < x.size ∨ ((x[0]).toNat = 48 ∧ 1 < x.size) then a else b) = b := fun a b => if_neg (by omega)
  simp only [E]
  have HD := hide hd
  clear hd E
  have Z : Hid (¬ ((x[0]).toNat = 48 ∧ 1 < x.size)) := hide hz
  clear hz
  have start : ∀ (K : Prop), (((((x[0]).toNat : Int) == 48) = true ∧ ¬ (1 : Int) < (x.size : Int)) → K) → ((((x[0]).toNat : Int) == 48) = false → K) → K := fun K k1 k2 => by
    by_cases e : (x[0]).toNat = 48
    · exact k1 ⟨by simp [e], by have := Z.out; omega⟩
    · exact k2 (by
        have : ¬ ((x[0]).toNat : Int) = 48 := by omega
        simpa using this)
  have fin : ∀ W : World, Below w.heap.size w W → True := fun _ _ => trivial
  clear fin
  refine start _ ?_ ?_
  all_goals
    first
    | (rintro ⟨z1, z2⟩; have z3 := decide_eq_false z2)
    | (intro z1; have z3 := trivial)
    clear start
    go_enter Tryd.func40, Tryd.ntmps40
    go_wp2_with fail
    have b0 := Blk.new w 31 #[.int .u8 0, .string ⟨#[]⟩, .int .i64 0, .int .i64 0, .int .i64 0]
    have B0 := hide ((Below.refl _ w).alloc (Nat.le_refl _) (.cells #[.int .u8 0, .string ⟨#[]⟩, .int .i64 0, .int .i64 0, .int .i64 0] 31))
    have K0 := hide b0
    clear b0
    go_loopw [4] (fun v wr => ∃ pos : Nat, pos ≤ x.size ∧ v = .int .i64 (numOf (x.data.toList.take pos)) ∧ wr.heap[w.heap.size + 1]? = some (.stringIter x pos) ∧ Hid (Blk wr w.heap.size 31 #[.int .u8 0, .string ⟨#[]⟩, .int .i64 0, .int .i64 0, .int .i64 0]) ∧ Hid (Below w.heap.size w wr)) (fun _ wr => x.size - wr.iterPos (w.heap.size + 1))
    case atStart => 
      refine ⟨0, by omega, rfl, ?_, hide (K0.out.alloc _), hide (B0.out.alloc (by simp) _)⟩
      have := World.iter_heap (w.alloc (.cells #[.int .u8 0, .string ⟨#[]⟩, .int .i64 0, .int .i64 0, .int .i64 0] 31)) x 0
      simpa using this
    case round =>
      obtain ⟨pos, hpos, rfl, hit, K, HB⟩ := hrel
      have Hit := hide hit
      have hsz : w.heap.size + 1 < wr.heap.size := (Array.getElem?_eq_some_iff.1 hit).1
      clear hit
      by_cases hp : pos < x.size
      · have hdig := HD.out pos hp
        have hc := hdig
        simp [isDig] at hc
        have ha : (x[pos]).toNat < 128 := by omega
        have hnx : ∀ ty, (Instr.next (.pointer (some ⟨w.heap.size + 1, 0, none⟩)) true ty).run Tryd.prog wr = _ := fun ty => Lib.run_next_ascii_at wr (w.heap.size + 1) x pos ty Hit.out hp ha
        have hit2 := hide (Lib.iterAt_heap wr (w.heap.size + 1) x pos (pos + 1) Hit.out)
        have hbw2 := hide (Lib.below_iterAt HB.out (k := w.heap.size + 1) (by omega) x (pos + 1))
        have K2 := hide (show Blk (wr.iterAt (w.heap.size + 1) x (pos + 1)) w.heap.size 31 #[.int .u8 0, .string ⟨#[]⟩, .int .i64 0, .int .i64 0, .int .i64 0] from (Lib.iterAt_other wr (w.heap.size + 1) w.heap.size x (pos + 1) (by omega)).trans K.out)
        obtain ⟨n0, n3⟩ := num_small x pos hp (by omega) HD.out
        have S := hide (show numOf (x.data.toList.take (pos + 1)) = numOf (x.data.toList.take pos) * 10 + (((x[pos]).toNat : Int) - 48) by rw [take_snoc x pos hp, numOf_snoc])
        go_wp2_with fail
        go_roundw
        case rel => exact ⟨pos + 1, by omega, by rw [S.out], hit2.out, K2, hbw2⟩
        case measure =>
          simp only [World.iterPos, hit2.out, Hit.out]
          omega
      · have hnx : ∀ ty, (Instr.next (.pointer (some ⟨w.heap.size + 1, 0, none⟩)) true ty).run Tryd.prog wr = _ := fun ty => Lib.run_next_end_at wr (w.heap.size + 1) x pos ty Hit.out hp
        have T : Hid (x.data.toList.take pos = x.data.toList) := hide (List.take_of_length_le (by have e : x.data.toList.length = x.size := rfl; omega))
        have c0 := K.out.cell 0
        have c1 := K.out.cell 1
        have c2 := K.out.cell 2
        have c3 := K.out.cell 3
        have c4 := K.out.cell 4
        simp only [List.getElem?_toArray, List.getElem?_cons_zero, List.getElem?_cons_succ] at c0 c1 c2 c3 c4
        have f0 := K.out.frozen 0
        have f1 := K.out.frozen 1
        have f2 := K.out.frozen 2
        have f3 := K.out.frozen 3
        have f4 := K.out.frozen 4
        go_wp2_with fail
        have KF := (((((K.out.set_ 0 (.int .u8 2)).set_ 1 (.string x)).set_ 2 (.int .i64 (numOf (x.data.toList.take pos)))).set_ 3 (.int .i64 0)).set_ 4 (.int .i64 0))
        have BF := ((((HB.out.setCell (p := ⟨w.heap.size, 0, none⟩) (Nat.le_refl _) (.int .u8 2)).setCell (p := ⟨w.heap.size, 1, none⟩) (Nat.le_refl _) (.string x)).setCell (p := ⟨w.heap.size, 2, none⟩) (Nat.le_refl _) (.int .i64 (numOf (x.data.toList.take pos)))).setCell (p := ⟨w.heap.size, 3, none⟩) (Nat.le_refl _) (.int .i64 0)).setCell (p := ⟨w.heap.size, 4, none⟩) (Nat.le_refl _) (.int .i64 0)
        generalize (((((wr.setCell ⟨w.heap.size, 0, none⟩ (.int .u8 2)).setCell ⟨w.heap.size, 1, none⟩ (.string x)).setCell ⟨w.heap.size, 2, none⟩ (.int .i64 (numOf (x.data.toList.take pos)))).setCell ⟨w.heap.size, 3, none⟩ (.int .i64 0)).setCell ⟨w.heap.size, 4, none⟩ (.int .i64 0)) = W5 at *
        have d0 := KF.cell 0
        have d1 := KF.cell 1
        have d2 := KF.cell 2
        have d3 := KF.cell 3
        have d4 := KF.cell 4
        simp at d0 d1 d2 d3 d4
        exact bodyPost_ret (v := .tuple #[.agg #[.int .u8 2, .string x, .int .i64 (numOf (x.data.toList.take pos)), .int .i64 0, .int .i64 0], .bool true]) (by simp [results, Tryd.results40, go_sem, d0, d1, d2, d3, d4]) rfl ⟨by rw [T.out], BF⟩
end Go.Proofs.YtekdchhengcfoaaDoor
