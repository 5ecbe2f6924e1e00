/- The walk of the statement TreeCalls: for every word and every kind the two answers of the chapter and of the program are the same; without conditions. -/
import Derived.Test.YthcoelkpiflfeaaDoorRows
import Derived.WalkKit
import Derived.ProofKit
import Derived.OpenShut
import Derived.Below
import Derived.WalkSpells
import Derived.WalkLawsBesides
import Derived.Outline
import Derived.Lib.Hide
namespace Go.Proofs.YthcoelkpiflfeaaDoor.TreeCallsW
open Go.RowKit
set_option linter.unusedVariables false

def argsOf (k : Int) : Int × Int :=
  if 1 ≤ k ∧ k ≤ 5 then (5, 5)
  else if k = 6 ∨ k = 7 ∨ k = 13 ∨ k = 14 ∨ k = 16 ∨ k = 17 ∨ k = 19 ∨ k = 21 then (3, 3)
  else if k = 18 then (2, 2)
  else if k = 8 ∨ k = 11 ∨ k = 15 ∨ k = 20 ∨ k = 22 then (1, 1)
  else if k = 9 ∨ k = 10 ∨ k = 12 then (1, 8)
  else (0, 0)
theorem argsOf_none (k : Int) (h : ∀ n : Nat, 1 ≤ n → n ≤ 22 → k ≠ n) : argsOf k = (0, 0) := by
  have h1 := h 1; have h2 := h 2; have h3 := h 3; have h4 := h 4; have h5 := h 5; have h6 := h 6; have h7 := h 7; have h8 := h 8
  have h9 := h 9; have h10 := h 10; have h11 := h 11; have h12 := h 12; have h13 := h 13; have h14 := h 14; have h15 := h 15
  have h16 := h 16; have h17 := h 17; have h18 := h 18; have h19 := h 19; have h20 := h 20; have h21 := h 21; have h22 := h 22
  unfold argsOf
  rw [if_neg (by omega), if_neg (by omega), if_neg (by omega), if_neg (by omega), if_neg (by omega)]

set_option maxRecDepth 100000 in
set_option maxHeartbeats 1000000 in
theorem args_a (k : Int) (w : World) :
    Calls Tryd.prog 46 #[.int .u8 k] w fun e w' => e = .returned (.tuple #[.int .i64 (argsOf k).1, .int .i64 (argsOf k).2]) ∧ w = w' := by
  go_enter Tryd.func46, Tryd.ntmps46
  go_wp2
  all_goals
    go_ret2
    refine ⟨?_, rfl⟩
    simp only [beq_iff_eq, beq_eq_false_iff_ne, ne_eq] at *
    first
    | (subst k; rfl)
    | (rw [argsOf_none k (fun n h1 h2 => by omega)]; rfl)
set_option maxRecDepth 100000 in
set_option maxHeartbeats 1000000 in
theorem args_b (k : Int) (w : World) :
    Calls Tryd.prog 39 #[.int .u8 k] w fun e w' => e = .returned (.tuple #[.int .i64 (argsOf k).1, .int .i64 (argsOf k).2]) ∧ w = w' := by
  go_enter Tryd.func39, Tryd.ntmps39
  go_wp2
  all_goals
    go_ret2
    refine ⟨?_, rfl⟩
    simp only [beq_iff_eq, beq_eq_false_iff_ne, ne_eq] at *
    first
    | (subst k; rfl)
    | (rw [argsOf_none k (fun n h1 h2 => by omega)]; rfl)
def names : List (List UInt8) := [[115, 101, 110, 100], [115, 115, 101, 110, 100], [98, 115, 101, 110, 100], [105, 115, 101, 110, 100], [105, 115, 115, 101, 110, 100], [114, 101, 99, 118], [105, 114, 101, 99, 118], [119, 97, 105, 116], [119, 97, 105, 116, 97, 108, 108], [119, 97, 105, 116, 97, 110, 121], [116, 101, 115, 116], [116, 101, 115, 116, 97, 110, 121], [112, 114, 111, 98, 101], [105, 112, 114, 111, 98, 101], [98, 97, 114, 114, 105, 101, 114], [98, 99, 97, 115, 116], [114, 101, 100, 117, 99, 101], [97, 108, 108, 114, 101, 100, 117, 99, 101], [103, 97, 116, 104, 101, 114], [100, 117, 112], [115, 112, 108, 105, 116], [102, 114, 101, 101]]
def callOf (l : List UInt8) : Nat := if l ∈ names then names.idxOf l + 1 else 0
theorem callOf_none (l : List UInt8) (h : ∀ n ∈ names, (l == n) = false) : callOf l = 0 := by
  unfold callOf
  rw [if_neg]
  intro hm
  have := h l hm
  simp at this

set_option maxRecDepth 100000 in
set_option maxHeartbeats 1000000 in
theorem call_a (s : ByteArray) (w : World) :
    Calls Tryd.prog 52 #[.string s] w fun e w' => e = .returned (.int .u8 (callOf s.toList)) ∧ w = w' := by
  go_enter Tryd.func52, Tryd.ntmps52
  go_wp2
  all_goals
    go_ret
    refine ⟨?_, rfl⟩
    first
    | (rename_i hl; rw [beq_iff_eq] at hl; rw [hl]; rfl)
    | (rw [callOf_none s.toList (by simp only [names, List.forall_mem_cons]; simp [*])]; rfl)

def nameAt (k : Nat) : ByteArray := ⟨(names.getD k []).toArray⟩
def strs (k : Nat) : Value := .string (nameAt k)
theorem nameAt_toList (k : Nat) : (nameAt k).toList = names.getD k [] := by
  rw [ByteArray.toList_eq]; rfl
theorem callOf_at (k : Nat) (hk : k < 22) (l : List UInt8) (h : l = names.getD k []) : callOf l = k + 1 := by
  subst h
  have h : ∀ k : Fin 22, callOf (names.getD k.1 []) = k.1 + 1 := by decide +kernel
  exact h ⟨k, hk⟩
set_option maxRecDepth 100000 in
set_option maxHeartbeats 1000000 in
theorem call_b (s : ByteArray) (w : World) :
    Calls Tryd.prog 36 #[.string s] w fun e w' => e = .returned (.int .u8 (callOf s.toList)) ∧ Below w.heap.size w w' := by
  go_enter Tryd.func36, Tryd.ntmps36
  go_wp2
  go_loopw [4] (fun i wr => ∃ k : Nat, k ≤ 22 ∧ i = .int .i64 k ∧ (∀ j < 22, wr.cell? ⟨w.heap.size, j, none⟩ = some (.string (nameAt j))) ∧ Below w.heap.size w wr ∧ ∀ j < k, (s.toList == names.getD j []) = false) (fun i _ => 22 - (intOf i).toNat)
  case atStart =>
    refine ⟨0, by omega, rfl, ?_, (Below.refl _ _).alloc (Nat.le_refl _) _, fun j hj => by omega⟩
    intro j hj
    rw [World.cell?_alloc_new]
    have h : ∀ j : Fin 22, (((List.range 22).map strs).toArray)[j.1]? = some (.string (nameAt j.1)) := fun j => by simp [strs]
    exact h ⟨j, hj⟩
  case round =>
    obtain ⟨k, hk, rfl, hcell, hb, hno⟩ := hrel
    have Hno := Lib.hid hno
    clear hno
    by_cases hlt : k < 22
    · have hc := hcell k hlt
      have Hcell := Lib.hid hcell
      clear hcell
      go_wp2
      · go_ret
        have h : ((nameAt k).toList == s.toList) = true := by assumption
        refine ⟨?_, hb⟩
        rw [callOf_at k hlt s.toList (by rw [beq_iff_eq] at h; rw [← h, nameAt_toList])]
        show Ending.returned (.int .u8 ((k : Int) + 1)) = .returned (.int .u8 ((k + 1 : Nat) : Int))
        rw [Int.natCast_add]; rfl
      · go_roundw
        case rel =>
          have h : ((nameAt k).toList == s.toList) = false := by assumption
          refine ⟨k + 1, by omega, by go_num, Hcell.out, hb, fun j hj => ?_⟩
          by_cases hjk : j = k
          · subst hjk
            rw [← nameAt_toList]
            rw [beq_eq_false_iff_ne] at h ⊢
            exact fun e => h e.symm
          · exact Hno.out j (by omega)
        case measure => simp [intOf]; omega
    · have hk22 : 22 ≤ k := by omega
      clear hcell
      go_wp2
      go_ret
      refine ⟨?_, hb⟩
      rw [callOf_none s.toList (fun n hn => ?_)]
      · rfl
      · obtain ⟨j, hj, rfl⟩ := List.getElem_of_mem hn
        have := Hno.out j (by have : names.length = 22 := rfl; omega)
        rwa [List.getD_eq_getElem?_getD, List.getElem?_eq_getElem hj] at this
end Go.Proofs.YthcoelkpiflfeaaDoor.TreeCallsW
