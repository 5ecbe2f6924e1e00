/- The contracts of New and Tick, of the program and of the chapter. -/
import Derived.Test.YtflaikhkddjfjaaCloA
namespace Go.Proofs.Ytflaikhkddjfjaa
open Go.RowKit
set_option linter.unusedVariables false
set_option linter.unusedSimpArgs false

def newOk (n : Int) : Bool := decide (1 ≤ n ∧ n ≤ 64)
def newL (n : Int) : List Int := if newOk n then List.replicate n.toNat 0 else []
def newE (n : Int) : Int := if newOk n then 0 else 2
def Owned (w : World) (B : Nat) (A : Option Addr) (cap : Nat) (l : List Int) : Prop := w.ownsRow B 3 1 (.slice A l.length cap) l.length (ints l)
theorem Owned.nil (w : World) (B : Nat) : Owned w B none 0 [] := ⟨rfl, .inl ⟨rfl, rfl⟩⟩
theorem Owned.reads {w : World} {B : Nat} {A : Option Addr} {cap : Nat} {l : List Int} (h : Owned w B A cap l) : Rd w w.heap.size A l := Reads.of_own h
theorem toList_replicate_ints (n : Nat) : (madeCells #[Value.int .i64 0] n).toList = ints (List.replicate n 0) := by
  apply List.ext_getElem
  · simp [madeCells, ints]
  · intro i h1 h2
    simp [madeCells, ints, Nat.mod_one]
theorem Owned.made (w : World) (n : Nat) (h : n ≤ maxLen) : Owned (w.alloc (.cells (madeCells #[Value.int .i64 0] n) 3)) w.heap.size (some ⟨w.heap.size, 0, none⟩) n (List.replicate n 0) := by
  refine ⟨by simp [ints], .inr ⟨w.heap.size, n, madeCells #[Value.int .i64 0] n, by simp, Nat.le_refl _, heap_alloc_new w _, by simp, h, by simp [size_madeCells], ?_⟩⟩
  rw [toList_replicate_ints]
  simp [ints]

theorem int_info : (Try.prog.info? 3).map (fun i => (i.zero, i.size, i.bytes)) = some (some (.int .i64 0), 1, 8) := by kernel_rfl

set_option maxRecDepth 100000 in
set_option maxHeartbeats 1000000 in
theorem new_a (n : Int) (w : World) :
    Calls Try.prog 45 #[.int .i64 n] w fun e w' => ∃ A cap, e = .returned (.tuple #[.slice A (newL n).length cap, .int .i64 (newE n)]) ∧ Owned w' w.heap.size A cap (newL n) ∧ Below w.heap.size w w' := by
  by_cases h : 1 ≤ n ∧ n ≤ 64
  · obtain ⟨h1, h2⟩ := h
    obtain ⟨m, rfl⟩ := Int.eq_ofNat_of_zero_le (show 0 ≤ n by omega)
    have hm : m ≤ 64 := by omega
    have hok : newOk (m : Int) = true := by simp [newOk]; omega
    have hL : newL (m : Int) = List.replicate m 0 := by simp [newL, hok]
    have hE : newE (m : Int) = 0 := by simp [newE, hok]
    have hmk := fun W => run_make_row' (P := Try.prog) 30 3 (.int .i64 0) 8 Try.underlying30 int_info rfl .i64 .i64 m (by omega) (by omega) W
    rw [hL, hE]
    clear hok hL hE
    go_enter Try.func45, Try.ntmps45
    go_wp2
    go_ret2
    exact ⟨_, _, by simp, Owned.made _ _ (by unfold maxLen; omega), (Below.refl _ _).alloc (Nat.le_refl _) _⟩
  · have hok : newOk n = false := by simp [newOk]; omega
    have hL : newL n = [] := by simp [newL, hok]
    have hE : newE n = 2 := by simp [newE, hok]
    rw [hL, hE]
    clear hok hL hE
    by_cases h1 : n < 1
    · go_enter Try.func45, Try.ntmps45
      go_wp2
      go_ret2
      exact ⟨_, _, rfl, Owned.nil _ _, Below.refl _ _⟩
    · have h2 : 64 < n := by omega
      have h3 : 1 ≤ n := by omega
      clear h
      go_enter Try.func45, Try.ntmps45
      go_wp2
      go_ret2
      exact ⟨_, _, rfl, Owned.nil _ _, Below.refl _ _⟩

end Go.Proofs.Ytflaikhkddjfjaa
