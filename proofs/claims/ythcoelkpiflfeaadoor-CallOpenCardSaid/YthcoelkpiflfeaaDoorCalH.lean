/- Whether a call decides: the program, the document. -/
import Derived.Test.YthcoelkpiflfeaaDoorRows
import Derived.Test.YthcoelkpiflfeaaDoorCalC
namespace Go.Proofs.YthcoelkpiflfeaaDoor
open Go Go.RowKit Go.Lib
set_option linter.unusedVariables false
set_option linter.unusedSimpArgs false
namespace Cal
set_option maxRecDepth 100000 in
set_option maxHeartbeats 8000000 in
theorem Decides_a_0 (k co pe tg va sz ro op cl ky : Int) (ra : Option Addr) (rn rc : Nat) (w : World) :
    Calls Tryd.prog 15 #[.agg #[.int .u8 k, .int .i64 co, .int .i64 pe, .int .i64 tg, .int .i64 va, .int .i64 sz, .int .i64 ro, .int .u8 op, .slice ra rn rc, .int .i64 cl, .int .i64 ky]] w fun e w' => e = .returned (.bool (decide (k = 10 ∨ k = 11 ∨ k = 12 ∨ k = 14) || (decide (k = 6 ∨ k = 7 ∨ k = 13) && decide (pe = -1)))) ∧ Below w.heap.size w w' := by
  have HB := hide ((Below.refl w.heap.size w).alloc (Nat.le_refl _) (.cells #[.int .u8 k, .int .i64 co, .int .i64 pe, .int .i64 tg, .int .i64 va, .int .i64 sz, .int .i64 ro, .int .u8 op, .slice ra rn rc, .int .i64 cl, .int .i64 ky] 24))
  have hc : (k = 6 ∨ k = 7 ∨ k = 13) ∨ (k = 10 ∨ k = 11 ∨ k = 12 ∨ k = 14) ∨ (¬ k = 6 ∧ ¬ k = 7 ∧ ¬ k = 13 ∧ ¬ k = 10 ∧ ¬ k = 11 ∧ ¬ k = 12 ∧ ¬ k = 14) := by omega
  rcases hc with hc | hc | ⟨h6, h7, h13, h10, h11, h12, h14⟩
  · by_cases hp : pe = -1
    · have E : (decide (k = 10 ∨ k = 11 ∨ k = 12 ∨ k = 14) || (decide (k = 6 ∨ k = 7 ∨ k = 13) && decide (pe = -1))) = true := by simp [hp, hc]
      rw [E]
      have ep : (pe == -1) = true := by simpa using hp
      have HP := hide hp
      clear E hp
      rcases hc with rfl | rfl | rfl
      all_goals
        go_enter Tryd.func15, Tryd.ntmps15
        go_wp2_with fail
        go_ret
        exact ⟨rfl, HB.out⟩
    · have E : (decide (k = 10 ∨ k = 11 ∨ k = 12 ∨ k = 14) || (decide (k = 6 ∨ k = 7 ∨ k = 13) && decide (pe = -1))) = false := by
        rw [decide_eq_false hp, Bool.and_false, Bool.or_false]
        exact decide_eq_false (by omega)
      rw [E]
      have ep : (pe == -1) = false := by simpa using hp
      have HP := hide hp
      clear E hp
      rcases hc with rfl | rfl | rfl
      all_goals
        go_enter Tryd.func15, Tryd.ntmps15
        go_wp2_with fail
        go_ret
        exact ⟨rfl, HB.out⟩
  · have E : (decide (k = 10 ∨ k = 11 ∨ k = 12 ∨ k = 14) || (decide (k = 6 ∨ k = 7 ∨ k = 13) && decide (pe = -1))) = true := by simp [hc]
    rw [E]
    clear E
    rcases hc with rfl | rfl | rfl | rfl
    all_goals
      go_enter Tryd.func15, Tryd.ntmps15
      go_wp2_with fail
      go_ret
      exact ⟨rfl, HB.out⟩
  · have E : (decide (k = 10 ∨ k = 11 ∨ k = 12 ∨ k = 14) || (decide (k = 6 ∨ k = 7 ∨ k = 13) && decide (pe = -1))) = false := by
      rw [decide_eq_false (show ¬ (k = 10 ∨ k = 11 ∨ k = 12 ∨ k = 14) by omega), decide_eq_false (show ¬ (k = 6 ∨ k = 7 ∨ k = 13) by omega)]
      rfl
    rw [E]
    clear E
    go_enter Tryd.func15, Tryd.ntmps15
    go_wp2_with fail
    go_ret
    exact ⟨rfl, HB.out⟩
theorem Decides_a (c : Cl) (ra : Option Addr) (rc : Nat) (w : World) :
    Calls Tryd.prog 15 #[.agg (c.A ra rc)] w fun e w' => e = .returned (.bool (decC c)) ∧ Below w.heap.size w w' :=
  Decides_a_0 c.k c.co c.pe c.tg c.va c.sz c.ro c.op c.cl c.ky ra c.rq.length rc w
end Cal
end Go.Proofs.YthcoelkpiflfeaaDoor
