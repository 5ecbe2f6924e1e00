/- As many requests as a kind may have: the document. -/
import Derived.Test.YthcoelkpiflfeaaDoorRows
import Derived.Test.YthcoelkpiflfeaaDoorCalL
import Derived.Test.YthcoelkpiflfeaaDoorCalO
import Derived.Test.YthcoelkpiflfeaaDoorCalI
namespace Go.Proofs.YthcoelkpiflfeaaDoor
open Go Go.RowKit Go.Lib Go.Proofs.YthcoelkpiflfeaaDoor.Grp
set_option linter.unusedVariables false
set_option linter.unusedSimpArgs false
namespace Cal
set_option maxRecDepth 100000 in
set_option maxHeartbeats 8000000 in
theorem many_0 (k co pe tg va sz ro op cl ky : Int) (ra : Option Addr) (n rc : Nat) (w : World) (hk : kindR k) (b : Bool) (hb : b = true ↔ 1 ≤ n ∧ (n : Int) ≤ mostR k) :
    Calls Tryd.prog 28 #[.agg #[.int .u8 k, .int .i64 co, .int .i64 pe, .int .i64 tg, .int .i64 va, .int .i64 sz, .int .i64 ro, .int .u8 op, .slice ra n rc, .int .i64 cl, .int .i64 ky]] w fun e w' => e = .returned (.bool b) ∧ Below w.heap.size w w' := by
  have HB := hide ((Below.refl w.heap.size w).alloc (Nat.le_refl _) (.cells #[.int .u8 k, .int .i64 co, .int .i64 pe, .int .i64 tg, .int .i64 va, .int .i64 sz, .int .i64 ro, .int .u8 op, .slice ra n rc, .int .i64 cl, .int .i64 ky] 24))
  have hc : (k = 8 ∨ k = 11) ∨ (k = 9 ∨ k = 10 ∨ k = 12) := by unfold kindR at hk; omega
  rcases hc with hc | hc
  · have em : mostR k = 1 := by unfold mostR; rw [if_pos hc]
    rw [em] at hb
    by_cases h1 : n = 1
    · have R : b = true := hb.2 ⟨by omega, by omega⟩
      subst R
      have g1 : ((n : Int) == 1) = true := by
        have : (n : Int) = 1 := by omega
        simpa using this
      have HH := hide h1
      clear hb h1 hk em
      rcases hc with rfl | rfl
      all_goals
        go_enter Tryd.func28, Tryd.ntmps28
        go_wp2_with fail
        go_ret
        exact ⟨rfl, HB.out⟩
    · have R : b = false := Bool.eq_false_iff.2 fun e => by have := hb.1 e; omega
      subst R
      have g0 : ¬ (n : Int) = 1 := by omega
      have g1 : ((n : Int) == 1) = false := by simpa using g0
      have HH := hide h1
      clear hb h1 hk em g0
      rcases hc with rfl | rfl
      all_goals
        go_enter Tryd.func28, Tryd.ntmps28
        go_wp2_with fail
        go_ret
        exact ⟨rfl, HB.out⟩
  · have em : mostR k = 8 := by unfold mostR; rw [if_neg (by omega)]
    rw [em] at hb
    by_cases h1 : 1 ≤ n
    · have g1 : (1 : Int) ≤ (n : Int) := by omega
      by_cases h2 : n ≤ 8
      · have R : b = true := hb.2 ⟨h1, by omega⟩
        subst R
        have g2 : (n : Int) ≤ 8 := by omega
        have HH := hide h1
        have HH2 := hide h2
        clear hb h1 h2 hk em
        rcases hc with rfl | rfl | rfl
        all_goals
          go_enter Tryd.func28, Tryd.ntmps28
          go_wp2_with fail
          go_ret
          exact ⟨rfl, HB.out⟩
      · have R : b = false := Bool.eq_false_iff.2 fun e => by have := hb.1 e; omega
        subst R
        have g2 : (8 : Int) < (n : Int) := by omega
        have D : Hid (decide ((n : Int) ≤ 8) = false) := hide (decide_eq_false (by omega))
        have HH := hide h1
        have HH2 := hide h2
        clear hb h1 h2 hk em
        rcases hc with rfl | rfl | rfl
        all_goals
          go_enter Tryd.func28, Tryd.ntmps28
          go_wp2_with fail
          go_ret
          first
            | exact ⟨rfl, HB.out⟩
            | exact ⟨by show Ending.returned (.bool (decide ((n : Int) ≤ 8))) = _; rw [D.out], HB.out⟩
    · have R : b = false := Bool.eq_false_iff.2 fun e => by have := hb.1 e; omega
      subst R
      have g1 : (n : Int) < 1 := by omega
      have HH := hide h1
      clear hb h1 hk em
      rcases hc with rfl | rfl | rfl
      all_goals
        go_enter Tryd.func28, Tryd.ntmps28
        go_wp2_with fail
        go_ret
        exact ⟨rfl, HB.out⟩
end Cal
end Go.Proofs.YthcoelkpiflfeaaDoor
