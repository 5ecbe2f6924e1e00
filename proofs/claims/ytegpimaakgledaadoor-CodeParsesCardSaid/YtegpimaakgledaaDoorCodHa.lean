/- The document's fits, ways. -/
import Derived.Test.YtegpimaakgledaaDoorRows
import Derived.Test.YtegpimaakgledaaDoorCodX
import Derived.Test.YtegpimaakgledaaDoorCodZ
namespace Go.Proofs.YtegpimaakgledaaDoor
open Go Go.RowKit
set_option linter.unusedVariables false
set_option linter.unusedSimpArgs false
namespace Cod
theorem mayN_out {len v a : Int} {o : Nat} {n : Int} (h : ¬ (1 ≤ o ∧ o ≤ 29)) : mayN len v a ⟨(o : Int), n⟩ = false := by
  unfold mayN
  by_cases h1 : 1 ≤ o
  · rw [decide_eq_false (show ¬ (o : Int) ≤ 29 by omega)]; simp
  · rw [decide_eq_false (show ¬ 1 ≤ (o : Int) by omega)]; rfl
theorem mayN_rest {len v a : Int} {o : Nat} {n : Int} (h1 : 1 ≤ o) (h2 : o ≤ 29) (hk : numK o = 0) : mayN len v a ⟨(o : Int), n⟩ = decide (0 ≤ n ∧ n < 1) := by
  unfold mayN
  rw [decide_eq_true (show 1 ≤ (o : Int) by omega), decide_eq_true (show (o : Int) ≤ 29 by omega), hk]
  rw [if_neg (by decide), if_neg (by decide), if_neg (by decide), if_neg (by decide), if_neg (by decide), if_neg (by decide), Bool.and_true, Bool.true_and]
  apply decide_eq_decide.2
  show n = 0 ↔ _
  omega
theorem numK_rest {o : Nat} (h1 : 1 ≤ o) (h2 : o ≤ 29) (n1 : o ≠ 1) (n2 : o ≠ 2) (n3 : o ≠ 3) (n4 : o ≠ 4) (n5 : o ≠ 5) (n7 : o ≠ 7) (n22 : o ≠ 22) (n23 : o ≠ 23) (n24 : o ≠ 24) (n28 : o ≠ 28) : numK o = 0 := by
  have hc : o = 6 ∨ o = 8 ∨ o = 9 ∨ o = 10 ∨ o = 11 ∨ o = 12 ∨ o = 13 ∨ o = 14 ∨ o = 15 ∨ o = 16 ∨ o = 17 ∨ o = 18 ∨ o = 19 ∨ o = 20 ∨ o = 21 ∨ o = 25 ∨ o = 26 ∨ o = 27 ∨ o = 29 := by omega
  rcases hc with rfl | rfl | rfl | rfl | rfl | rfl | rfl | rfl | rfl | rfl | rfl | rfl | rfl | rfl | rfl | rfl | rfl | rfl | rfl <;> rfl
set_option maxRecDepth 100000 in
set_option maxHeartbeats 16000000 in
theorem fits_b (C : Option Addr) (c cc : Nat) (vars : Int) (A : Option Addr) (m ca : Nat) (o : Nat) (n : Int) (w : World) :
    Calls Tryd.prog 40 #[PrV C c cc vars A m ca, In.val ⟨o, n⟩] w fun e w' => e = .returned (.bool (mayN c vars m ⟨o, n⟩)) ∧ Below w.heap.size w w' := by
  have hb1 := (Below.refl w.heap.size w).alloc (Nat.le_refl _) (.cells #[.slice C c cc, .int .i64 vars, .slice A m ca] 25)
  have k1 := Blk.new w 25 #[.slice C c cc, .int .i64 vars, .slice A m ca]
  have hs1 : (w.alloc (.cells #[.slice C c cc, .int .i64 vars, .slice A m ca] 25)).heap.size = w.heap.size + 1 := by simp
  have hb2 := hb1.alloc hb1.size (.cells #[.int .u8 (o : Int), .int .i64 n] 47)
  have k2 := k1.alloc (.cells #[.int .u8 (o : Int), .int .i64 n] 47)
  have i2 := Blk.new (w.alloc (.cells #[.slice C c cc, .int .i64 vars, .slice A m ca] 25)) 47 #[.int .u8 (o : Int), .int .i64 n]
  rw [hs1] at i2
  obtain ⟨w2, hw2⟩ : ∃ z, (w.alloc (.cells #[.slice C c cc, .int .i64 vars, .slice A m ca] 25)).alloc (.cells #[.int .u8 (o : Int), .int .i64 n] 47) = z := ⟨_, rfl⟩
  rw [hw2] at hb2 k2 i2
  have HWW := hide hw2
  have HB := hide hb2
  have p0 : w2.cell? ⟨w.heap.size, 0, none⟩ = some (.slice C c cc) := k2.cell 0
  have p1 : w2.cell? ⟨w.heap.size, 1, none⟩ = some (.int .i64 vars) := k2.cell 1
  have p2 : w2.cell? ⟨w.heap.size, 2, none⟩ = some (.slice A m ca) := k2.cell 2
  have q0 : w2.cell? ⟨w.heap.size + 1, 0, none⟩ = some (.int .u8 (o : Int)) := i2.cell 0
  have q1 : w2.cell? ⟨w.heap.size + 1, 1, none⟩ = some (.int .i64 n) := i2.cell 1
  unfold PrV In.val
  dsimp only
  clear hb1 k1 hs1 hb2 k2 i2 hw2
  by_cases e1 : o = 1
  · have b1 : ((o : Int) == 1) = true := by simp [e1]
    have ME : mayN c vars m ⟨(o : Int), n⟩ = true := by subst e1; rfl
    clear e1
    rw [ME]
    clear ME
    go_enter Tryd.func40, Tryd.ntmps40
    go_upto_region 1 with (fail)
    rw [HWW.out]
    go_wp2_with fail
    go_ret
    exact ⟨rfl, HB.out⟩
  have b1 : ((o : Int) == 1) = false := by rw [beq_eq_false_iff_ne]; omega
  by_cases e28 : o = 28
  · have b28 : ((o : Int) == 28) = true := by simp [e28]
    have b2 : ((o : Int) == 2) = false := by rw [beq_eq_false_iff_ne]; omega
    have b3 : ((o : Int) == 3) = false := by rw [beq_eq_false_iff_ne]; omega
    have b4 : ((o : Int) == 4) = false := by rw [beq_eq_false_iff_ne]; omega
    have b5 : ((o : Int) == 5) = false := by rw [beq_eq_false_iff_ne]; omega
    have b7 : ((o : Int) == 7) = false := by rw [beq_eq_false_iff_ne]; omega
    have b22 : ((o : Int) == 22) = false := by rw [beq_eq_false_iff_ne]; omega
    have b23 : ((o : Int) == 23) = false := by rw [beq_eq_false_iff_ne]; omega
    have b24 : ((o : Int) == 24) = false := by rw [beq_eq_false_iff_ne]; omega
    have ME : mayN c vars m ⟨(o : Int), n⟩ = mayCl n := by subst e28; rfl
    clear e28
    rw [ME]
    have CB := hide (fun w => call_b n w)
    unfold callV at CB
    cases hm : mayCl n with
    | true =>
      rw [hm, if_pos rfl] at CB
      clear ME hm
      go_enter Tryd.func40, Tryd.ntmps40
      go_upto_region 1 with (fail)
      rw [HWW.out]
      go_wp2_with fail
      refine (CB.out _).mono ?_
      rintro e w' ⟨rfl, rfl⟩
      go_wp2_with fail
      go_ret
      exact ⟨rfl, HB.out⟩
    | false =>
      rw [hm, if_neg (by decide)] at CB
      clear ME hm
      go_enter Tryd.func40, Tryd.ntmps40
      go_upto_region 1 with (fail)
      rw [HWW.out]
      go_wp2_with fail
      refine (CB.out _).mono ?_
      rintro e w' ⟨rfl, rfl⟩
      go_wp2_with fail
      go_ret
      exact ⟨rfl, HB.out⟩
  have b28 : ((o : Int) == 28) = false := by rw [beq_eq_false_iff_ne]; omega
  by_cases h1o : 1 ≤ o
  rotate_left
  · have HE := hide (mayN_out (len := c) (v := vars) (a := m) (n := n) (show ¬ (1 ≤ o ∧ o ≤ 29) by omega))
    have b2 : ((o : Int) == 2) = false := by rw [beq_eq_false_iff_ne]; omega
    have b3 : ((o : Int) == 3) = false := by rw [beq_eq_false_iff_ne]; omega
    have b4 : ((o : Int) == 4) = false := by rw [beq_eq_false_iff_ne]; omega
    have b5 : ((o : Int) == 5) = false := by rw [beq_eq_false_iff_ne]; omega
    have b7 : ((o : Int) == 7) = false := by rw [beq_eq_false_iff_ne]; omega
    have b22 : ((o : Int) == 22) = false := by rw [beq_eq_false_iff_ne]; omega
    have b23 : ((o : Int) == 23) = false := by rw [beq_eq_false_iff_ne]; omega
    have b24 : ((o : Int) == 24) = false := by rw [beq_eq_false_iff_ne]; omega
    have g1 : ¬ 1 ≤ (o : Int) := by omega
    go_enter Tryd.func40, Tryd.ntmps40
    go_upto_region 1 with (fail)
    rw [HWW.out]
    go_wp2_with fail
    go_ret
    exact ⟨by rw [HE.out]; rfl, HB.out⟩
  by_cases h2o : o ≤ 29
  rotate_left
  · have HE := hide (mayN_out (len := c) (v := vars) (a := m) (n := n) (show ¬ (1 ≤ o ∧ o ≤ 29) by omega))
    have b2 : ((o : Int) == 2) = false := by rw [beq_eq_false_iff_ne]; omega
    have b3 : ((o : Int) == 3) = false := by rw [beq_eq_false_iff_ne]; omega
    have b4 : ((o : Int) == 4) = false := by rw [beq_eq_false_iff_ne]; omega
    have b5 : ((o : Int) == 5) = false := by rw [beq_eq_false_iff_ne]; omega
    have b7 : ((o : Int) == 7) = false := by rw [beq_eq_false_iff_ne]; omega
    have b22 : ((o : Int) == 22) = false := by rw [beq_eq_false_iff_ne]; omega
    have b23 : ((o : Int) == 23) = false := by rw [beq_eq_false_iff_ne]; omega
    have b24 : ((o : Int) == 24) = false := by rw [beq_eq_false_iff_ne]; omega
    have g1 : 1 ≤ (o : Int) := by omega
    have g2 : ¬ (o : Int) ≤ 29 := by omega
    go_enter Tryd.func40, Tryd.ntmps40
    go_upto_region 1 with (fail)
    rw [HWW.out]
    go_wp2_with fail
    go_ret
    exact ⟨by rw [HE.out]; rfl, HB.out⟩
  by_cases e2 : o = 2
  · have b2 : ((o : Int) == 2) = true := by simp [e2]
    have ME : mayN c vars m ⟨(o : Int), n⟩ = decide (0 ≤ n ∧ n < vars) := by subst e2; rfl
    have g1 : 1 ≤ (o : Int) := by omega
    have g2 : (o : Int) ≤ 29 := by omega
    clear h1o h2o e2
    by_cases h0 : 0 ≤ n
    · by_cases h1 : n < vars
      · have HE := hide (ME.trans (decide_eq_true ⟨h0, h1⟩))
        clear ME
        go_enter Tryd.func40, Tryd.ntmps40
        go_upto_region 1 with (fail)
        rw [HWW.out]
        go_wp2_with fail
        go_ret
        exact ⟨by rw [HE.out]; rfl, HB.out⟩
      · have HE := hide (ME.trans (decide_eq_false (fun h => h1 h.2)))
        clear ME
        go_enter Tryd.func40, Tryd.ntmps40
        go_upto_region 1 with (fail)
        rw [HWW.out]
        go_wp2_with fail
        go_ret
        exact ⟨by rw [HE.out]; rfl, HB.out⟩
    · have HE := hide (ME.trans (decide_eq_false (fun h => h0 h.1)))
      clear ME
      go_enter Tryd.func40, Tryd.ntmps40
      go_upto_region 1 with (fail)
      rw [HWW.out]
      go_wp2_with fail
      go_ret
      exact ⟨by rw [HE.out]; rfl, HB.out⟩
  have b2 : ((o : Int) == 2) = false := by rw [beq_eq_false_iff_ne]; omega
  by_cases e3 : o = 3
  · have b3 : ((o : Int) == 3) = true := by simp [e3]
    have ME : mayN c vars m ⟨(o : Int), n⟩ = decide (0 ≤ n ∧ n < vars) := by subst e3; rfl
    have g1 : 1 ≤ (o : Int) := by omega
    have g2 : (o : Int) ≤ 29 := by omega
    clear h1o h2o e3
    by_cases h0 : 0 ≤ n
    · by_cases h1 : n < vars
      · have HE := hide (ME.trans (decide_eq_true ⟨h0, h1⟩))
        clear ME
        go_enter Tryd.func40, Tryd.ntmps40
        go_upto_region 1 with (fail)
        rw [HWW.out]
        go_wp2_with fail
        go_ret
        exact ⟨by rw [HE.out]; rfl, HB.out⟩
      · have HE := hide (ME.trans (decide_eq_false (fun h => h1 h.2)))
        clear ME
        go_enter Tryd.func40, Tryd.ntmps40
        go_upto_region 1 with (fail)
        rw [HWW.out]
        go_wp2_with fail
        go_ret
        exact ⟨by rw [HE.out]; rfl, HB.out⟩
    · have HE := hide (ME.trans (decide_eq_false (fun h => h0 h.1)))
      clear ME
      go_enter Tryd.func40, Tryd.ntmps40
      go_upto_region 1 with (fail)
      rw [HWW.out]
      go_wp2_with fail
      go_ret
      exact ⟨by rw [HE.out]; rfl, HB.out⟩
  have b3 : ((o : Int) == 3) = false := by rw [beq_eq_false_iff_ne]; omega
  by_cases e4 : o = 4
  · have b4 : ((o : Int) == 4) = true := by simp [e4]
    have ME : mayN c vars m ⟨(o : Int), n⟩ = decide (0 ≤ n ∧ n < (m : Int)) := by subst e4; rfl
    have g1 : 1 ≤ (o : Int) := by omega
    have g2 : (o : Int) ≤ 29 := by omega
    clear h1o h2o e4
    by_cases h0 : 0 ≤ n
    · by_cases h1 : n < (m : Int)
      · have HE := hide (ME.trans (decide_eq_true ⟨h0, h1⟩))
        clear ME
        go_enter Tryd.func40, Tryd.ntmps40
        go_upto_region 1 with (fail)
        rw [HWW.out]
        go_wp2_with fail
        go_ret
        exact ⟨by rw [HE.out]; rfl, HB.out⟩
      · have HE := hide (ME.trans (decide_eq_false (fun h => h1 h.2)))
        clear ME
        go_enter Tryd.func40, Tryd.ntmps40
        go_upto_region 1 with (fail)
        rw [HWW.out]
        go_wp2_with fail
        go_ret
        exact ⟨by rw [HE.out]; rfl, HB.out⟩
    · have HE := hide (ME.trans (decide_eq_false (fun h => h0 h.1)))
      clear ME
      go_enter Tryd.func40, Tryd.ntmps40
      go_upto_region 1 with (fail)
      rw [HWW.out]
      go_wp2_with fail
      go_ret
      exact ⟨by rw [HE.out]; rfl, HB.out⟩
  have b4 : ((o : Int) == 4) = false := by rw [beq_eq_false_iff_ne]; omega
  by_cases e5 : o = 5
  · have b5 : ((o : Int) == 5) = true := by simp [e5]
    have ME : mayN c vars m ⟨(o : Int), n⟩ = decide (0 ≤ n ∧ n < (m : Int)) := by subst e5; rfl
    have g1 : 1 ≤ (o : Int) := by omega
    have g2 : (o : Int) ≤ 29 := by omega
    clear h1o h2o e5
    by_cases h0 : 0 ≤ n
    · by_cases h1 : n < (m : Int)
      · have HE := hide (ME.trans (decide_eq_true ⟨h0, h1⟩))
        clear ME
        go_enter Tryd.func40, Tryd.ntmps40
        go_upto_region 1 with (fail)
        rw [HWW.out]
        go_wp2_with fail
        go_ret
        exact ⟨by rw [HE.out]; rfl, HB.out⟩
      · have HE := hide (ME.trans (decide_eq_false (fun h => h1 h.2)))
        clear ME
        go_enter Tryd.func40, Tryd.ntmps40
        go_upto_region 1 with (fail)
        rw [HWW.out]
        go_wp2_with fail
        go_ret
        exact ⟨by rw [HE.out]; rfl, HB.out⟩
    · have HE := hide (ME.trans (decide_eq_false (fun h => h0 h.1)))
      clear ME
      go_enter Tryd.func40, Tryd.ntmps40
      go_upto_region 1 with (fail)
      rw [HWW.out]
      go_wp2_with fail
      go_ret
      exact ⟨by rw [HE.out]; rfl, HB.out⟩
  have b5 : ((o : Int) == 5) = false := by rw [beq_eq_false_iff_ne]; omega
  by_cases e7 : o = 7
  · have b7 : ((o : Int) == 7) = true := by simp [e7]
    have ME : mayN c vars m ⟨(o : Int), n⟩ = decide (0 ≤ n ∧ n < 10) := by subst e7; rfl
    have g1 : 1 ≤ (o : Int) := by omega
    have g2 : (o : Int) ≤ 29 := by omega
    clear h1o h2o e7
    by_cases h0 : 0 ≤ n
    · by_cases h1 : n < 10
      · have HE := hide (ME.trans (decide_eq_true ⟨h0, h1⟩))
        clear ME
        go_enter Tryd.func40, Tryd.ntmps40
        go_upto_region 1 with (fail)
        rw [HWW.out]
        go_wp2_with fail
        go_ret
        exact ⟨by rw [HE.out]; rfl, HB.out⟩
      · have HE := hide (ME.trans (decide_eq_false (fun h => h1 h.2)))
        clear ME
        go_enter Tryd.func40, Tryd.ntmps40
        go_upto_region 1 with (fail)
        rw [HWW.out]
        go_wp2_with fail
        go_ret
        exact ⟨by rw [HE.out]; rfl, HB.out⟩
    · have HE := hide (ME.trans (decide_eq_false (fun h => h0 h.1)))
      clear ME
      go_enter Tryd.func40, Tryd.ntmps40
      go_upto_region 1 with (fail)
      rw [HWW.out]
      go_wp2_with fail
      go_ret
      exact ⟨by rw [HE.out]; rfl, HB.out⟩
  have b7 : ((o : Int) == 7) = false := by rw [beq_eq_false_iff_ne]; omega
  by_cases e22 : o = 22
  · have b22 : ((o : Int) == 22) = true := by simp [e22]
    have ME : mayN c vars m ⟨(o : Int), n⟩ = decide (0 ≤ n ∧ n < (c : Int)) := by subst e22; rfl
    have g1 : 1 ≤ (o : Int) := by omega
    have g2 : (o : Int) ≤ 29 := by omega
    clear h1o h2o e22
    by_cases h0 : 0 ≤ n
    · by_cases h1 : n < (c : Int)
      · have HE := hide (ME.trans (decide_eq_true ⟨h0, h1⟩))
        clear ME
        go_enter Tryd.func40, Tryd.ntmps40
        go_upto_region 1 with (fail)
        rw [HWW.out]
        go_wp2_with fail
        go_ret
        exact ⟨by rw [HE.out]; rfl, HB.out⟩
      · have HE := hide (ME.trans (decide_eq_false (fun h => h1 h.2)))
        clear ME
        go_enter Tryd.func40, Tryd.ntmps40
        go_upto_region 1 with (fail)
        rw [HWW.out]
        go_wp2_with fail
        go_ret
        exact ⟨by rw [HE.out]; rfl, HB.out⟩
    · have HE := hide (ME.trans (decide_eq_false (fun h => h0 h.1)))
      clear ME
      go_enter Tryd.func40, Tryd.ntmps40
      go_upto_region 1 with (fail)
      rw [HWW.out]
      go_wp2_with fail
      go_ret
      exact ⟨by rw [HE.out]; rfl, HB.out⟩
  have b22 : ((o : Int) == 22) = false := by rw [beq_eq_false_iff_ne]; omega
  by_cases e23 : o = 23
  · have b23 : ((o : Int) == 23) = true := by simp [e23]
    have ME : mayN c vars m ⟨(o : Int), n⟩ = decide (0 ≤ n ∧ n < (c : Int)) := by subst e23; rfl
    have g1 : 1 ≤ (o : Int) := by omega
    have g2 : (o : Int) ≤ 29 := by omega
    clear h1o h2o e23
    by_cases h0 : 0 ≤ n
    · by_cases h1 : n < (c : Int)
      · have HE := hide (ME.trans (decide_eq_true ⟨h0, h1⟩))
        clear ME
        go_enter Tryd.func40, Tryd.ntmps40
        go_upto_region 1 with (fail)
        rw [HWW.out]
        go_wp2_with fail
        go_ret
        exact ⟨by rw [HE.out]; rfl, HB.out⟩
      · have HE := hide (ME.trans (decide_eq_false (fun h => h1 h.2)))
        clear ME
        go_enter Tryd.func40, Tryd.ntmps40
        go_upto_region 1 with (fail)
        rw [HWW.out]
        go_wp2_with fail
        go_ret
        exact ⟨by rw [HE.out]; rfl, HB.out⟩
    · have HE := hide (ME.trans (decide_eq_false (fun h => h0 h.1)))
      clear ME
      go_enter Tryd.func40, Tryd.ntmps40
      go_upto_region 1 with (fail)
      rw [HWW.out]
      go_wp2_with fail
      go_ret
      exact ⟨by rw [HE.out]; rfl, HB.out⟩
  have b23 : ((o : Int) == 23) = false := by rw [beq_eq_false_iff_ne]; omega
  by_cases e24 : o = 24
  · have b24 : ((o : Int) == 24) = true := by simp [e24]
    have ME : mayN c vars m ⟨(o : Int), n⟩ = decide (0 ≤ n ∧ n < (c : Int)) := by subst e24; rfl
    have g1 : 1 ≤ (o : Int) := by omega
    have g2 : (o : Int) ≤ 29 := by omega
    clear h1o h2o e24
    by_cases h0 : 0 ≤ n
    · by_cases h1 : n < (c : Int)
      · have HE := hide (ME.trans (decide_eq_true ⟨h0, h1⟩))
        clear ME
        go_enter Tryd.func40, Tryd.ntmps40
        go_upto_region 1 with (fail)
        rw [HWW.out]
        go_wp2_with fail
        go_ret
        exact ⟨by rw [HE.out]; rfl, HB.out⟩
      · have HE := hide (ME.trans (decide_eq_false (fun h => h1 h.2)))
        clear ME
        go_enter Tryd.func40, Tryd.ntmps40
        go_upto_region 1 with (fail)
        rw [HWW.out]
        go_wp2_with fail
        go_ret
        exact ⟨by rw [HE.out]; rfl, HB.out⟩
    · have HE := hide (ME.trans (decide_eq_false (fun h => h0 h.1)))
      clear ME
      go_enter Tryd.func40, Tryd.ntmps40
      go_upto_region 1 with (fail)
      rw [HWW.out]
      go_wp2_with fail
      go_ret
      exact ⟨by rw [HE.out]; rfl, HB.out⟩
  have b24 : ((o : Int) == 24) = false := by rw [beq_eq_false_iff_ne]; omega
  have ME := mayN_rest (len := c) (v := vars) (a := m) (n := n) h1o h2o (numK_rest h1o h2o e1 e2 e3 e4 e5 e7 e22 e23 e24 e28)
  have g1 : 1 ≤ (o : Int) := by omega
  have g2 : (o : Int) ≤ 29 := by omega
  by_cases h0 : 0 ≤ n
  · by_cases h1 : n < 1
    · have HE := hide (ME.trans (decide_eq_true ⟨h0, h1⟩))
      clear ME
      go_enter Tryd.func40, Tryd.ntmps40
      go_upto_region 1 with (fail)
      rw [HWW.out]
      go_wp2_with fail
      go_ret
      exact ⟨by rw [HE.out]; rfl, HB.out⟩
    · have HE := hide (ME.trans (decide_eq_false (fun h => h1 h.2)))
      clear ME
      go_enter Tryd.func40, Tryd.ntmps40
      go_upto_region 1 with (fail)
      rw [HWW.out]
      go_wp2_with fail
      go_ret
      exact ⟨by rw [HE.out]; rfl, HB.out⟩
  · have HE := hide (ME.trans (decide_eq_false (fun h => h0 h.1)))
    clear ME
    go_enter Tryd.func40, Tryd.ntmps40
    go_upto_region 1 with (fail)
    rw [HWW.out]
    go_wp2_with fail
    go_ret
    exact ⟨by rw [HE.out]; rfl, HB.out⟩
/-- Where it may go on, in the document's order. -/
def waysB (o : Nat) (n : Int) (a : Nat) : List Int :=
  if o = 29 then [] else if o = 22 then [n] else if o = 23 ∨ o = 24 then [(a : Int) + 1, n] else [(a : Int) + 1]
set_option maxRecDepth 100000 in
set_option maxHeartbeats 4000000 in
theorem ways_b (ad : Addr) (c cc : Nat) (vars : Int) (A : Option Addr) (m ca : Nat) (o : Nat) (n : Int) (a : Nat) (ha : a < c) (ha2 : a ≤ 100000) (w : World) (hl : ad.block < w.heap.size)
    (h0 : w.cell? (ad.add (a * 2)) = some (.int .u8 o)) (h1 : w.cell? ⟨(ad.add (a * 2)).block, (ad.add (a * 2)).off + 1, none⟩ = some (.int .i64 n)) :
    Calls Tryd.prog 24 #[PrV (some ad) c cc vars A m ca, .int .i64 a] w fun e w' => (∃ B, e = .returned (.slice B (waysB o n a).length (waysB o n a).length) ∧ ∀ j (hj : j < (waysB o n a).length), ∃ g, B = some ⟨g, 0, none⟩ ∧ w.heap.size ≤ g ∧ g < w'.heap.size ∧ w'.cell? ⟨g, j, none⟩ = some (.int .i64 ((waysB o n a)[j]))) ∧ Below w.heap.size w w' := by
  have hb1 := (Below.refl w.heap.size w).alloc (Nat.le_refl _) (.cells #[.slice (some ad) c cc, .int .i64 vars, .slice A m ca] 25)
  have k1 := Blk.new w 25 #[.slice (some ad) c cc, .int .i64 vars, .slice A m ca]
  have hs1 : (w.alloc (.cells #[.slice (some ad) c cc, .int .i64 vars, .slice A m ca] 25)).heap.size = w.heap.size + 1 := by simp
  obtain ⟨w1, hw1⟩ : ∃ z, w.alloc (.cells #[.slice (some ad) c cc, .int .i64 vars, .slice A m ca] 25) = z := ⟨_, rfl⟩
  rw [hw1] at hb1 k1 hs1
  have c0 := (hb1.cell (by rw [block_of_add]; exact hl)).trans h0
  have c1 := (hb1.cell (p := ⟨_, _, none⟩) (by show (ad.add (a * 2)).block < _; rw [block_of_add]; exact hl)).trans h1
  have p0 : w1.cell? ⟨w.heap.size, 0, none⟩ = some (.slice (some ad) c cc) := k1.cell 0
  have hb2 := hb1.alloc hb1.size (.cells #[.int .u8 (o : Int), .int .i64 n] 47)
  have i2 := Blk.new w1 47 #[.int .u8 (o : Int), .int .i64 n]
  have haI : (a : Int) < (c : Int) := by omega
  have s1 : IntKind.i64.wrap ((a : Int) + 1) = (a : Int) + 1 := by rw [IntKind.wrap_i64]; omega
  unfold PrV
  clear hb1 k1 h0 h1
  go_enter Tryd.func24, Tryd.ntmps24
  go_upto_region 2 with (fail)
  obtain ⟨w2, hw2⟩ : ∃ z, w1.alloc (.cells #[.int .u8 (o : Int), .int .i64 n] 47) = z := ⟨_, rfl⟩
  rw [hw2] at hb2 i2 ⊢
  obtain ⟨X, hX⟩ : ∃ X, w.heap.size + 1 = X := ⟨_, rfl⟩
  rw [hs1, hX] at i2
  rw [hX]
  have q0 : w2.cell? ⟨X, 0, none⟩ = some (.int .u8 (o : Int)) := i2.cell 0
  have q1 : w2.cell? ⟨X, 1, none⟩ = some (.int .i64 n) := i2.cell 1
  have HB := hide hb2
  have N1 := hide (fun x : Int => Blk.new w2 3 #[.int .i64 x])
  have N2 := hide (fun x y : Int => Blk.new w2 3 #[.int .i64 x, .int .i64 y])
  clear hw1 hw2 hX hb2 i2 c0 c1 p0 hs1
  by_cases h29 : o = 29
  · have b29 : ((o : Int) == 29) = true := by simp [h29]
    have E := hide (show waysB o n a = [] from if_pos h29)
    clear h29
    go_wp2_with fail
    go_ret
    exact ⟨⟨none, by rw [E.out]; rfl, fun j hj => by rw [E.out] at hj; exact absurd hj (Nat.not_lt_zero j)⟩, HB.out⟩
  have b29 : ((o : Int) == 29) = false := by rw [beq_eq_false_iff_ne]; omega
  by_cases h22 : o = 22
  · have b22 : ((o : Int) == 22) = true := by simp [h22]
    have E := hide (show waysB o n a = [n] by unfold waysB; rw [if_neg h29, if_pos h22])
    clear h29 h22
    go_wp2_with fail
    go_ret
    refine ⟨⟨_, by rw [E.out]; rfl, fun j hj => ⟨_, rfl, HB.out.size, (N1.out n).lt, ?_⟩⟩, HB.out.alloc HB.out.size _⟩
    have hj' : j = 0 := by rw [E.out] at hj; simpa using hj
    subst hj'
    simp only [E.out]
    exact (N1.out n).cell 0
  have b22 : ((o : Int) == 22) = false := by rw [beq_eq_false_iff_ne]; omega
  by_cases h23 : o = 23 ∨ o = 24
  · have E := hide (show waysB o n a = [(a : Int) + 1, n] by unfold waysB; rw [if_neg h29, if_neg h22, if_pos h23])
    have FIN := hide (show ∀ j (hj : j < (waysB o n a).length), (w2.alloc (.cells #[.int .i64 ((a : Int) + 1), .int .i64 n] 3)).cell? ⟨w2.heap.size, j, none⟩ = some (.int .i64 ((waysB o n a)[j])) from fun j hj => by
      have hj' : j = 0 ∨ j = 1 := by rw [E.out] at hj; simp at hj; omega
      simp only [E.out]
      rcases hj' with rfl | rfl
      · exact (N2.out ((a : Int) + 1) n).cell 0
      · exact (N2.out ((a : Int) + 1) n).cell 1)
    rcases h23 with h23 | h23
    · have b23 : ((o : Int) == 23) = true := by simp [h23]
      clear h29 h22 h23
      go_wp2_with fail
      go_ret
      exact ⟨⟨_, by rw [E.out]; rfl, fun j hj => ⟨_, rfl, HB.out.size, (N2.out ((a : Int) + 1) n).lt, FIN.out j hj⟩⟩, HB.out.alloc HB.out.size _⟩
    · have b23 : ((o : Int) == 23) = false := by simp [h23]
      have b24 : ((o : Int) == 24) = true := by simp [h23]
      clear h29 h22 h23
      go_wp2_with fail
      go_ret
      exact ⟨⟨_, by rw [E.out]; rfl, fun j hj => ⟨_, rfl, HB.out.size, (N2.out ((a : Int) + 1) n).lt, FIN.out j hj⟩⟩, HB.out.alloc HB.out.size _⟩
  have b23 : ((o : Int) == 23) = false := by rw [beq_eq_false_iff_ne]; omega
  have b24 : ((o : Int) == 24) = false := by rw [beq_eq_false_iff_ne]; omega
  have E := hide (show waysB o n a = [(a : Int) + 1] by unfold waysB; rw [if_neg h29, if_neg h22, if_neg h23])
  clear h29 h22 h23
  go_wp2_with fail
  go_ret
  refine ⟨⟨_, by rw [E.out]; rfl, fun j hj => ⟨_, rfl, HB.out.size, (N1.out ((a : Int) + 1)).lt, ?_⟩⟩, HB.out.alloc HB.out.size _⟩
  have hj' : j = 0 := by rw [E.out] at hj; simpa using hj
  subst hj'
  simp only [E.out]
  exact (N1.out ((a : Int) + 1)).cell 0
end Cod
end Go.Proofs.YtegpimaakgledaaDoor
