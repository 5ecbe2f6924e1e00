/- What an operation with two sides comes to: the program's functions, and the reference's. -/
import Derived.Test.YtoiibphbogpojaaDoorRows
import Derived.Test.YtoiibphbogpojaaDoorVmB
namespace Go.Proofs.YtoiibphbogpojaaDoor
open Go Go.RowKit Go.Proofs.YtoiibphbogpojaaDoor.Cod
set_option linter.unusedVariables false
set_option linter.unusedSimpArgs false
namespace Vm
def tr (b : Bool) : Int := if b then 1 else 0
/-- Two sides of the operation 10 + k: none is the fault of a division by 0. -/
def twoF (k : Nat) (l r : Int) : Option Int :=
  match k with
  | 0 => some (wrap64 (l * r))
  | 1 => if r = 0 then none else some (wrap64 (l.tdiv r))
  | 2 => if r = 0 then none else some (l.tmod r)
  | 3 => some (wrap64 (l + r))
  | 4 => some (wrap64 (l - r))
  | 5 => some (tr (decide (l < r)))
  | 6 => some (tr (decide (l ≤ r)))
  | 7 => some (tr (decide (r < l)))
  | 8 => some (tr (decide (r ≤ l)))
  | 9 => some (tr (l == r))
  | _ => some (tr (l != r))
set_option maxRecDepth 100000 in
set_option maxHeartbeats 2000000 in
theorem truth_c (b : Bool) (w : World) : Calls Tryd.prog 29 #[.bool b] w fun e w' => e = .returned (.int .i64 (tr b)) ∧ w' = w := by
  cases b with
  | true =>
    go_enter Tryd.func29, Tryd.ntmps29
    go_wp2_with fail
    go_ret
    exact ⟨rfl, rfl⟩
  | false =>
    go_enter Tryd.func29, Tryd.ntmps29
    go_wp2_with fail
    go_ret
    exact ⟨rfl, rfl⟩
def sideP (k : Nat) (f : Nat) : Prop := ∀ (l r : Int) (w : World), -9223372036854775808 ≤ l ∧ l ≤ 9223372036854775807 → -9223372036854775808 ≤ r ∧ r ≤ 9223372036854775807 → Calls Tryd.prog f #[.int .i64 l, .int .i64 r] w fun e w' => e = .returned (.tuple #[.int .i64 ((twoF k l r).getD 0), .bool (twoF k l r).isSome]) ∧ w' = w
set_option maxRecDepth 100000 in
set_option maxHeartbeats 2000000 in
theorem side0_c : sideP 0 23 := by
  intro l r w hl hr
  go_enter Tryd.func23, Tryd.ntmps23
  go_wp2_with fail
  exact bodyPost_ret (v := .tuple #[.int .i64 (wrap64 (l * r)), .bool true]) (by simp [results, Tryd.results23, go_sem]) rfl ⟨rfl, rfl⟩
set_option maxRecDepth 100000 in
set_option maxHeartbeats 2000000 in
theorem side1_c : sideP 1 24 := by
  intro l r w hl hr
  by_cases h0 : r = 0
  · subst h0
    go_enter Tryd.func24, Tryd.ntmps24
    go_wp2_with fail
    exact bodyPost_ret (v := .tuple #[.int .i64 0, .bool false]) (by simp [results, Tryd.results24, go_sem]) rfl ⟨rfl, rfl⟩
  · have hT : twoF 1 l r = some (wrap64 (l.tdiv r)) := if_neg h0
    rw [hT]
    go_enter Tryd.func24, Tryd.ntmps24
    go_wp2_with fail
    exact bodyPost_ret (v := .tuple #[.int .i64 (wrap64 (l.tdiv r)), .bool true]) (by simp [results, Tryd.results24, go_sem]) rfl ⟨rfl, rfl⟩
set_option maxRecDepth 100000 in
set_option maxHeartbeats 2000000 in
theorem side2_c : sideP 2 25 := by
  intro l r w hl hr
  by_cases h0 : r = 0
  · subst h0
    go_enter Tryd.func25, Tryd.ntmps25
    go_wp2_with fail
    exact bodyPost_ret (v := .tuple #[.int .i64 0, .bool false]) (by simp [results, Tryd.results25, go_sem]) rfl ⟨rfl, rfl⟩
  · have hT : twoF 2 l r = some (l.tmod r) := if_neg h0
    rw [hT]
    go_enter Tryd.func25, Tryd.ntmps25
    go_wp2_with fail
    exact bodyPost_ret (v := .tuple #[.int .i64 (l.tmod r), .bool true]) (by simp [results, Tryd.results25, go_sem]) rfl ⟨rfl, rfl⟩
set_option maxRecDepth 100000 in
set_option maxHeartbeats 2000000 in
theorem side3_c : sideP 3 26 := by
  intro l r w hl hr
  go_enter Tryd.func26, Tryd.ntmps26
  go_wp2_with fail
  exact bodyPost_ret (v := .tuple #[.int .i64 (wrap64 (l + r)), .bool true]) (by simp [results, Tryd.results26, go_sem]) rfl ⟨rfl, rfl⟩
set_option maxRecDepth 100000 in
set_option maxHeartbeats 2000000 in
theorem side4_c : sideP 4 27 := by
  intro l r w hl hr
  go_enter Tryd.func27, Tryd.ntmps27
  go_wp2_with fail
  exact bodyPost_ret (v := .tuple #[.int .i64 (wrap64 (l - r)), .bool true]) (by simp [results, Tryd.results27, go_sem]) rfl ⟨rfl, rfl⟩
set_option maxRecDepth 100000 in
set_option maxHeartbeats 2000000 in
theorem side5_c : sideP 5 28 := by
  intro l r w hl hr
  go_enter Tryd.func28, Tryd.ntmps28
  go_wp2_with fail
  refine (truth_c _ _).mono ?_
  rintro e w' ⟨rfl, rfl⟩
  go_wp2_with fail
  exact bodyPost_ret (v := .tuple #[.int .i64 (tr (decide (l < r))), .bool true]) (by simp [results, Tryd.results28, go_sem]) rfl ⟨rfl, rfl⟩
set_option maxRecDepth 100000 in
set_option maxHeartbeats 2000000 in
theorem side6_c : sideP 6 30 := by
  intro l r w hl hr
  go_enter Tryd.func30, Tryd.ntmps30
  go_wp2_with fail
  refine (truth_c _ _).mono ?_
  rintro e w' ⟨rfl, rfl⟩
  go_wp2_with fail
  exact bodyPost_ret (v := .tuple #[.int .i64 (tr (decide (l ≤ r))), .bool true]) (by simp [results, Tryd.results30, go_sem]) rfl ⟨rfl, rfl⟩
set_option maxRecDepth 100000 in
set_option maxHeartbeats 2000000 in
theorem side7_c : sideP 7 31 := by
  intro l r w hl hr
  go_enter Tryd.func31, Tryd.ntmps31
  go_wp2_with fail
  refine (truth_c _ _).mono ?_
  rintro e w' ⟨rfl, rfl⟩
  go_wp2_with fail
  exact bodyPost_ret (v := .tuple #[.int .i64 (tr (decide (r < l))), .bool true]) (by simp [results, Tryd.results31, go_sem]) rfl ⟨rfl, rfl⟩
set_option maxRecDepth 100000 in
set_option maxHeartbeats 2000000 in
theorem side8_c : sideP 8 32 := by
  intro l r w hl hr
  go_enter Tryd.func32, Tryd.ntmps32
  go_wp2_with fail
  refine (truth_c _ _).mono ?_
  rintro e w' ⟨rfl, rfl⟩
  go_wp2_with fail
  exact bodyPost_ret (v := .tuple #[.int .i64 (tr (decide (r ≤ l))), .bool true]) (by simp [results, Tryd.results32, go_sem]) rfl ⟨rfl, rfl⟩
set_option maxRecDepth 100000 in
set_option maxHeartbeats 2000000 in
theorem side9_c : sideP 9 33 := by
  intro l r w hl hr
  go_enter Tryd.func33, Tryd.ntmps33
  go_wp2_with fail
  refine (truth_c _ _).mono ?_
  rintro e w' ⟨rfl, rfl⟩
  go_wp2_with fail
  exact bodyPost_ret (v := .tuple #[.int .i64 (tr (l == r)), .bool true]) (by simp [results, Tryd.results33, go_sem]) rfl ⟨rfl, rfl⟩
set_option maxRecDepth 100000 in
set_option maxHeartbeats 2000000 in
theorem side10_c : sideP 10 34 := by
  intro l r w hl hr
  go_enter Tryd.func34, Tryd.ntmps34
  go_wp2_with fail
  refine (truth_c _ _).mono ?_
  rintro e w' ⟨rfl, rfl⟩
  go_wp2_with fail
  exact bodyPost_ret (v := .tuple #[.int .i64 (tr (l != r)), .bool true]) (by simp [results, Tryd.results34, go_sem]) rfl ⟨rfl, rfl⟩
/-- The functions of the table. -/
def sdF : List Nat := [23, 24, 25, 26, 27, 28, 30, 31, 32, 33, 34]
theorem side_c : ∀ k, k < 11 → sideP k (sdF.getD k 0)
  | 0, _ => side0_c
  | 1, _ => side1_c
  | 2, _ => side2_c
  | 3, _ => side3_c
  | 4, _ => side4_c
  | 5, _ => side5_c
  | 6, _ => side6_c
  | 7, _ => side7_c
  | 8, _ => side8_c
  | 9, _ => side9_c
  | 10, _ => side10_c
  | _ + 11, h => by omega
theorem side_call : ∀ k, k < 11 → ∀ (args : Array Value) (w : World), Sem.run Tryd.prog (callFunc (sdF.getD k 0) args) w = .ok (.enter (sdF.getD k 0) args) w
  | 0, _ => fun _ _ => by kernel_rfl
  | 1, _ => fun _ _ => by kernel_rfl
  | 2, _ => fun _ _ => by kernel_rfl
  | 3, _ => fun _ _ => by kernel_rfl
  | 4, _ => fun _ _ => by kernel_rfl
  | 5, _ => fun _ _ => by kernel_rfl
  | 6, _ => fun _ _ => by kernel_rfl
  | 7, _ => fun _ _ => by kernel_rfl
  | 8, _ => fun _ _ => by kernel_rfl
  | 9, _ => fun _ _ => by kernel_rfl
  | 10, _ => fun _ _ => by kernel_rfl
  | _ + 11, h => by omega
set_option maxRecDepth 100000 in
set_option maxHeartbeats 2000000 in
theorem truth_b (b : Bool) (w : World) : Calls Tryd.prog 18 #[.bool b] w fun e w' => e = .returned (.int .i64 (tr b)) ∧ w' = w := by
  cases b with
  | true =>
    go_enter Tryd.func18, Tryd.ntmps18
    go_wp2_with fail
    go_ret
    exact ⟨rfl, rfl⟩
  | false =>
    go_enter Tryd.func18, Tryd.ntmps18
    go_wp2_with fail
    go_ret
    exact ⟨rfl, rfl⟩
def twoB (k : Nat) : Prop := ∀ (l r : Int) (w : World), -9223372036854775808 ≤ l ∧ l ≤ 9223372036854775807 → -9223372036854775808 ≤ r ∧ r ≤ 9223372036854775807 → Calls Tryd.prog 7 #[.int .u8 (10 + k : Nat), .int .i64 l, .int .i64 r] w fun e w' => e = .returned (.tuple #[.int .i64 ((twoF k l r).getD 0), .int .u8 (if (twoF k l r).isSome then 0 else 1)]) ∧ w' = w
set_option maxRecDepth 100000 in
set_option maxHeartbeats 2000000 in
theorem two0_b : twoB 0 := by
  intro l r w hl hr
  go_enter Tryd.func7, Tryd.ntmps7
  go_wp2_with fail
  exact bodyPost_ret (v := .tuple #[.int .i64 (wrap64 (l * r)), .int .u8 0]) (by simp [results, Tryd.results7, go_sem]) rfl ⟨by first | rfl | (simp [wrap64]; done) | (simp; done), rfl⟩
set_option maxRecDepth 100000 in
set_option maxHeartbeats 2000000 in
theorem two1_b : twoB 1 := by
  intro l r w hl hr
  by_cases h0 : r = 0
  · subst h0
    go_enter Tryd.func7, Tryd.ntmps7
    go_wp2_with fail
    exact bodyPost_ret (v := .tuple #[.int .i64 0, .int .u8 1]) (by simp [results, Tryd.results7, go_sem]) rfl ⟨by first | rfl | (simp [wrap64]; done) | (simp; done), rfl⟩
  · have hT : twoF 1 l r = some (wrap64 (l.tdiv r)) := if_neg h0
    rw [hT]
    by_cases h1 : l = -9223372036854775808
    · by_cases h2 : r = -1
      · subst h1 h2
        go_enter Tryd.func7, Tryd.ntmps7
        go_wp2_with fail
        exact bodyPost_ret (v := .tuple #[.int .i64 (-9223372036854775808), .int .u8 0]) (by simp [results, Tryd.results7, go_sem]) rfl ⟨by first | rfl | (simp [wrap64]; done) | (simp; done), rfl⟩
      · subst h1
        go_enter Tryd.func7, Tryd.ntmps7
        go_wp2_with fail
        exact bodyPost_ret (v := .tuple #[.int .i64 (wrap64 ((-9223372036854775808 : Int).tdiv r)), .int .u8 0]) (by simp [results, Tryd.results7, go_sem]) rfl ⟨by first | rfl | (simp [wrap64]; done) | (simp; done), rfl⟩
    · skip
      go_enter Tryd.func7, Tryd.ntmps7
      go_wp2_with fail
      exact bodyPost_ret (v := .tuple #[.int .i64 (wrap64 (l.tdiv r)), .int .u8 0]) (by simp [results, Tryd.results7, go_sem]) rfl ⟨by first | rfl | (simp [wrap64]; done) | (simp; done), rfl⟩
set_option maxRecDepth 100000 in
set_option maxHeartbeats 2000000 in
theorem two2_b : twoB 2 := by
  intro l r w hl hr
  by_cases h0 : r = 0
  · subst h0
    go_enter Tryd.func7, Tryd.ntmps7
    go_wp2_with fail
    exact bodyPost_ret (v := .tuple #[.int .i64 0, .int .u8 1]) (by simp [results, Tryd.results7, go_sem]) rfl ⟨by first | rfl | (simp [wrap64]; done) | (simp; done), rfl⟩
  · have hT : twoF 2 l r = some (l.tmod r) := if_neg h0
    rw [hT]
    by_cases h1 : l = -9223372036854775808
    · by_cases h2 : r = -1
      · subst h1 h2
        go_enter Tryd.func7, Tryd.ntmps7
        go_wp2_with fail
        exact bodyPost_ret (v := .tuple #[.int .i64 0, .int .u8 0]) (by simp [results, Tryd.results7, go_sem]) rfl ⟨by first | rfl | (simp [wrap64]; done) | (simp; done), rfl⟩
      · subst h1
        have hq : Int.tmod 9223372036854775808 r = 9223372036854775808 % r := Int.tmod_eq_emod_of_nonneg (by decide)
        go_enter Tryd.func7, Tryd.ntmps7
        go_wp2_with fail
        exact bodyPost_ret (v := .tuple #[.int .i64 ((-9223372036854775808 : Int).tmod r), .int .u8 0]) (by simp [results, Tryd.results7, go_sem, hq]) rfl ⟨by first | rfl | (simp [wrap64, hq]; done) | (simp; done), rfl⟩
    · skip
      go_enter Tryd.func7, Tryd.ntmps7
      go_wp2_with fail
      exact bodyPost_ret (v := .tuple #[.int .i64 (l.tmod r), .int .u8 0]) (by simp [results, Tryd.results7, go_sem]) rfl ⟨by first | rfl | (simp [wrap64]; done) | (simp; done), rfl⟩
set_option maxRecDepth 100000 in
set_option maxHeartbeats 2000000 in
theorem two3_b : twoB 3 := by
  intro l r w hl hr
  go_enter Tryd.func7, Tryd.ntmps7
  go_wp2_with fail
  exact bodyPost_ret (v := .tuple #[.int .i64 (wrap64 (l + r)), .int .u8 0]) (by simp [results, Tryd.results7, go_sem]) rfl ⟨by first | rfl | (simp [wrap64]; done) | (simp; done), rfl⟩
set_option maxRecDepth 100000 in
set_option maxHeartbeats 2000000 in
theorem two4_b : twoB 4 := by
  intro l r w hl hr
  go_enter Tryd.func7, Tryd.ntmps7
  go_wp2_with fail
  exact bodyPost_ret (v := .tuple #[.int .i64 (wrap64 (l - r)), .int .u8 0]) (by simp [results, Tryd.results7, go_sem]) rfl ⟨by first | rfl | (simp [wrap64]; done) | (simp; done), rfl⟩
set_option maxRecDepth 100000 in
set_option maxHeartbeats 2000000 in
theorem two5_b : twoB 5 := by
  intro l r w hl hr
  go_enter Tryd.func7, Tryd.ntmps7
  go_wp2_with fail
  refine (truth_b _ _).mono ?_
  rintro e w' ⟨rfl, rfl⟩
  go_wp2_with fail
  exact bodyPost_ret (v := .tuple #[.int .i64 (tr (decide (l < r))), .int .u8 0]) (by simp [results, Tryd.results7, go_sem]) rfl ⟨by first | rfl | (simp [wrap64]; done) | (simp; done), rfl⟩
set_option maxRecDepth 100000 in
set_option maxHeartbeats 2000000 in
theorem two6_b : twoB 6 := by
  intro l r w hl hr
  go_enter Tryd.func7, Tryd.ntmps7
  go_wp2_with fail
  refine (truth_b _ _).mono ?_
  rintro e w' ⟨rfl, rfl⟩
  go_wp2_with fail
  exact bodyPost_ret (v := .tuple #[.int .i64 (tr (decide (l ≤ r))), .int .u8 0]) (by simp [results, Tryd.results7, go_sem]) rfl ⟨by first | rfl | (simp [wrap64]; done) | (simp; done), rfl⟩
set_option maxRecDepth 100000 in
set_option maxHeartbeats 2000000 in
theorem two7_b : twoB 7 := by
  intro l r w hl hr
  go_enter Tryd.func7, Tryd.ntmps7
  go_wp2_with fail
  refine (truth_b _ _).mono ?_
  rintro e w' ⟨rfl, rfl⟩
  go_wp2_with fail
  exact bodyPost_ret (v := .tuple #[.int .i64 (tr (decide (r < l))), .int .u8 0]) (by simp [results, Tryd.results7, go_sem]) rfl ⟨by first | rfl | (simp [wrap64]; done) | (simp; done), rfl⟩
set_option maxRecDepth 100000 in
set_option maxHeartbeats 2000000 in
theorem two8_b : twoB 8 := by
  intro l r w hl hr
  go_enter Tryd.func7, Tryd.ntmps7
  go_wp2_with fail
  refine (truth_b _ _).mono ?_
  rintro e w' ⟨rfl, rfl⟩
  go_wp2_with fail
  exact bodyPost_ret (v := .tuple #[.int .i64 (tr (decide (r ≤ l))), .int .u8 0]) (by simp [results, Tryd.results7, go_sem]) rfl ⟨by first | rfl | (simp [wrap64]; done) | (simp; done), rfl⟩
set_option maxRecDepth 100000 in
set_option maxHeartbeats 2000000 in
theorem two9_b : twoB 9 := by
  intro l r w hl hr
  go_enter Tryd.func7, Tryd.ntmps7
  go_wp2_with fail
  refine (truth_b _ _).mono ?_
  rintro e w' ⟨rfl, rfl⟩
  go_wp2_with fail
  exact bodyPost_ret (v := .tuple #[.int .i64 (tr (l == r)), .int .u8 0]) (by simp [results, Tryd.results7, go_sem]) rfl ⟨by first | rfl | (simp [wrap64]; done) | (simp; done), rfl⟩
set_option maxRecDepth 100000 in
set_option maxHeartbeats 2000000 in
theorem two10_b : twoB 10 := by
  intro l r w hl hr
  go_enter Tryd.func7, Tryd.ntmps7
  go_wp2_with fail
  refine (truth_b _ _).mono ?_
  rintro e w' ⟨rfl, rfl⟩
  go_wp2_with fail
  exact bodyPost_ret (v := .tuple #[.int .i64 (tr (l != r)), .int .u8 0]) (by simp [results, Tryd.results7, go_sem]) rfl ⟨by first | rfl | (simp [wrap64]; done) | (simp; done), rfl⟩
theorem two_b : ∀ k, k < 11 → twoB k
  | 0, _ => two0_b
  | 1, _ => two1_b
  | 2, _ => two2_b
  | 3, _ => two3_b
  | 4, _ => two4_b
  | 5, _ => two5_b
  | 6, _ => two6_b
  | 7, _ => two7_b
  | 8, _ => two8_b
  | 9, _ => two9_b
  | 10, _ => two10_b
  | _ + 11, h => by omega
end Vm
end Go.Proofs.YtoiibphbogpojaaDoor
