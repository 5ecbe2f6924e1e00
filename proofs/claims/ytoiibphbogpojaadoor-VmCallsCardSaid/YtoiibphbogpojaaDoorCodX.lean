/- The document's arguments of a call, what an instruction takes. -/
import Derived.Test.YtoiibphbogpojaaDoorRows
import Derived.Test.YtoiibphbogpojaaDoorCodD
namespace Go.Proofs.YtoiibphbogpojaaDoor
open Go Go.RowKit
set_option linter.unusedVariables false
set_option linter.unusedSimpArgs false
namespace Cod
set_option maxRecDepth 100000 in
set_option maxHeartbeats 8000000 in
theorem args_b (k : Nat) (hk : k < 32) (w : World) : Calls Tryd.prog 19 #[.int .u8 k] w fun e w' => e = .returned (.tuple #[.int .i64 (argsK k).1, .int .i64 (argsK k).2]) ∧ w = w' := by
  have hc : k = 0 ∨ k = 1 ∨ k = 2 ∨ k = 3 ∨ k = 4 ∨ k = 5 ∨ k = 6 ∨ k = 7 ∨ k = 8 ∨ k = 9 ∨ k = 10 ∨ k = 11 ∨ k = 12 ∨ k = 13 ∨ k = 14 ∨ k = 15 ∨ k = 16 ∨ k = 17 ∨ k = 18 ∨ k = 19 ∨ k = 20 ∨ k = 21 ∨ k = 22 ∨ k = 23 ∨ k = 24 ∨ k = 25 ∨ k = 26 ∨ k = 27 ∨ k = 28 ∨ k = 29 ∨ k = 30 ∨ k = 31 := by omega
  clear hk
  rcases hc with rfl | rfl | rfl | rfl | rfl | rfl | rfl | rfl | rfl | rfl | rfl | rfl | rfl | rfl | rfl | rfl | rfl | rfl | rfl | rfl | rfl | rfl | rfl | rfl | rfl | rfl | rfl | rfl | rfl | rfl | rfl | rfl
  all_goals
    go_enter Tryd.func19, Tryd.ntmps19
    go_wp2
    first
      | exact bodyPost_ret (v := .tuple #[.int .i64 0, .int .i64 0]) (by simp [results, Tryd.results19, go_sem]) rfl ⟨rfl, rfl⟩
      | exact bodyPost_ret (v := .tuple #[.int .i64 1, .int .i64 1]) (by simp [results, Tryd.results19, go_sem]) rfl ⟨rfl, rfl⟩
      | exact bodyPost_ret (v := .tuple #[.int .i64 1, .int .i64 8]) (by simp [results, Tryd.results19, go_sem]) rfl ⟨rfl, rfl⟩
      | exact bodyPost_ret (v := .tuple #[.int .i64 2, .int .i64 2]) (by simp [results, Tryd.results19, go_sem]) rfl ⟨rfl, rfl⟩
      | exact bodyPost_ret (v := .tuple #[.int .i64 3, .int .i64 3]) (by simp [results, Tryd.results19, go_sem]) rfl ⟨rfl, rfl⟩
      | exact bodyPost_ret (v := .tuple #[.int .i64 5, .int .i64 5]) (by simp [results, Tryd.results19, go_sem]) rfl ⟨rfl, rfl⟩
set_option maxRecDepth 100000 in
set_option maxHeartbeats 8000000 in
theorem reduces_b (k : Nat) (w : World) : Calls Tryd.prog 20 #[.int .u8 k] w fun e w' => e = .returned (.bool (decide ((k : Int) = 17) || decide ((k : Int) = 18))) ∧ w = w' := by
  by_cases h : (k : Int) = 17
  · have e1 : ((k : Int) == 17) = true := by simp [h]
    go_enter Tryd.func20, Tryd.ntmps20
    go_wp2_with fail
    go_ret
    exact ⟨by rw [decide_eq_true h]; rfl, rfl⟩
  · have e1 : ((k : Int) == 17) = false := by rw [beq_eq_false_iff_ne]; exact h
    by_cases h2 : (k : Int) = 18
    · have e2 : ((k : Int) == 18) = true := by simp [h2]
      go_enter Tryd.func20, Tryd.ntmps20
      go_wp2_with fail
      go_ret
      exact ⟨by rw [decide_eq_true h2, Bool.or_true]; rfl, rfl⟩
    · have e2 : ((k : Int) == 18) = false := by rw [beq_eq_false_iff_ne]; exact h2
      go_enter Tryd.func20, Tryd.ntmps20
      go_wp2_with fail
      go_ret
      exact ⟨by rw [decide_eq_false h, decide_eq_false h2]; rfl, rfl⟩
/-- What a call's number tells. -/
def callV (n : Int) : Value := if mayCl n = true then .tuple #[.int .u8 (n % 32), .int .i64 (n % 1024 / 32), .int .u8 (n / 1024), .bool true] else .tuple #[.int .u8 0, .int .i64 0, .int .u8 0, .bool false]
set_option maxRecDepth 100000 in
set_option maxHeartbeats 16000000 in
theorem call_b (n : Int) (w : World) : Calls Tryd.prog 9 #[.int .i64 n] w fun e w' => e = .returned (callV n) ∧ w = w' := by
  by_cases h0 : n < 0
  · have E : mayCl n = false := by unfold mayCl; rw [decide_eq_false (show ¬ 0 ≤ n by omega)]; rfl
    unfold callV
    rw [E, if_neg (by decide)]
    clear E
    go_enter Tryd.func9, Tryd.ntmps9
    go_wp2_with fail
    exact bodyPost_ret (v := .tuple #[.int .u8 0, .int .i64 0, .int .u8 0, .bool false]) (by simp [results, Tryd.results9, go_sem]) rfl ⟨rfl, rfl⟩
  have hn : 0 ≤ n := by omega
  by_cases h3 : 3071 < n
  · have E : mayCl n = false := by
      unfold mayCl
      rw [decide_eq_false (show ¬ n / 1024 = 0 by omega), decide_eq_false (show ¬ n / 1024 ≤ 2 by omega)]
      simp
    unfold callV
    rw [E, if_neg (by decide)]
    clear E
    go_enter Tryd.func9, Tryd.ntmps9
    go_wp2_with fail
    exact bodyPost_ret (v := .tuple #[.int .u8 0, .int .i64 0, .int .u8 0, .bool false]) (by simp [results, Tryd.results9, go_sem]) rfl ⟨rfl, rfl⟩
  have r1 : Int.tmod n 32 = n % 32 := Int.tmod_eq_emod_of_nonneg hn
  have r2 : Int.tdiv n 32 = n / 32 := Int.tdiv_eq_ediv_of_nonneg hn
  have r3 : Int.tmod (n / 32) 32 = n % 1024 / 32 := by rw [Int.tmod_eq_emod_of_nonneg (by omega)]; omega
  have r4 : Int.tdiv n 1024 = n / 1024 := Int.tdiv_eq_ediv_of_nonneg hn
  have r5 : IntKind.i64.wrap (n / 32) = n / 32 := by rw [IntKind.wrap_i64]; omega
  have r6 : IntKind.i64.wrap (n / 1024) = n / 1024 := by rw [IntKind.wrap_i64]; omega
  obtain ⟨k, hk⟩ : ∃ k : Nat, n % 32 = (k : Int) := ⟨(n % 32).toNat, by omega⟩
  have r7 : IntKind.u8.wrap (k : Int) = (k : Int) := by rw [IntKind.wrap_u8]; omega
  have r8 : IntKind.u8.wrap (n / 1024) = n / 1024 := by rw [IntKind.wrap_u8]; omega
  have AC := hide (args_b k (by omega) w)
  have RC := hide (reduces_b k w)
  have RES : Hid (mayCl n = ((!decide ((argsK k).2 = 0) && decide ((argsK k).1 ≤ n % 1024 / 32) && decide (n % 1024 / 32 ≤ (argsK k).2)) && (decide (n / 1024 = 0) || (decide ((k : Int) = 17) || decide ((k : Int) = 18)) && decide (0 < n / 1024) && decide (n / 1024 ≤ 2)))) := hide (by
    unfold mayCl
    rw [decide_eq_true hn, hk]
    rfl)
  unfold callV
  rw [hk]
  generalize mayCl n = res at *
  generalize (argsK k).1 = l0 at *
  generalize (argsK k).2 = m0 at *
  rw [hk] at r1
  have hd0 : 0 ≤ n / 1024 := by omega
  have hd2 : n / 1024 ≤ 2 := by omega
  obtain ⟨a, ha⟩ : ∃ a, n % 1024 / 32 = a := ⟨_, rfl⟩
  obtain ⟨p, hp⟩ : ∃ p, n / 1024 = p := ⟨_, rfl⟩
  obtain ⟨q, hq⟩ : ∃ q, n / 32 = q := ⟨_, rfl⟩
  rw [hq] at r2 r3 r5
  rw [ha] at r3 RES ⊢
  rw [hp] at r4 r6 r8 RES hd0 hd2 ⊢
  obtain ⟨cv, hcv⟩ : ∃ cv, (if res = true then Value.tuple #[.int .u8 (k : Int), .int .i64 a, .int .u8 p, .bool true] else .tuple #[.int .u8 0, .int .i64 0, .int .u8 0, .bool false]) = cv := ⟨_, rfl⟩
  rw [hcv]
  have HCV := hide hcv
  clear hq ha hp hk hcv
  go_enter Tryd.func9, Tryd.ntmps9
  go_wp2_with fail
  refine AC.out.mono ?_
  rintro e w' ⟨rfl, rfl⟩
  clear AC
  by_cases c1 : m0 = 0
  · have E : res = false := by rw [RES.out]; simp [c1]
    have EV := hide (HCV.out.symm.trans (if_neg (by rw [E]; decide)))
    have e1 : (m0 == 0) = true := by simp [c1]
    clear E RES HCV c1 RC
    go_wp2_with fail
    exact bodyPost_ret (v := .tuple #[.int .u8 0, .int .i64 0, .int .u8 0, .bool false]) (by simp [results, Tryd.results9, go_sem]) rfl ⟨by rw [EV.out], rfl⟩
  have e1 : (m0 == 0) = false := by rw [beq_eq_false_iff_ne]; exact c1
  by_cases c2 : l0 ≤ a
  rotate_left
  · have E : res = false := by rw [RES.out]; simp [c2]
    have EV := hide (HCV.out.symm.trans (if_neg (by rw [E]; decide)))
    have f2 : a < l0 := by omega
    clear E RES HCV c1 RC c2
    go_wp2_with fail
    exact bodyPost_ret (v := .tuple #[.int .u8 0, .int .i64 0, .int .u8 0, .bool false]) (by simp [results, Tryd.results9, go_sem]) rfl ⟨by rw [EV.out], rfl⟩
  have f2 : ¬ a < l0 := by omega
  by_cases c3 : a ≤ m0
  rotate_left
  · have E : res = false := by rw [RES.out]; simp [c3]
    have EV := hide (HCV.out.symm.trans (if_neg (by rw [E]; decide)))
    have f3 : m0 < a := by omega
    clear E RES HCV c1 RC c2 c3
    go_wp2_with fail
    exact bodyPost_ret (v := .tuple #[.int .u8 0, .int .i64 0, .int .u8 0, .bool false]) (by simp [results, Tryd.results9, go_sem]) rfl ⟨by rw [EV.out], rfl⟩
  have f3 : ¬ m0 < a := by omega
  by_cases c4 : p = 0
  · have E : res = true := by rw [RES.out]; simp [c1, c2, c3, c4]
    have EV := hide (HCV.out.symm.trans (if_pos E))
    have f4 : ¬ 0 < p := by omega
    clear E RES HCV c1 RC c2 c3 c4 hd0 hd2
    go_wp2_with fail
    exact bodyPost_ret (v := .tuple #[.int .u8 (k : Int), .int .i64 a, .int .u8 p, .bool true]) (by simp [results, Tryd.results9, go_sem]) rfl ⟨by rw [EV.out], rfl⟩
  have f4 : 0 < p := by omega
  cases hd : (decide ((k : Int) = 17) || decide ((k : Int) = 18)) with
  | true =>
    have E : res = true := by rw [RES.out, hd]; simp [c1, c2, c3, c4, f4, hd2]
    have EV := hide (HCV.out.symm.trans (if_pos E))
    rw [hd] at RC
    clear E RES HCV c1 c2 c3 c4 hd0 hd2 hd
    go_wp2_with fail
    refine RC.out.mono ?_
    rintro e w' ⟨rfl, rfl⟩
    go_wp2_with fail
    exact bodyPost_ret (v := .tuple #[.int .u8 (k : Int), .int .i64 a, .int .u8 p, .bool true]) (by simp [results, Tryd.results9, go_sem]) rfl ⟨by rw [EV.out], rfl⟩
  | false =>
    have E : res = false := by rw [RES.out, hd]; simp [c4]
    have EV := hide (HCV.out.symm.trans (if_neg (by rw [E]; decide)))
    rw [hd] at RC
    clear E RES HCV c1 c2 c3 c4 hd0 hd2 hd
    go_wp2_with fail
    refine RC.out.mono ?_
    rintro e w' ⟨rfl, rfl⟩
    go_wp2_with fail
    exact bodyPost_ret (v := .tuple #[.int .u8 0, .int .i64 0, .int .u8 0, .bool false]) (by simp [results, Tryd.results9, go_sem]) rfl ⟨by rw [EV.out], rfl⟩
end Cod
end Go.Proofs.YtoiibphbogpojaaDoor
