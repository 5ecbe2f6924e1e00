/- Whether a call's number may be. -/
import Derived.Test.YtoiibphbogpojaaDoorRows
import Derived.Test.YtoiibphbogpojaaDoorCodB
namespace Go.Proofs.YtoiibphbogpojaaDoor
open Go Go.RowKit
set_option linter.unusedVariables false
set_option linter.unusedSimpArgs false
namespace Cod
set_option maxRecDepth 100000 in
set_option maxHeartbeats 16000000 in
theorem mayCall_c (n : Int) (hn2 : n ≤ 9223372036854775807) (w : World) : Calls Tryd.prog 52 #[.int .i64 n] w fun e w' => e = .returned (.bool (mayCl n)) ∧ w = w' := by
  by_cases h0 : n < 0
  · have E : mayCl n = false := by unfold mayCl; rw [decide_eq_false (show ¬ 0 ≤ n by omega)]; rfl
    rw [E]
    clear E hn2
    go_enter Tryd.func52, Tryd.ntmps52
    go_wp2_with fail
    go_ret
    exact ⟨rfl, rfl⟩
  have hn : 0 ≤ n := by omega
  have r1 : Int.tmod n 32 = n % 32 := Int.tmod_eq_emod_of_nonneg hn
  have r2 : Int.tmod n 1024 = n % 1024 := Int.tmod_eq_emod_of_nonneg hn
  have r3 : Int.tdiv (n % 1024) 32 = n % 1024 / 32 := Int.tdiv_eq_ediv_of_nonneg (by omega)
  have r4 : Int.tdiv n 1024 = n / 1024 := Int.tdiv_eq_ediv_of_nonneg hn
  have r5 : IntKind.i64.wrap (n % 1024 / 32) = n % 1024 / 32 := by rw [IntKind.wrap_i64]; omega
  have r6 : IntKind.i64.wrap (n / 1024) = n / 1024 := by rw [IntKind.wrap_i64]; omega
  obtain ⟨k, hk⟩ : ∃ k : Nat, n % 32 = (k : Int) := ⟨(n % 32).toNat, by omega⟩
  have AC := hide (arguments_c k (by omega) w)
  have RES : Hid (mayCl n = ((!decide ((argsK k).2 = 0) && decide ((argsK k).1 ≤ n % 1024 / 32) && decide (n % 1024 / 32 ≤ (argsK k).2)) && (decide (n / 1024 = 0) || (decide ((k : Int) = 17) || decide ((k : Int) = 18)) && decide (0 < n / 1024) && decide (n / 1024 ≤ 2)))) := hide (by
    unfold mayCl
    rw [decide_eq_true hn, hk]
    rfl)
  generalize mayCl n = res at *
  generalize (argsK k).1 = l0 at *
  generalize (argsK k).2 = m0 at *
  rw [hk] at r1
  have hd0 : 0 ≤ n / 1024 := by omega
  generalize n % 1024 / 32 = a at *
  generalize n / 1024 = p at *
  go_enter Tryd.func52, Tryd.ntmps52
  go_wp2_with fail
  refine AC.out.mono ?_
  rintro e w' ⟨rfl, rfl⟩
  clear hk AC
  by_cases c1 : m0 = 0
  · have e1 : (m0 == 0) = true := by simp [c1]
    go_wp2_with fail
    go_ret
    exact ⟨by rw [RES.out]; first | (simp [c1, c2, c3, c4, c5, c7, f6]; done) | (simp [c1, c2, c3, c4, c5, f6]; done) | (simp [c1, c2, c3, c4]; done) | (simp [c1, show ¬ l0 ≤ a by omega]; done) | (simp [c1, c2, show ¬ a ≤ m0 by omega]; done) | simp [c1], rfl⟩
  have e1 : (m0 == 0) = false := by rw [beq_eq_false_iff_ne]; exact c1
  by_cases c2 : l0 ≤ a
  rotate_left
  · have f2 : a < l0 := by omega
    go_wp2_with fail
    go_ret
    exact ⟨by rw [RES.out]; first | (simp [c1, c2, c3, c4, c5, c7, f6]; done) | (simp [c1, c2, c3, c4, c5, f6]; done) | (simp [c1, c2, c3, c4]; done) | (simp [c1, show ¬ l0 ≤ a by omega]; done) | (simp [c1, c2, show ¬ a ≤ m0 by omega]; done) | simp [c1], rfl⟩
  have f2 : ¬ a < l0 := by omega
  by_cases c3 : a ≤ m0
  rotate_left
  · have f3 : m0 < a := by omega
    go_wp2_with fail
    go_ret
    exact ⟨by rw [RES.out]; first | (simp [c1, c2, c3, c4, c5, c7, f6]; done) | (simp [c1, c2, c3, c4, c5, f6]; done) | (simp [c1, c2, c3, c4]; done) | (simp [c1, show ¬ l0 ≤ a by omega]; done) | (simp [c1, c2, show ¬ a ≤ m0 by omega]; done) | simp [c1], rfl⟩
  have f3 : ¬ m0 < a := by omega
  by_cases c4 : p = 0
  · have e4 : (p == 0) = true := by simp [c4]
    by_cases c5 : (k : Int) = 17
    · have e5 : ((k : Int) == 17) = true := by simp [c5]
      go_wp2_with fail
      go_ret
      exact ⟨by rw [RES.out]; first | (simp [c1, c2, c3, c4, c5, c7, f6]; done) | (simp [c1, c2, c3, c4, c5, f6]; done) | (simp [c1, c2, c3, c4]; done) | (simp [c1, show ¬ l0 ≤ a by omega]; done) | (simp [c1, c2, show ¬ a ≤ m0 by omega]; done) | simp [c1], rfl⟩
    · have e5 : ((k : Int) == 17) = false := by rw [beq_eq_false_iff_ne]; exact c5
      go_wp2_with fail
      go_ret
      exact ⟨by rw [RES.out]; first | (simp [c1, c2, c3, c4, c5, c7, f6]; done) | (simp [c1, c2, c3, c4, c5, f6]; done) | (simp [c1, c2, c3, c4]; done) | (simp [c1, show ¬ l0 ≤ a by omega]; done) | (simp [c1, c2, show ¬ a ≤ m0 by omega]; done) | simp [c1], rfl⟩
  have e4 : (p == 0) = false := by rw [beq_eq_false_iff_ne]; exact c4
  have f6 : 0 < p := by omega
  by_cases c5 : (k : Int) = 17
  · have e5 : ((k : Int) == 17) = true := by simp [c5]
    go_wp2_with fail
    go_ret
    exact ⟨by rw [RES.out]; first | (simp [c1, c2, c3, c4, c5, c7, f6]; done) | (simp [c1, c2, c3, c4, c5, f6]; done) | (simp [c1, c2, c3, c4]; done) | (simp [c1, show ¬ l0 ≤ a by omega]; done) | (simp [c1, c2, show ¬ a ≤ m0 by omega]; done) | simp [c1], rfl⟩
  have e5 : ((k : Int) == 17) = false := by rw [beq_eq_false_iff_ne]; exact c5
  by_cases c7 : (k : Int) = 18
  · have e7 : ((k : Int) == 18) = true := by simp [c7]
    go_wp2_with fail
    go_ret
    exact ⟨by rw [RES.out]; first | (simp [c1, c2, c3, c4, c5, c7, f6]; done) | (simp [c1, c2, c3, c4, c5, f6]; done) | (simp [c1, c2, c3, c4]; done) | (simp [c1, show ¬ l0 ≤ a by omega]; done) | (simp [c1, c2, show ¬ a ≤ m0 by omega]; done) | simp [c1], rfl⟩
  · have e7 : ((k : Int) == 18) = false := by rw [beq_eq_false_iff_ne]; exact c7
    go_wp2_with fail
    go_ret
    exact ⟨by rw [RES.out]; first | (simp [c1, c2, c3, c4, c5, c7, f6]; done) | (simp [c1, c2, c3, c4, c5, f6]; done) | (simp [c1, c2, c3, c4]; done) | (simp [c1, show ¬ l0 ≤ a by omega]; done) | (simp [c1, c2, show ¬ a ≤ m0 by omega]; done) | simp [c1], rfl⟩
theorem below_c (m : Int) (x : Nat) (o : Nat) (n : Int) (w : World) (h : w.cell? ⟨x, 1, none⟩ = some (.int .i64 n)) :
    Calls Tryd.prog 51 #[.int .i64 m, .pointer (some ⟨x, 0, none⟩)] w fun e w' => e = .returned (.bool (decide (0 ≤ n ∧ n < m))) ∧ w = w' := by
  by_cases h0 : 0 ≤ n
  · by_cases h1 : n < m
    · rw [decide_eq_true ⟨h0, h1⟩]
      go_enter Tryd.func51, Tryd.ntmps51
      go_wp2_with fail
      go_ret
      exact ⟨by simp, rfl⟩
    · rw [decide_eq_false (fun h => h1 h.2)]
      go_enter Tryd.func51, Tryd.ntmps51
      go_wp2_with fail
      go_ret
      exact ⟨by simp, rfl⟩
  · rw [decide_eq_false (fun h => h0 h.1)]
    go_enter Tryd.func51, Tryd.ntmps51
    go_wp2_with fail
    go_ret
    exact ⟨by simp, rfl⟩
theorem nm_some (o : Nat) (h1 : 1 ≤ o) (h2 : o < 30) : (opO o).nm.toList.isEmpty = false := by
  have hl : o < opsT.length := h2
  have e : opO o = opsT[o] := by
    unfold opO
    rw [Int.toNat_natCast, List.getD_eq_getElem?_getD, List.getElem?_eq_getElem hl]
    rfl
  rw [e]
  have : ∀ x ∈ opsT.drop 1, x.nm.toList.isEmpty = false := by
    intro x hx
    simp only [opsT, List.drop_succ_cons, List.drop_zero, List.mem_cons, List.not_mem_nil, or_false] at hx
    rcases hx with rfl | rfl | rfl | rfl | rfl | rfl | rfl | rfl | rfl | rfl | rfl | rfl | rfl | rfl | rfl | rfl | rfl | rfl | rfl | rfl | rfl | rfl | rfl | rfl | rfl | rfl | rfl | rfl | rfl <;> decide +kernel
  have hm : opsT[o] ∈ opsT.drop 1 := by
    rw [List.mem_iff_getElem]
    exact ⟨o - 1, by rw [List.length_drop]; omega, by rw [List.getElem_drop]; congr 1; omega⟩
  exact this _ hm
/-- A program as a value: its instructions' slice, its variables, its arrays' slice. -/
def PrV (C : Option Addr) (len cc : Nat) (vars : Int) (A : Option Addr) (n ca : Nat) : Value := .agg #[.slice C len cc, .int .i64 vars, .slice A n ca]
set_option maxRecDepth 100000 in
set_option maxHeartbeats 8000000 in
theorem mayNumber_c (C : Option Addr) (len cc : Nat) (vars : Int) (A : Option Addr) (an ca : Nat) (o : Nat) (n : Int) (ho : o < 256) (hn : n ≤ 9223372036854775807) (w : World) (H : Ops w) :
    Calls Tryd.prog 46 #[PrV C len cc vars A an ca, In.val ⟨o, n⟩] w fun e w' => e = .returned (.bool (mayN len vars an ⟨o, n⟩)) ∧ Below w.heap.size w w' := by
  have hb1 := (Below.refl w.heap.size w).alloc (Nat.le_refl _) (.cells #[.slice C len cc, .int .i64 vars, .slice A an ca] 27)
  have hb2 := hb1.alloc hb1.size (.cells #[.int .u8 o, .int .i64 n] 23)
  have k2 := (Blk.new w 27 #[.slice C len cc, .int .i64 vars, .slice A an ca]).alloc (.cells #[.int .u8 o, .int .i64 n] 23)
  have k3 := Blk.new (w.alloc (.cells #[.slice C len cc, .int .i64 vars, .slice A an ca] 27)) 23 #[.int .u8 o, .int .i64 n]
  rw [show (w.alloc (.cells #[.slice C len cc, .int .i64 vars, .slice A an ca] 27)).heap.size = w.heap.size + 1 by simp] at k3
  unfold In.val PrV
  simp only
  go_enter Tryd.func46, Tryd.ntmps46
  go_upto_region 1 with (fail)
  generalize (w.alloc (.cells #[.slice C len cc, .int .i64 vars, .slice A an ca] 27)).alloc (.cells #[.int .u8 o, .int .i64 n] 23) = w2 at *
  have H2 := H.below hb2 (Nat.le_refl _)
  have p0 : w2.cell? ⟨w.heap.size, 0, none⟩ = some (.slice C len cc) := k2.cell 0
  have p1 : w2.cell? ⟨w.heap.size, 1, none⟩ = some (.int .i64 vars) := k2.cell 1
  have p2 : w2.cell? ⟨w.heap.size, 2, none⟩ = some (.slice A an ca) := k2.cell 2
  have x0 : w2.cell? ⟨w.heap.size + 1, 0, none⟩ = some (.int .u8 o) := k3.cell 0
  have x1 : w2.cell? ⟨w.heap.size + 1, 1, none⟩ = some (.int .i64 n) := k3.cell 1
  have NC := hide (Name_c o ho w2 H2)
  have HB := hide hb2
  have BC := hide (fun m => below_c m (w.heap.size + 1) o n w2 x1)
  have MC := hide (mayCall_c n hn w2)
  by_cases hr : 1 ≤ o ∧ o ≤ 29
  rotate_left
  · have e : (opO o).nm = ⟨#[]⟩ := by
      rcases Nat.lt_or_ge o 30 with h | h
      · obtain rfl : o = 0 := by omega
        rfl
      · unfold opO
        rw [Int.toNat_natCast, List.getD_eq_getElem?_getD, List.getElem?_eq_none (by show 30 ≤ o; omega)]
        rfl
    have E : Hid (mayN len vars an ⟨o, n⟩ = false) := hide (by
      unfold mayN
      by_cases h1 : (1 : Int) ≤ (o : Int)
      · rw [decide_eq_false (show ¬ ((⟨o, n⟩ : In).op ≤ 29) from fun h => by have : (o : Int) ≤ 29 := h; omega)]
        simp
      · rw [decide_eq_false (show ¬ (1 ≤ (⟨o, n⟩ : In).op) from h1)]
        simp)
    rw [e] at NC
    clear e BC MC
    go_wp2_with fail
    refine NC.out.mono ?_
    rintro e w' ⟨rfl, rfl⟩
    go_wp2_with fail
    go_ret
    exact ⟨by rw [E.out]; rfl, HB.out⟩
  have hnm := nm_some o hr.1 (by omega)
  obtain ⟨_, c1, _, _⟩ := H2.at_ (show o < 30 by omega)
  have RES : Hid (mayN len vars an ⟨o, n⟩ = (if numK o = 1 then true else if numK o = 2 then decide (0 ≤ n ∧ n < vars) else if numK o = 3 then decide (0 ≤ n ∧ n < (an : Int)) else if numK o = 4 then decide (0 ≤ n ∧ n < 10) else if numK o = 5 then decide (0 ≤ n ∧ n < (len : Int)) else if numK o = 6 then mayCl n else decide (n = 0))) := hide (by
    unfold mayN
    rw [decide_eq_true (show 1 ≤ (⟨o, n⟩ : In).op from by show (1 : Int) ≤ (o : Int); omega), decide_eq_true (show (⟨o, n⟩ : In).op ≤ 29 from by show (o : Int) ≤ 29; omega)]
    rfl)
  obtain ⟨_, _, _, _, k0, k6⟩ := opO_small o
  generalize numK o = K at *
  generalize (opO o).nm = nm at *
  have oI : (o : Int) < 30 := by omega
  clear k2 k3 H2 H hb1 hb2 hr
  go_wp2_with fail
  refine NC.out.mono ?_
  rintro e w' ⟨rfl, rfl⟩
  rcases (show K = 0 ∨ K = 1 ∨ K = 2 ∨ K = 3 ∨ K = 4 ∨ K = 5 ∨ K = 6 by omega) with rfl | rfl | rfl | rfl | rfl | rfl | rfl
  · -- 0
    go_wp2_with fail
    go_ret
    exact ⟨by rw [RES.out]; simp; first | done | exact (beq_iff_eq (a := n) (b := 0)) | (by_cases h : n = 0 <;> simp [h]), HB.out⟩
  · -- 1
    go_wp2_with fail
    go_ret
    exact ⟨by rw [RES.out]; simp, HB.out⟩
  · -- 2
    go_wp2_with fail
    refine (BC.out vars).mono ?_
    rintro e w' ⟨rfl, rfl⟩
    go_wp2_with fail
    go_ret
    exact ⟨by rw [RES.out]; simp, HB.out⟩
  · -- 3
    go_wp2_with fail
    refine (BC.out (an : Int)).mono ?_
    rintro e w' ⟨rfl, rfl⟩
    go_wp2_with fail
    go_ret
    exact ⟨by rw [RES.out]; simp, HB.out⟩
  · -- 4
    go_wp2_with fail
    refine (BC.out 10).mono ?_
    rintro e w' ⟨rfl, rfl⟩
    go_wp2_with fail
    go_ret
    exact ⟨by rw [RES.out]; simp, HB.out⟩
  · -- 5
    go_wp2_with fail
    refine (BC.out (len : Int)).mono ?_
    rintro e w' ⟨rfl, rfl⟩
    go_wp2_with fail
    go_ret
    exact ⟨by rw [RES.out]; simp, HB.out⟩
  · -- 6
    go_wp2_with fail
    refine MC.out.mono ?_
    rintro e w' ⟨rfl, rfl⟩
    go_wp2_with fail
    go_ret
    exact ⟨by rw [RES.out]; simp, HB.out⟩
end Cod
end Go.Proofs.YtoiibphbogpojaaDoor
