/- Whether a rank is made, its variables, a run. -/
import Derived.Test.YtoiibphbogpojaaDoorRows
import Derived.Test.YtoiibphbogpojaaDoorVmF
namespace Go.Proofs.YtoiibphbogpojaaDoor
open Go Go.RowKit Go.Proofs.YtoiibphbogpojaaDoor.Cod
set_option linter.unusedVariables false
set_option linter.unusedSimpArgs false
namespace Vm
section
variable {w : World} {r : Nat}
set_option maxRecDepth 100000 in
set_option maxHeartbeats 4000000 in
theorem made_c (sb : Addr) (h : w.cell? ⟨r, 4, none⟩ = some (.pointer (some sb))) :
    Calls Tryd.prog 15 #[.pointer (some ⟨r, 0, none⟩)] w fun e w' => e = .returned (.bool true) ∧ w' = w := by
  go_enter Tryd.func15, Tryd.ntmps15
  go_wp2_with fail
  go_ret
  exact ⟨rfl, rfl⟩
set_option maxRecDepth 100000 in
set_option maxHeartbeats 4000000 in
theorem Var_yes (sb : Addr) (h : w.cell? ⟨r, 4, none⟩ = some (.pointer (some sb))) (i nv cv vb : Nat) (z : Int) (hv : w.cell? ⟨r, 11, none⟩ = some (.slice (some ⟨vb, 0, none⟩) nv cv)) (hi : i < nv) (hz : w.cell? ⟨vb, i, none⟩ = some (.int .i64 z)) :
    Calls Tryd.prog 8 #[.pointer (some ⟨r, 0, none⟩), .int .i64 i] w fun e w' => e = .returned (.int .i64 z) ∧ w' = w := by
  have hi1 : (i : Int) < (nv : Int) := by omega
  have hi2 : ¬ (i : Int) < 0 := by omega
  have hi3 : ¬ (nv : Int) ≤ (i : Int) := by omega
  have H := hide h
  clear hi
  go_enter Tryd.func8, Tryd.ntmps8
  go_wp2_with fail
  refine (made_c sb H.out).mono ?_
  rintro e w' ⟨rfl, rfl⟩
  go_wp2_with fail
  go_ret
  exact ⟨rfl, rfl⟩
set_option maxRecDepth 100000 in
set_option maxHeartbeats 4000000 in
theorem Var_no (sb : Addr) (h : w.cell? ⟨r, 4, none⟩ = some (.pointer (some sb))) (i nv cv vb : Nat) (hv : w.cell? ⟨r, 11, none⟩ = some (.slice (some ⟨vb, 0, none⟩) nv cv)) (hi : nv ≤ i) :
    Calls Tryd.prog 8 #[.pointer (some ⟨r, 0, none⟩), .int .i64 i] w fun e w' => e = .returned (.int .i64 0) ∧ w' = w := by
  have hi2 : ¬ (i : Int) < 0 := by omega
  have hi3 : (nv : Int) ≤ (i : Int) := by omega
  have H := hide h
  clear hi
  go_enter Tryd.func8, Tryd.ntmps8
  go_wp2_with fail
  refine (made_c sb H.out).mono ?_
  rintro e w' ⟨rfl, rfl⟩
  go_wp2_with fail
  go_ret
  exact ⟨rfl, rfl⟩
set_option maxRecDepth 100000 in
set_option maxHeartbeats 8000000 in
/-- A run of N steps, each from one state to the next; behind the last one the rank does not go on. -/
theorem Run_c (P : Nat → World → Prop) (sb : Addr) (N steps : Nat) (z kind f : Int) (hrl : r < w.heap.size) (hsb : w.cell? ⟨r, 4, none⟩ = some (.pointer (some sb)))
    (hm : (w.alloc (.cells #[.int .u8 0, .int .u8 0, .int .i64 0, .int .i64 0, .int .i64 0, .int .i64 0, .int .i64 0, .int .i64 0, .int .u8 0, .slice none 0 0, .int .i64 0, .int .i64 0, .int .u8 0] 35)).cell? ⟨r, 4, none⟩ = some (.pointer (some sb)))
    (h0 : P 0 (w.alloc (.cells #[.int .u8 0, .int .u8 0, .int .i64 0, .int .i64 0, .int .i64 0, .int .i64 0, .int .i64 0, .int .i64 0, .int .u8 0, .slice none 0 0, .int .i64 0, .int .i64 0, .int .u8 0] 35)))
    (hi : ∀ u w1, u < N → P u w1 → w1.cell? ⟨r, 7, none⟩ = some (.int .u8 0))
    (hs : ∀ u w1, u < N → P u w1 → Calls Tryd.prog 16 #[.pointer (some ⟨r, 0, none⟩)] w1 fun e w' => e = .returned (.tuple #[]) ∧ P (u + 1) w')
    (he : ∀ w1, P N w1 → w1.cell? ⟨r, 7, none⟩ = some (.int .u8 z)) (hz : ¬ z = 0)
    (ho : ∀ w1, P N w1 → Calls Tryd.prog 17 #[.pointer (some ⟨r, 0, none⟩)] w1 fun e w' => e = .returned (.agg (outA kind f)) ∧ Below w1.heap.size w1 w')
    (hb : ∀ u w1 w', P u w1 → Below w1.heap.size w1 w' → P u w')
    (hk : ∀ u w1, P u w1 → Blk w1 w.heap.size 35 #[.int .u8 0, .int .u8 0, .int .i64 0, .int .i64 0, .int .i64 0, .int .i64 0, .int .i64 0, .int .i64 0, .int .u8 0, .slice none 0 0, .int .i64 0, .int .i64 0, .int .u8 0])
    (hN : N < steps) (hst : steps ≤ 1000000) :
    Calls Tryd.prog 6 #[.pointer (some ⟨r, 0, none⟩), .int .i64 steps] w fun e w' => e = .returned (.tuple #[.agg (outA kind f), .int .i64 N]) ∧ ∃ w1, P N w1 ∧ w1.heap.size ≤ w'.heap.size ∧ (∀ j, j < w.heap.size → w'.heap[j]? = w1.heap[j]?) ∧ ∀ B0 Wx, Below B0 Wx w1 → B0 ≤ w.heap.size → Below B0 Wx w' := by
  have HM := hide hm
  have H0 := hide h0
  have HI := hide hi
  have HS := hide hs
  have HE := hide he
  have HO := hide ho
  have HBB := hide hb
  have HK := hide hk
  have HN := hide hN
  have HST := hide hst
  have HSB := hide hsb
  clear hm h0 hi hs he ho hb hk hN hsb hst
  go_enter Tryd.func6, Tryd.ntmps6
  go_wp2_with fail
  refine (made_c sb HM.out).mono ?_
  rintro e w' ⟨rfl, rfl⟩
  go_wp2_with fail
  go_loopw [5] (fun i5 wr => ∃ u : Nat, i5 = .int .i64 u ∧ u ≤ N ∧ Hid (P u wr)) (fun i5 _ => N - (intOf i5).toNat)
  case atStart => exact ⟨0, rfl, by omega, H0⟩
  case round =>
    obtain ⟨u, rfl, huN, HP⟩ := hrel
    have g1 : (u : Int) < (steps : Int) := by have := HN.out; omega
    by_cases hu : u < N
    · have y7 := HI.out u wr hu HP.out
      have hs1 : IntKind.i64.wrap ((u : Int) + 1) = (u : Int) + 1 := by rw [IntKind.wrap_i64]; have := HN.out; have := HST.out; omega
      go_wp2_with fail
      refine (HS.out u wr hu HP.out).mono ?_
      rintro e w9 ⟨rfl, h9⟩
      have H9 := hide h9
      clear h9
      go_wp2_with fail
      go_roundw
      case rel => exact ⟨u + 1, by go_num, by omega, H9⟩
      case measure => simp [intOf]; omega
    · have e : u = N := by omega
      subst e
      have y7 := HE.out wr HP.out
      go_wp2_with fail
      refine (HO.out wr HP.out).mono ?_
      rintro e w9 ⟨rfl, h9⟩
      have HP9 := hide (HBB.out u wr w9 HP.out h9)
      have K9 := HK.out u w9 HP9.out
      have f0 := K9.frozen 0
      have c0 := K9.cell 0
      have K90 := K9.set_ 0 (.int .u8 kind)
      have f1 := K90.frozen 1
      have c1 := K90.cell 1
      have K91 := K90.set_ 1 (.int .u8 0)
      have f2 := K91.frozen 2
      have c2 := K91.cell 2
      have K92 := K91.set_ 2 (.int .i64 0)
      have f3 := K92.frozen 3
      have c3 := K92.cell 3
      have K93 := K92.set_ 3 (.int .i64 0)
      have f4 := K93.frozen 4
      have c4 := K93.cell 4
      have K94 := K93.set_ 4 (.int .i64 0)
      have f5 := K94.frozen 5
      have c5 := K94.cell 5
      have K95 := K94.set_ 5 (.int .i64 0)
      have f6 := K95.frozen 6
      have c6 := K95.cell 6
      have K96 := K95.set_ 6 (.int .i64 0)
      have f7 := K96.frozen 7
      have c7 := K96.cell 7
      have K97 := K96.set_ 7 (.int .i64 0)
      have f8 := K97.frozen 8
      have c8 := K97.cell 8
      have K98 := K97.set_ 8 (.int .u8 0)
      have f9 := K98.frozen 9
      have c9 := K98.cell 9
      have K99 := K98.set_ 9 (.slice none 0 0)
      have f10 := K99.frozen 10
      have c10 := K99.cell 10
      have K910 := K99.set_ 10 (.int .i64 0)
      have f11 := K910.frozen 11
      have c11 := K910.cell 11
      have K911 := K910.set_ 11 (.int .i64 0)
      have f12 := K911.frozen 12
      have c12 := K911.cell 12
      have K912 := K911.set_ 12 (.int .u8 f)
      have u0 := K912.cell 0
      have u1 := K912.cell 1
      have u2 := K912.cell 2
      have u3 := K912.cell 3
      have u4 := K912.cell 4
      have u5 := K912.cell 5
      have u6 := K912.cell 6
      have u7 := K912.cell 7
      have u8 := K912.cell 8
      have u9 := K912.cell 9
      have u10 := K912.cell 10
      have u11 := K912.cell 11
      have u12 := K912.cell 12
      clear K90 K91 K92 K93 K94 K95 K96 K97 K98 K99 K910 K911 K912
      have hj9 : ∀ j, j < w.heap.size → (((((((((((((w9.setCell ⟨w.heap.size, 0, none⟩ (.int .u8 kind)).setCell ⟨w.heap.size, 1, none⟩ (.int .u8 0)).setCell ⟨w.heap.size, 2, none⟩ (.int .i64 0)).setCell ⟨w.heap.size, 3, none⟩ (.int .i64 0)).setCell ⟨w.heap.size, 4, none⟩ (.int .i64 0)).setCell ⟨w.heap.size, 5, none⟩ (.int .i64 0)).setCell ⟨w.heap.size, 6, none⟩ (.int .i64 0)).setCell ⟨w.heap.size, 7, none⟩ (.int .i64 0)).setCell ⟨w.heap.size, 8, none⟩ (.int .u8 0)).setCell ⟨w.heap.size, 9, none⟩ (.slice none 0 0)).setCell ⟨w.heap.size, 10, none⟩ (.int .i64 0)).setCell ⟨w.heap.size, 11, none⟩ (.int .i64 0)).setCell ⟨w.heap.size, 12, none⟩ (.int .u8 f)).heap[j]? = w9.heap[j]? := fun j hj => by
        have hne : ∀ q : Nat, j ≠ (⟨w.heap.size, q, none⟩ : Addr).block := fun q e => by have e1 : j = w.heap.size := e; omega
        rw [Below.heap_setCell _ ⟨w.heap.size, 12, none⟩ _ j (hne 12), Below.heap_setCell _ ⟨w.heap.size, 11, none⟩ _ j (hne 11), Below.heap_setCell _ ⟨w.heap.size, 10, none⟩ _ j (hne 10), Below.heap_setCell _ ⟨w.heap.size, 9, none⟩ _ j (hne 9), Below.heap_setCell _ ⟨w.heap.size, 8, none⟩ _ j (hne 8), Below.heap_setCell _ ⟨w.heap.size, 7, none⟩ _ j (hne 7), Below.heap_setCell _ ⟨w.heap.size, 6, none⟩ _ j (hne 6), Below.heap_setCell _ ⟨w.heap.size, 5, none⟩ _ j (hne 5), Below.heap_setCell _ ⟨w.heap.size, 4, none⟩ _ j (hne 4), Below.heap_setCell _ ⟨w.heap.size, 3, none⟩ _ j (hne 3), Below.heap_setCell _ ⟨w.heap.size, 2, none⟩ _ j (hne 2), Below.heap_setCell _ ⟨w.heap.size, 1, none⟩ _ j (hne 1), Below.heap_setCell _ ⟨w.heap.size, 0, none⟩ _ j (hne 0)]
      have hs9 : (((((((((((((w9.setCell ⟨w.heap.size, 0, none⟩ (.int .u8 kind)).setCell ⟨w.heap.size, 1, none⟩ (.int .u8 0)).setCell ⟨w.heap.size, 2, none⟩ (.int .i64 0)).setCell ⟨w.heap.size, 3, none⟩ (.int .i64 0)).setCell ⟨w.heap.size, 4, none⟩ (.int .i64 0)).setCell ⟨w.heap.size, 5, none⟩ (.int .i64 0)).setCell ⟨w.heap.size, 6, none⟩ (.int .i64 0)).setCell ⟨w.heap.size, 7, none⟩ (.int .i64 0)).setCell ⟨w.heap.size, 8, none⟩ (.int .u8 0)).setCell ⟨w.heap.size, 9, none⟩ (.slice none 0 0)).setCell ⟨w.heap.size, 10, none⟩ (.int .i64 0)).setCell ⟨w.heap.size, 11, none⟩ (.int .i64 0)).setCell ⟨w.heap.size, 12, none⟩ (.int .u8 f)).heap.size = w9.heap.size := by simp [World.setCell]
      have hB9 : ∀ B0 Wx, Below B0 Wx w9 → B0 ≤ w.heap.size → Below B0 Wx (((((((((((((w9.setCell ⟨w.heap.size, 0, none⟩ (.int .u8 kind)).setCell ⟨w.heap.size, 1, none⟩ (.int .u8 0)).setCell ⟨w.heap.size, 2, none⟩ (.int .i64 0)).setCell ⟨w.heap.size, 3, none⟩ (.int .i64 0)).setCell ⟨w.heap.size, 4, none⟩ (.int .i64 0)).setCell ⟨w.heap.size, 5, none⟩ (.int .i64 0)).setCell ⟨w.heap.size, 6, none⟩ (.int .i64 0)).setCell ⟨w.heap.size, 7, none⟩ (.int .i64 0)).setCell ⟨w.heap.size, 8, none⟩ (.int .u8 0)).setCell ⟨w.heap.size, 9, none⟩ (.slice none 0 0)).setCell ⟨w.heap.size, 10, none⟩ (.int .i64 0)).setCell ⟨w.heap.size, 11, none⟩ (.int .i64 0)).setCell ⟨w.heap.size, 12, none⟩ (.int .u8 f)) := fun B0 Wx hb0 hb2 => (((((((((((((hb0.setCell (p := ⟨w.heap.size, 0, none⟩) hb2 _).setCell (p := ⟨w.heap.size, 1, none⟩) hb2 _).setCell (p := ⟨w.heap.size, 2, none⟩) hb2 _).setCell (p := ⟨w.heap.size, 3, none⟩) hb2 _).setCell (p := ⟨w.heap.size, 4, none⟩) hb2 _).setCell (p := ⟨w.heap.size, 5, none⟩) hb2 _).setCell (p := ⟨w.heap.size, 6, none⟩) hb2 _).setCell (p := ⟨w.heap.size, 7, none⟩) hb2 _).setCell (p := ⟨w.heap.size, 8, none⟩) hb2 _).setCell (p := ⟨w.heap.size, 9, none⟩) hb2 _).setCell (p := ⟨w.heap.size, 10, none⟩) hb2 _).setCell (p := ⟨w.heap.size, 11, none⟩) hb2 _).setCell (p := ⟨w.heap.size, 12, none⟩) hb2 _)
      have FIN := hide (And.intro HP9.out (And.intro (Nat.le_of_eq hs9.symm) (And.intro hj9 hB9)))
      unfold outA
      clear h9 hj9 hs9 hB9 K9
      go_wp2_with fail
      exact bodyPost_ret (v := .tuple #[.agg #[.int .u8 kind, .int .u8 0, .int .i64 0, .int .i64 0, .int .i64 0, .int .i64 0, .int .i64 0, .int .i64 0, .int .u8 0, .slice none 0 0, .int .i64 0, .int .i64 0, .int .u8 f], .int .i64 u]) (by simp [results, Tryd.results6, go_sem, u0, u1, u2, u3, u4, u5, u6, u7, u8, u9, u10, u11, u12]) rfl ⟨rfl, _, FIN.out⟩
end
end Vm
end Go.Proofs.YtoiibphbogpojaaDoor
