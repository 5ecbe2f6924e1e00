/- A run that ends at a call. -/
import Derived.Test.YtoiibphbogpojaaDoorRows
import Derived.Test.YtoiibphbogpojaaDoorVmAc
import Derived.Test.YtoiibphbogpojaaDoorVmG
namespace Go.Proofs.YtoiibphbogpojaaDoor
open Go Go.RowKit Go.Lib Go.Proofs.YtoiibphbogpojaaDoor.Cod
set_option linter.unusedVariables false
set_option linter.unusedSimpArgs false
namespace Vm
section
variable {w : World} {r : Nat}
set_option maxRecDepth 100000 in
set_option maxHeartbeats 8000000 in
theorem Run_d (k co pe tg va sz ro op cl ky : Int) (rq : List Int) (n : Nat) (hn : rq.length = n) (P : Nat → World → Prop) (sb : Addr) (N steps : Nat) (hrl : r < w.heap.size) (hsb : w.cell? ⟨r, 4, none⟩ = some (.pointer (some sb)))
    (hm : (w.alloc (.cells #[.int .u8 0, .int .u8 0, .int .i64 0, .int .i64 0, .int .i64 0, .int .i64 0, .int .i64 0, .int .i64 0, .int .u8 0, .slice none 0 0, .int .i64 0, .int .i64 0, .int .u8 0] 35)).cell? ⟨r, 4, none⟩ = some (.pointer (some sb)))
    (h0 : P 0 (w.alloc (.cells #[.int .u8 0, .int .u8 0, .int .i64 0, .int .i64 0, .int .i64 0, .int .i64 0, .int .i64 0, .int .i64 0, .int .u8 0, .slice none 0 0, .int .i64 0, .int .i64 0, .int .u8 0] 35)))
    (hi : ∀ u w1, u < N → P u w1 → w1.cell? ⟨r, 7, none⟩ = some (.int .u8 0))
    (hs : ∀ u w1, u < N → P u w1 → Calls Tryd.prog 16 #[.pointer (some ⟨r, 0, none⟩)] w1 fun e w' => e = .returned (.tuple #[]) ∧ P (u + 1) w')
    (he : ∀ w1, P N w1 → w1.cell? ⟨r, 7, none⟩ = some (.int .u8 1))
    (ho : ∀ w1, P N w1 → Calls Tryd.prog 17 #[.pointer (some ⟨r, 0, none⟩)] w1 fun e w' => ∃ rb rd, e = .returned (.agg #[.int .u8 1, .int .u8 k, .int .i64 co, .int .i64 pe, .int .i64 tg, .int .i64 va, .int .i64 sz, .int .i64 ro, .int .u8 op, .slice rb n rd, .int .i64 cl, .int .i64 ky, .int .u8 0]) ∧ RqAt w' w1.heap.size rb rd rq ∧ Below w1.heap.size w1 w')
    (hb : ∀ u w1 w', P u w1 → Below w1.heap.size w1 w' → P u w')
    (hk : ∀ u w1, P u w1 → Blk w1 w.heap.size 35 #[.int .u8 0, .int .u8 0, .int .i64 0, .int .i64 0, .int .i64 0, .int .i64 0, .int .i64 0, .int .i64 0, .int .u8 0, .slice none 0 0, .int .i64 0, .int .i64 0, .int .u8 0])
    (hN : N < steps) (hst : steps ≤ 1000000) :
    Calls Tryd.prog 6 #[.pointer (some ⟨r, 0, none⟩), .int .i64 steps] w fun e w' => ∃ (rb : Option Addr) (rd : Nat) (w1 w9 : World), e = .returned (.tuple #[.agg #[.int .u8 1, .int .u8 k, .int .i64 co, .int .i64 pe, .int .i64 tg, .int .i64 va, .int .i64 sz, .int .i64 ro, .int .u8 op, .slice rb n rd, .int .i64 cl, .int .i64 ky, .int .u8 0], .int .i64 N]) ∧ RqAt w' (w.heap.size + 1) rb rd rq ∧ P N w1 ∧ Below w1.heap.size w1 w9 ∧ w9.heap.size ≤ w'.heap.size ∧ (∀ j, j ≠ w.heap.size → w'.heap[j]? = w9.heap[j]?) ∧ ∀ B0 Wx, Below B0 Wx w9 → B0 ≤ w.heap.size → Below B0 Wx w' := by
  have HM := hide hm
  have H0 := hide h0
  have HI := hide hi
  have HS := hide hs
  have HE := hide he
  have HO := hide ho
  have HBB := hide hb
  have HK := hide hk
  have HN := hide hN
  have HST := hide hst
  have HSB := hide hsb
  have HLN := hide hn
  clear hm h0 hi hs he ho hb hk hN hsb hst hn
  go_enter Tryd.func6, Tryd.ntmps6
  go_wp2_with fail
  refine (made_c sb HM.out).mono ?_
  rintro e w' ⟨rfl, rfl⟩
  go_wp2_with fail
  go_loopw [5] (fun i5 wr => ∃ u : Nat, i5 = .int .i64 u ∧ u ≤ N ∧ Hid (P u wr)) (fun i5 _ => N - (RowKit.intOf i5).toNat)
  case atStart => exact ⟨0, rfl, by omega, H0⟩
  case round =>
    obtain ⟨u, rfl, huN, HP⟩ := hrel
    have g1 : (u : Int) < (steps : Int) := by have := HN.out; omega
    by_cases hu : u < N
    · have y7 := HI.out u wr hu HP.out
      have hs1 : IntKind.i64.wrap ((u : Int) + 1) = (u : Int) + 1 := by rw [IntKind.wrap_i64]; have := HN.out; have := HST.out; omega
      go_wp2_with fail
      refine (HS.out u wr hu HP.out).mono ?_
      rintro e w9 ⟨rfl, h9⟩
      have H9 := hide h9
      clear h9
      go_wp2_with fail
      go_roundw
      case rel => exact ⟨u + 1, by go_num, by omega, H9⟩
      case measure => simp [RowKit.intOf]; omega
    · have e : u = N := by omega
      subst e
      have y7 := HE.out wr HP.out
      go_wp2_with fail
      refine (HO.out wr HP.out).mono ?_
      rintro e w9 ⟨rb, rd, rfl, hq9, h9⟩
      have K9 := HK.out u w9 (HBB.out u wr w9 HP.out h9)
      have hlo := (HK.out u wr HP.out).lt
      have Q0 := hq9.mono (B' := w.heap.size + 1) hlo
      have f0 := K9.frozen 0
      have c0 := K9.cell 0
      have K90 := K9.set_ 0 (.int .u8 1)
      have Q1 := Q0.far (p := ⟨w.heap.size, 0, none⟩) (Nat.lt_succ_self _) (.int .u8 1)
      have f1 := K90.frozen 1
      have c1 := K90.cell 1
      have K91 := K90.set_ 1 (.int .u8 k)
      have Q2 := Q1.far (p := ⟨w.heap.size, 1, none⟩) (Nat.lt_succ_self _) (.int .u8 k)
      have f2 := K91.frozen 2
      have c2 := K91.cell 2
      have K92 := K91.set_ 2 (.int .i64 co)
      have Q3 := Q2.far (p := ⟨w.heap.size, 2, none⟩) (Nat.lt_succ_self _) (.int .i64 co)
      have f3 := K92.frozen 3
      have c3 := K92.cell 3
      have K93 := K92.set_ 3 (.int .i64 pe)
      have Q4 := Q3.far (p := ⟨w.heap.size, 3, none⟩) (Nat.lt_succ_self _) (.int .i64 pe)
      have f4 := K93.frozen 4
      have c4 := K93.cell 4
      have K94 := K93.set_ 4 (.int .i64 tg)
      have Q5 := Q4.far (p := ⟨w.heap.size, 4, none⟩) (Nat.lt_succ_self _) (.int .i64 tg)
      have f5 := K94.frozen 5
      have c5 := K94.cell 5
      have K95 := K94.set_ 5 (.int .i64 va)
      have Q6 := Q5.far (p := ⟨w.heap.size, 5, none⟩) (Nat.lt_succ_self _) (.int .i64 va)
      have f6 := K95.frozen 6
      have c6 := K95.cell 6
      have K96 := K95.set_ 6 (.int .i64 sz)
      have Q7 := Q6.far (p := ⟨w.heap.size, 6, none⟩) (Nat.lt_succ_self _) (.int .i64 sz)
      have f7 := K96.frozen 7
      have c7 := K96.cell 7
      have K97 := K96.set_ 7 (.int .i64 ro)
      have Q8 := Q7.far (p := ⟨w.heap.size, 7, none⟩) (Nat.lt_succ_self _) (.int .i64 ro)
      have f8 := K97.frozen 8
      have c8 := K97.cell 8
      have K98 := K97.set_ 8 (.int .u8 op)
      have Q9 := Q8.far (p := ⟨w.heap.size, 8, none⟩) (Nat.lt_succ_self _) (.int .u8 op)
      have f9 := K98.frozen 9
      have c9 := K98.cell 9
      have K99 := K98.set_ 9 (.slice rb n rd)
      have Q10 := Q9.far (p := ⟨w.heap.size, 9, none⟩) (Nat.lt_succ_self _) (.slice rb n rd)
      have f10 := K99.frozen 10
      have c10 := K99.cell 10
      have K910 := K99.set_ 10 (.int .i64 cl)
      have Q11 := Q10.far (p := ⟨w.heap.size, 10, none⟩) (Nat.lt_succ_self _) (.int .i64 cl)
      have f11 := K910.frozen 11
      have c11 := K910.cell 11
      have K911 := K910.set_ 11 (.int .i64 ky)
      have Q12 := Q11.far (p := ⟨w.heap.size, 11, none⟩) (Nat.lt_succ_self _) (.int .i64 ky)
      have f12 := K911.frozen 12
      have c12 := K911.cell 12
      have K912 := K911.set_ 12 (.int .u8 0)
      have Q13 := Q12.far (p := ⟨w.heap.size, 12, none⟩) (Nat.lt_succ_self _) (.int .u8 0)
      have u0 := K912.cell 0
      have u1 := K912.cell 1
      have u2 := K912.cell 2
      have u3 := K912.cell 3
      have u4 := K912.cell 4
      have u5 := K912.cell 5
      have u6 := K912.cell 6
      have u7 := K912.cell 7
      have u8 := K912.cell 8
      have u9 := K912.cell 9
      have u10 := K912.cell 10
      have u11 := K912.cell 11
      have u12 := K912.cell 12
      have hj9 : ∀ j, j ≠ w.heap.size → (((((((((((((w9.setCell ⟨w.heap.size, 0, none⟩ (.int .u8 1)).setCell ⟨w.heap.size, 1, none⟩ (.int .u8 k)).setCell ⟨w.heap.size, 2, none⟩ (.int .i64 co)).setCell ⟨w.heap.size, 3, none⟩ (.int .i64 pe)).setCell ⟨w.heap.size, 4, none⟩ (.int .i64 tg)).setCell ⟨w.heap.size, 5, none⟩ (.int .i64 va)).setCell ⟨w.heap.size, 6, none⟩ (.int .i64 sz)).setCell ⟨w.heap.size, 7, none⟩ (.int .i64 ro)).setCell ⟨w.heap.size, 8, none⟩ (.int .u8 op)).setCell ⟨w.heap.size, 9, none⟩ (.slice rb n rd)).setCell ⟨w.heap.size, 10, none⟩ (.int .i64 cl)).setCell ⟨w.heap.size, 11, none⟩ (.int .i64 ky)).setCell ⟨w.heap.size, 12, none⟩ (.int .u8 0)).heap[j]? = w9.heap[j]? := fun j hj => by
        have hne : ∀ q : Nat, j ≠ (⟨w.heap.size, q, none⟩ : Addr).block := fun q e => hj e
        rw [Below.heap_setCell _ ⟨w.heap.size, 12, none⟩ _ j (hne 12), Below.heap_setCell _ ⟨w.heap.size, 11, none⟩ _ j (hne 11), Below.heap_setCell _ ⟨w.heap.size, 10, none⟩ _ j (hne 10), Below.heap_setCell _ ⟨w.heap.size, 9, none⟩ _ j (hne 9), Below.heap_setCell _ ⟨w.heap.size, 8, none⟩ _ j (hne 8), Below.heap_setCell _ ⟨w.heap.size, 7, none⟩ _ j (hne 7), Below.heap_setCell _ ⟨w.heap.size, 6, none⟩ _ j (hne 6), Below.heap_setCell _ ⟨w.heap.size, 5, none⟩ _ j (hne 5), Below.heap_setCell _ ⟨w.heap.size, 4, none⟩ _ j (hne 4), Below.heap_setCell _ ⟨w.heap.size, 3, none⟩ _ j (hne 3), Below.heap_setCell _ ⟨w.heap.size, 2, none⟩ _ j (hne 2), Below.heap_setCell _ ⟨w.heap.size, 1, none⟩ _ j (hne 1), Below.heap_setCell _ ⟨w.heap.size, 0, none⟩ _ j (hne 0)]
      have hs9 : (((((((((((((w9.setCell ⟨w.heap.size, 0, none⟩ (.int .u8 1)).setCell ⟨w.heap.size, 1, none⟩ (.int .u8 k)).setCell ⟨w.heap.size, 2, none⟩ (.int .i64 co)).setCell ⟨w.heap.size, 3, none⟩ (.int .i64 pe)).setCell ⟨w.heap.size, 4, none⟩ (.int .i64 tg)).setCell ⟨w.heap.size, 5, none⟩ (.int .i64 va)).setCell ⟨w.heap.size, 6, none⟩ (.int .i64 sz)).setCell ⟨w.heap.size, 7, none⟩ (.int .i64 ro)).setCell ⟨w.heap.size, 8, none⟩ (.int .u8 op)).setCell ⟨w.heap.size, 9, none⟩ (.slice rb n rd)).setCell ⟨w.heap.size, 10, none⟩ (.int .i64 cl)).setCell ⟨w.heap.size, 11, none⟩ (.int .i64 ky)).setCell ⟨w.heap.size, 12, none⟩ (.int .u8 0)).heap.size = w9.heap.size := by simp [World.setCell]
      have hB9 : ∀ B0 Wx, Below B0 Wx w9 → B0 ≤ w.heap.size → Below B0 Wx (((((((((((((w9.setCell ⟨w.heap.size, 0, none⟩ (.int .u8 1)).setCell ⟨w.heap.size, 1, none⟩ (.int .u8 k)).setCell ⟨w.heap.size, 2, none⟩ (.int .i64 co)).setCell ⟨w.heap.size, 3, none⟩ (.int .i64 pe)).setCell ⟨w.heap.size, 4, none⟩ (.int .i64 tg)).setCell ⟨w.heap.size, 5, none⟩ (.int .i64 va)).setCell ⟨w.heap.size, 6, none⟩ (.int .i64 sz)).setCell ⟨w.heap.size, 7, none⟩ (.int .i64 ro)).setCell ⟨w.heap.size, 8, none⟩ (.int .u8 op)).setCell ⟨w.heap.size, 9, none⟩ (.slice rb n rd)).setCell ⟨w.heap.size, 10, none⟩ (.int .i64 cl)).setCell ⟨w.heap.size, 11, none⟩ (.int .i64 ky)).setCell ⟨w.heap.size, 12, none⟩ (.int .u8 0)) := fun B0 Wx hb0 hb2 => (((((((((((((hb0.setCell (p := ⟨w.heap.size, 0, none⟩) hb2 _).setCell (p := ⟨w.heap.size, 1, none⟩) hb2 _).setCell (p := ⟨w.heap.size, 2, none⟩) hb2 _).setCell (p := ⟨w.heap.size, 3, none⟩) hb2 _).setCell (p := ⟨w.heap.size, 4, none⟩) hb2 _).setCell (p := ⟨w.heap.size, 5, none⟩) hb2 _).setCell (p := ⟨w.heap.size, 6, none⟩) hb2 _).setCell (p := ⟨w.heap.size, 7, none⟩) hb2 _).setCell (p := ⟨w.heap.size, 8, none⟩) hb2 _).setCell (p := ⟨w.heap.size, 9, none⟩) hb2 _).setCell (p := ⟨w.heap.size, 10, none⟩) hb2 _).setCell (p := ⟨w.heap.size, 11, none⟩) hb2 _).setCell (p := ⟨w.heap.size, 12, none⟩) hb2 _)
      have FIN := hide (show ∃ (rb' : Option Addr) (rd' : Nat) (w1 wx : World), (Ending.returned (.tuple #[.agg #[.int .u8 1, .int .u8 k, .int .i64 co, .int .i64 pe, .int .i64 tg, .int .i64 va, .int .i64 sz, .int .i64 ro, .int .u8 op, .slice rb n rd, .int .i64 cl, .int .i64 ky, .int .u8 0], .int .i64 u])) = .returned (.tuple #[.agg #[.int .u8 1, .int .u8 k, .int .i64 co, .int .i64 pe, .int .i64 tg, .int .i64 va, .int .i64 sz, .int .i64 ro, .int .u8 op, .slice rb' n rd', .int .i64 cl, .int .i64 ky, .int .u8 0], .int .i64 u]) ∧ RqAt (((((((((((((w9.setCell ⟨w.heap.size, 0, none⟩ (.int .u8 1)).setCell ⟨w.heap.size, 1, none⟩ (.int .u8 k)).setCell ⟨w.heap.size, 2, none⟩ (.int .i64 co)).setCell ⟨w.heap.size, 3, none⟩ (.int .i64 pe)).setCell ⟨w.heap.size, 4, none⟩ (.int .i64 tg)).setCell ⟨w.heap.size, 5, none⟩ (.int .i64 va)).setCell ⟨w.heap.size, 6, none⟩ (.int .i64 sz)).setCell ⟨w.heap.size, 7, none⟩ (.int .i64 ro)).setCell ⟨w.heap.size, 8, none⟩ (.int .u8 op)).setCell ⟨w.heap.size, 9, none⟩ (.slice rb n rd)).setCell ⟨w.heap.size, 10, none⟩ (.int .i64 cl)).setCell ⟨w.heap.size, 11, none⟩ (.int .i64 ky)).setCell ⟨w.heap.size, 12, none⟩ (.int .u8 0)) (w.heap.size + 1) rb' rd' rq ∧ P u w1 ∧ Below w1.heap.size w1 wx ∧ wx.heap.size ≤ (((((((((((((w9.setCell ⟨w.heap.size, 0, none⟩ (.int .u8 1)).setCell ⟨w.heap.size, 1, none⟩ (.int .u8 k)).setCell ⟨w.heap.size, 2, none⟩ (.int .i64 co)).setCell ⟨w.heap.size, 3, none⟩ (.int .i64 pe)).setCell ⟨w.heap.size, 4, none⟩ (.int .i64 tg)).setCell ⟨w.heap.size, 5, none⟩ (.int .i64 va)).setCell ⟨w.heap.size, 6, none⟩ (.int .i64 sz)).setCell ⟨w.heap.size, 7, none⟩ (.int .i64 ro)).setCell ⟨w.heap.size, 8, none⟩ (.int .u8 op)).setCell ⟨w.heap.size, 9, none⟩ (.slice rb n rd)).setCell ⟨w.heap.size, 10, none⟩ (.int .i64 cl)).setCell ⟨w.heap.size, 11, none⟩ (.int .i64 ky)).setCell ⟨w.heap.size, 12, none⟩ (.int .u8 0)).heap.size ∧ (∀ j, j ≠ w.heap.size → (((((((((((((w9.setCell ⟨w.heap.size, 0, none⟩ (.int .u8 1)).setCell ⟨w.heap.size, 1, none⟩ (.int .u8 k)).setCell ⟨w.heap.size, 2, none⟩ (.int .i64 co)).setCell ⟨w.heap.size, 3, none⟩ (.int .i64 pe)).setCell ⟨w.heap.size, 4, none⟩ (.int .i64 tg)).setCell ⟨w.heap.size, 5, none⟩ (.int .i64 va)).setCell ⟨w.heap.size, 6, none⟩ (.int .i64 sz)).setCell ⟨w.heap.size, 7, none⟩ (.int .i64 ro)).setCell ⟨w.heap.size, 8, none⟩ (.int .u8 op)).setCell ⟨w.heap.size, 9, none⟩ (.slice rb n rd)).setCell ⟨w.heap.size, 10, none⟩ (.int .i64 cl)).setCell ⟨w.heap.size, 11, none⟩ (.int .i64 ky)).setCell ⟨w.heap.size, 12, none⟩ (.int .u8 0)).heap[j]? = wx.heap[j]?) ∧ ∀ B0 Wx, Below B0 Wx wx → B0 ≤ w.heap.size → Below B0 Wx (((((((((((((w9.setCell ⟨w.heap.size, 0, none⟩ (.int .u8 1)).setCell ⟨w.heap.size, 1, none⟩ (.int .u8 k)).setCell ⟨w.heap.size, 2, none⟩ (.int .i64 co)).setCell ⟨w.heap.size, 3, none⟩ (.int .i64 pe)).setCell ⟨w.heap.size, 4, none⟩ (.int .i64 tg)).setCell ⟨w.heap.size, 5, none⟩ (.int .i64 va)).setCell ⟨w.heap.size, 6, none⟩ (.int .i64 sz)).setCell ⟨w.heap.size, 7, none⟩ (.int .i64 ro)).setCell ⟨w.heap.size, 8, none⟩ (.int .u8 op)).setCell ⟨w.heap.size, 9, none⟩ (.slice rb n rd)).setCell ⟨w.heap.size, 10, none⟩ (.int .i64 cl)).setCell ⟨w.heap.size, 11, none⟩ (.int .i64 ky)).setCell ⟨w.heap.size, 12, none⟩ (.int .u8 0)) from ⟨rb, rd, wr, w9, rfl, Q13, HP.out, h9, Nat.le_of_eq hs9.symm, hj9, hB9⟩)
      clear K90 K91 K92 K93 K94 K95 K96 K97 K98 K99 K910 K911 K912 Q0 Q1 Q2 Q3 Q4 Q5 Q6 Q7 Q8 Q9 Q10 Q11 Q12 Q13 h9 hj9 hs9 hB9 K9 hq9 hlo
      go_wp2_with fail
      exact bodyPost_ret (v := .tuple #[.agg #[.int .u8 1, .int .u8 k, .int .i64 co, .int .i64 pe, .int .i64 tg, .int .i64 va, .int .i64 sz, .int .i64 ro, .int .u8 op, .slice rb n rd, .int .i64 cl, .int .i64 ky, .int .u8 0], .int .i64 u]) (by simp [results, Tryd.results6, go_sem, u0, u1, u2, u3, u4, u5, u6, u7, u8, u9, u10, u11, u12]) rfl FIN.out
end
end Vm
end Go.Proofs.YtoiibphbogpojaaDoor
