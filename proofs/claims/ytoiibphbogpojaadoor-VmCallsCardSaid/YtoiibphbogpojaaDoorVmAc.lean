/- What a rank tells of itself when it waits. -/
import Derived.Test.YtoiibphbogpojaaDoorRows
import Derived.Test.YtoiibphbogpojaaDoorVmAa
import Derived.Test.YtoiibphbogpojaaDoorVmU
import Derived.Test.YtoiibphbogpojaaDoorVmF
import Derived.Test.YtoiibphbogpojaaDoorVmAb
namespace Go.Proofs.YtoiibphbogpojaaDoor
open Go Go.RowKit Go.Lib Go.Proofs.YtoiibphbogpojaaDoor.Cod
set_option linter.unusedVariables false
set_option linter.unusedSimpArgs false
namespace Vm
/-- What a run came to that ends at a call. -/
def Cl.O (C : Cl) (ra : Option Addr) (rc : Nat) : Array Value := #[.int .u8 1, .int .u8 C.k, .int .i64 C.co, .int .i64 C.pe, .int .i64 C.tg, .int .i64 C.va, .int .i64 C.sz, .int .i64 C.ro, .int .u8 C.op, .slice ra C.rq.length rc, .int .i64 C.cl, .int .i64 C.ky, .int .u8 0]
section
variable {w : World} {r : Nat}
set_option maxRecDepth 100000 in
set_option maxHeartbeats 8000000 in
theorem out_call0 (k co pe tg va sz ro op cl ky : Int) (y7 : w.cell? ⟨r, 7, none⟩ = some (.int .u8 1))
    (y21 : w.cell? ⟨r, 21, none⟩ = some (.int .u8 k))
    (y22 : w.cell? ⟨r, 22, none⟩ = some (.int .i64 co))
    (y23 : w.cell? ⟨r, 23, none⟩ = some (.int .i64 pe))
    (y24 : w.cell? ⟨r, 24, none⟩ = some (.int .i64 tg))
    (y25 : w.cell? ⟨r, 25, none⟩ = some (.int .i64 va))
    (y26 : w.cell? ⟨r, 26, none⟩ = some (.int .i64 sz))
    (y27 : w.cell? ⟨r, 27, none⟩ = some (.int .i64 ro))
    (y28 : w.cell? ⟨r, 28, none⟩ = some (.int .u8 op))
    (y29 : w.cell? ⟨r, 29, none⟩ = some (.slice none 0 0))
    (y30 : w.cell? ⟨r, 30, none⟩ = some (.int .i64 cl))
    (y31 : w.cell? ⟨r, 31, none⟩ = some (.int .i64 ky))
    : Calls Tryd.prog 17 #[.pointer (some ⟨r, 0, none⟩)] w fun e w' => e = .returned (.agg #[.int .u8 1, .int .u8 k, .int .i64 co, .int .i64 pe, .int .i64 tg, .int .i64 va, .int .i64 sz, .int .i64 ro, .int .u8 op, .slice none 0 0, .int .i64 cl, .int .i64 ky, .int .u8 0]) ∧ Below w.heap.size w w' := by
  have hrl : r < w.heap.size := block_lt_of_cell y7
  have HB := hide (((Below.refl w.heap.size w).alloc (Nat.le_refl _) (.cells #[.int .u8 1, .int .u8 k, .int .i64 co, .int .i64 pe, .int .i64 tg, .int .i64 va, .int .i64 sz, .int .i64 ro, .int .u8 op, .slice none 0 0, .int .i64 cl, .int .i64 ky, .int .u8 0] 35)).alloc (by simp) (.cells #[.int .u8 k, .int .i64 co, .int .i64 pe, .int .i64 tg, .int .i64 va, .int .i64 sz, .int .i64 ro, .int .u8 op, .slice none 0 0, .int .i64 cl, .int .i64 ky] 33))
  have q1 := Blk.new w 35 #[.int .u8 1, .int .u8 k, .int .i64 co, .int .i64 pe, .int .i64 tg, .int .i64 va, .int .i64 sz, .int .i64 ro, .int .u8 op, .slice none 0 0, .int .i64 cl, .int .i64 ky, .int .u8 0]
  have q2 := q1.below ((Below.refl _ _).alloc (Nat.le_refl _) (.cells #[.int .u8 k, .int .i64 co, .int .i64 pe, .int .i64 tg, .int .i64 va, .int .i64 sz, .int .i64 ro, .int .u8 op, .slice none 0 0, .int .i64 cl, .int .i64 ky] 33)) q1.lt
  have u0 := q2.cell 0
  have u1 := q2.cell 1
  have u2 := q2.cell 2
  have u3 := q2.cell 3
  have u4 := q2.cell 4
  have u5 := q2.cell 5
  have u6 := q2.cell 6
  have u7 := q2.cell 7
  have u8 := q2.cell 8
  have u9 := q2.cell 9
  have u10 := q2.cell 10
  have u11 := q2.cell 11
  have u12 := q2.cell 12
  clear q1 q2
  go_enter Tryd.func17, Tryd.ntmps17
  go_wp2_with fail
  refine (copied_no none 0 _).mono ?_
  rintro e w' ⟨rfl, rfl⟩
  go_wp2_with fail
  exact bodyPost_ret (v := .agg #[.int .u8 1, .int .u8 k, .int .i64 co, .int .i64 pe, .int .i64 tg, .int .i64 va, .int .i64 sz, .int .i64 ro, .int .u8 op, .slice none 0 0, .int .i64 cl, .int .i64 ky, .int .u8 0]) (by simp [results, Tryd.results17, go_sem, u0, u1, u2, u3, u4, u5, u6, u7, u8, u9, u10, u11, u12]) rfl ⟨rfl, HB.out⟩
set_option maxRecDepth 100000 in
set_option maxHeartbeats 8000000 in
theorem out_call1 (k co pe tg va sz ro op cl ky : Int) (rq : List Int) (n g rc : Nat) (hn : rq.length = n) (h0 : 0 < n) (h8 : n ≤ 1000) (hg : g < w.heap.size) (hc : ∀ j, j < n → w.cell? ⟨g, j, none⟩ = some (.int .i64 (rq.getD j 0))) (y7 : w.cell? ⟨r, 7, none⟩ = some (.int .u8 1))
    (y21 : w.cell? ⟨r, 21, none⟩ = some (.int .u8 k))
    (y22 : w.cell? ⟨r, 22, none⟩ = some (.int .i64 co))
    (y23 : w.cell? ⟨r, 23, none⟩ = some (.int .i64 pe))
    (y24 : w.cell? ⟨r, 24, none⟩ = some (.int .i64 tg))
    (y25 : w.cell? ⟨r, 25, none⟩ = some (.int .i64 va))
    (y26 : w.cell? ⟨r, 26, none⟩ = some (.int .i64 sz))
    (y27 : w.cell? ⟨r, 27, none⟩ = some (.int .i64 ro))
    (y28 : w.cell? ⟨r, 28, none⟩ = some (.int .u8 op))
    (y29 : w.cell? ⟨r, 29, none⟩ = some (.slice (some ⟨g, 0, none⟩) n rc))
    (y30 : w.cell? ⟨r, 30, none⟩ = some (.int .i64 cl))
    (y31 : w.cell? ⟨r, 31, none⟩ = some (.int .i64 ky))
    : Calls Tryd.prog 17 #[.pointer (some ⟨r, 0, none⟩)] w fun e w' => ∃ h : Nat, e = .returned (.agg #[.int .u8 1, .int .u8 k, .int .i64 co, .int .i64 pe, .int .i64 tg, .int .i64 va, .int .i64 sz, .int .i64 ro, .int .u8 op, .slice (some ⟨h, 0, none⟩) n n, .int .i64 cl, .int .i64 ky, .int .u8 0]) ∧ RqAt w' w.heap.size (some ⟨h, 0, none⟩) n rq ∧ Below w.heap.size w w' := by
  have hrl : r < w.heap.size := block_lt_of_cell y7
  have b2 := ((Below.refl w.heap.size w).alloc (Nat.le_refl _) (.cells #[.int .u8 0, .int .u8 0, .int .i64 0, .int .i64 0, .int .i64 0, .int .i64 0, .int .i64 0, .int .i64 0, .int .u8 0, .slice none 0 0, .int .i64 0, .int .i64 0, .int .u8 0] 35)).alloc (by simp) (.cells #[.int .u8 k, .int .i64 co, .int .i64 pe, .int .i64 tg, .int .i64 va, .int .i64 sz, .int .i64 ro, .int .u8 op, .slice (some ⟨g, 0, none⟩) n rc, .int .i64 cl, .int .i64 ky] 33)
  have q1 := (Blk.new w 35 #[.int .u8 0, .int .u8 0, .int .i64 0, .int .i64 0, .int .i64 0, .int .i64 0, .int .i64 0, .int .i64 0, .int .u8 0, .slice none 0 0, .int .i64 0, .int .i64 0, .int .u8 0])
  have q2 := q1.below ((Below.refl _ _).alloc (Nat.le_refl _) (.cells #[.int .u8 k, .int .i64 co, .int .i64 pe, .int .i64 tg, .int .i64 va, .int .i64 sz, .int .i64 ro, .int .u8 op, .slice (some ⟨g, 0, none⟩) n rc, .int .i64 cl, .int .i64 ky] 33)) q1.lt
  have q3 := Blk.new (w.alloc (.cells #[.int .u8 0, .int .u8 0, .int .i64 0, .int .i64 0, .int .i64 0, .int .i64 0, .int .i64 0, .int .i64 0, .int .u8 0, .slice none 0 0, .int .i64 0, .int .i64 0, .int .u8 0] 35)) 33 #[.int .u8 k, .int .i64 co, .int .i64 pe, .int .i64 tg, .int .i64 va, .int .i64 sz, .int .i64 ro, .int .u8 op, .slice (some ⟨g, 0, none⟩) n rc, .int .i64 cl, .int .i64 ky]
  have hs1 : (w.alloc (.cells #[.int .u8 0, .int .u8 0, .int .i64 0, .int .i64 0, .int .i64 0, .int .i64 0, .int .i64 0, .int .i64 0, .int .u8 0, .slice none 0 0, .int .i64 0, .int .i64 0, .int .u8 0] 35)).heap.size = w.heap.size + 1 := by simp
  have hs2 : ((w.alloc (.cells #[.int .u8 0, .int .u8 0, .int .i64 0, .int .i64 0, .int .i64 0, .int .i64 0, .int .i64 0, .int .i64 0, .int .u8 0, .slice none 0 0, .int .i64 0, .int .i64 0, .int .u8 0] 35)).alloc (.cells #[.int .u8 k, .int .i64 co, .int .i64 pe, .int .i64 tg, .int .i64 va, .int .i64 sz, .int .i64 ro, .int .u8 op, .slice (some ⟨g, 0, none⟩) n rc, .int .i64 cl, .int .i64 ky] 33)).heap.size = w.heap.size + 2 := by simp
  rw [hs1] at q3
  have CPY := hide (copied_yes g n rc (i64s rq) ((w.alloc (.cells #[.int .u8 0, .int .u8 0, .int .i64 0, .int .i64 0, .int .i64 0, .int .i64 0, .int .i64 0, .int .i64 0, .int .u8 0, .slice none 0 0, .int .i64 0, .int .i64 0, .int .u8 0] 35)).alloc (.cells #[.int .u8 k, .int .i64 co, .int .i64 pe, .int .i64 tg, .int .i64 va, .int .i64 sz, .int .i64 ro, .int .u8 op, .slice (some ⟨g, 0, none⟩) n rc, .int .i64 cl, .int .i64 ky] 33)) h8 h0 (by simp [i64s, hn]) (by intro v hv; unfold i64s at hv; obtain ⟨z, _, rfl⟩ := List.mem_map.1 hv; rfl) (by rw [hs2]; omega) (fun j v hv => by
    have hj : j < n := by rw [← hn]; have := (List.getElem?_eq_some_iff.1 hv).1; simpa [i64s] using this
    have e := hc j hj
    unfold i64s at hv
    rw [List.getElem?_map, List.getElem?_eq_getElem (by rw [hn]; exact hj)] at hv
    rw [List.getD, List.getElem?_eq_getElem (by rw [hn]; exact hj)] at e
    rw [World.cell?_of_block (w := w) (a := ⟨g, j, none⟩) (b2.block g hg), e]
    exact hv))
  obtain ⟨w2, hw2⟩ : ∃ y, ((w.alloc (.cells #[.int .u8 0, .int .u8 0, .int .i64 0, .int .i64 0, .int .i64 0, .int .i64 0, .int .i64 0, .int .i64 0, .int .u8 0, .slice none 0 0, .int .i64 0, .int .i64 0, .int .u8 0] 35)).alloc (.cells #[.int .u8 k, .int .i64 co, .int .i64 pe, .int .i64 tg, .int .i64 va, .int .i64 sz, .int .i64 ro, .int .u8 op, .slice (some ⟨g, 0, none⟩) n rc, .int .i64 cl, .int .i64 ky] 33)) = y := ⟨_, rfl⟩
  rw [hw2] at CPY q2 q3 b2 hs2
  have HW2 := hide hw2
  have B2 := hide b2
  have Q2 := hide q2
  have Q3 := hide q3
  have HS2 := hide hs2
  have HN := hide hn
  have H00 := hide h0
  clear hw2 b2 q1 q2 q3 hs1 hs2 hc hg hn h0 h8
  go_enter Tryd.func17, Tryd.ntmps17
  go_wp2_with fail
  rw [HW2.out]
  refine CPY.out.mono ?_
  rintro e w3 ⟨h, cur, rfl, hh, hb, hcur, hb3⟩
  have K := Q2.out.below hb3 Q2.out.lt
  have L := Q3.out.below hb3 Q3.out.lt
  have hne : w.heap.size ≠ w.heap.size + 1 := by omega
  have hh1 : h ≠ w.heap.size := by have := HS2.out; omega
  have hh2 : h ≠ w.heap.size + 1 := by have := HS2.out; omega
  have HBB := B2.out.trans (hb3.mono B2.out.size)
  have f8 := L.frozen 8
  have c8 := L.cell 8
  have L1 := L.set_ 8 (.slice (some ⟨h, 0, none⟩) n n)
  have v0 : (w3.setCell ⟨w.heap.size + 1, 8, none⟩ (.slice (some ⟨h, 0, none⟩) n n)).cell? ⟨w.heap.size + 1, 0, none⟩ = some (.int .u8 k) := L1.cell 0
  have v1 : (w3.setCell ⟨w.heap.size + 1, 8, none⟩ (.slice (some ⟨h, 0, none⟩) n n)).cell? ⟨w.heap.size + 1, 1, none⟩ = some (.int .i64 co) := L1.cell 1
  have v2 : (w3.setCell ⟨w.heap.size + 1, 8, none⟩ (.slice (some ⟨h, 0, none⟩) n n)).cell? ⟨w.heap.size + 1, 2, none⟩ = some (.int .i64 pe) := L1.cell 2
  have v3 : (w3.setCell ⟨w.heap.size + 1, 8, none⟩ (.slice (some ⟨h, 0, none⟩) n n)).cell? ⟨w.heap.size + 1, 3, none⟩ = some (.int .i64 tg) := L1.cell 3
  have v4 : (w3.setCell ⟨w.heap.size + 1, 8, none⟩ (.slice (some ⟨h, 0, none⟩) n n)).cell? ⟨w.heap.size + 1, 4, none⟩ = some (.int .i64 va) := L1.cell 4
  have v5 : (w3.setCell ⟨w.heap.size + 1, 8, none⟩ (.slice (some ⟨h, 0, none⟩) n n)).cell? ⟨w.heap.size + 1, 5, none⟩ = some (.int .i64 sz) := L1.cell 5
  have v6 : (w3.setCell ⟨w.heap.size + 1, 8, none⟩ (.slice (some ⟨h, 0, none⟩) n n)).cell? ⟨w.heap.size + 1, 6, none⟩ = some (.int .i64 ro) := L1.cell 6
  have v7 : (w3.setCell ⟨w.heap.size + 1, 8, none⟩ (.slice (some ⟨h, 0, none⟩) n n)).cell? ⟨w.heap.size + 1, 7, none⟩ = some (.int .u8 op) := L1.cell 7
  have v8 : (w3.setCell ⟨w.heap.size + 1, 8, none⟩ (.slice (some ⟨h, 0, none⟩) n n)).cell? ⟨w.heap.size + 1, 8, none⟩ = some (.slice (some ⟨h, 0, none⟩) n n) := L1.cell 8
  have v9 : (w3.setCell ⟨w.heap.size + 1, 8, none⟩ (.slice (some ⟨h, 0, none⟩) n n)).cell? ⟨w.heap.size + 1, 9, none⟩ = some (.int .i64 cl) := L1.cell 9
  have v10 : (w3.setCell ⟨w.heap.size + 1, 8, none⟩ (.slice (some ⟨h, 0, none⟩) n n)).cell? ⟨w.heap.size + 1, 10, none⟩ = some (.int .i64 ky) := L1.cell 10
  have K0 := K.far (p := ⟨w.heap.size + 1, 8, none⟩) hne (.slice (some ⟨h, 0, none⟩) n n)
  have R0 := hb.far (p := ⟨w.heap.size + 1, 8, none⟩) hh2 (.slice (some ⟨h, 0, none⟩) n n)
  have Z0 := HBB.setCell (p := ⟨w.heap.size + 1, 8, none⟩) (Nat.le_succ _) (.slice (some ⟨h, 0, none⟩) n n)
  have g0 := K0.frozen 0
  have d0 := K0.cell 0
  have K1 := K0.set_ 0 (.int .u8 1)
  have R1 := R0.far (p := ⟨w.heap.size, 0, none⟩) hh1 (.int .u8 1)
  have Z1 := Z0.setCell (p := ⟨w.heap.size, 0, none⟩) (Nat.le_refl _) (.int .u8 1)
  have g1 := K1.frozen 1
  have d1 := K1.cell 1
  have K2 := K1.set_ 1 (.int .u8 k)
  have R2 := R1.far (p := ⟨w.heap.size, 1, none⟩) hh1 (.int .u8 k)
  have Z2 := Z1.setCell (p := ⟨w.heap.size, 1, none⟩) (Nat.le_refl _) (.int .u8 k)
  have g2 := K2.frozen 2
  have d2 := K2.cell 2
  have K3 := K2.set_ 2 (.int .i64 co)
  have R3 := R2.far (p := ⟨w.heap.size, 2, none⟩) hh1 (.int .i64 co)
  have Z3 := Z2.setCell (p := ⟨w.heap.size, 2, none⟩) (Nat.le_refl _) (.int .i64 co)
  have g3 := K3.frozen 3
  have d3 := K3.cell 3
  have K4 := K3.set_ 3 (.int .i64 pe)
  have R4 := R3.far (p := ⟨w.heap.size, 3, none⟩) hh1 (.int .i64 pe)
  have Z4 := Z3.setCell (p := ⟨w.heap.size, 3, none⟩) (Nat.le_refl _) (.int .i64 pe)
  have g4 := K4.frozen 4
  have d4 := K4.cell 4
  have K5 := K4.set_ 4 (.int .i64 tg)
  have R5 := R4.far (p := ⟨w.heap.size, 4, none⟩) hh1 (.int .i64 tg)
  have Z5 := Z4.setCell (p := ⟨w.heap.size, 4, none⟩) (Nat.le_refl _) (.int .i64 tg)
  have g5 := K5.frozen 5
  have d5 := K5.cell 5
  have K6 := K5.set_ 5 (.int .i64 va)
  have R6 := R5.far (p := ⟨w.heap.size, 5, none⟩) hh1 (.int .i64 va)
  have Z6 := Z5.setCell (p := ⟨w.heap.size, 5, none⟩) (Nat.le_refl _) (.int .i64 va)
  have g6 := K6.frozen 6
  have d6 := K6.cell 6
  have K7 := K6.set_ 6 (.int .i64 sz)
  have R7 := R6.far (p := ⟨w.heap.size, 6, none⟩) hh1 (.int .i64 sz)
  have Z7 := Z6.setCell (p := ⟨w.heap.size, 6, none⟩) (Nat.le_refl _) (.int .i64 sz)
  have g7 := K7.frozen 7
  have d7 := K7.cell 7
  have K8 := K7.set_ 7 (.int .i64 ro)
  have R8 := R7.far (p := ⟨w.heap.size, 7, none⟩) hh1 (.int .i64 ro)
  have Z8 := Z7.setCell (p := ⟨w.heap.size, 7, none⟩) (Nat.le_refl _) (.int .i64 ro)
  have g8 := K8.frozen 8
  have d8 := K8.cell 8
  have K9 := K8.set_ 8 (.int .u8 op)
  have R9 := R8.far (p := ⟨w.heap.size, 8, none⟩) hh1 (.int .u8 op)
  have Z9 := Z8.setCell (p := ⟨w.heap.size, 8, none⟩) (Nat.le_refl _) (.int .u8 op)
  have g9 := K9.frozen 9
  have d9 := K9.cell 9
  have K10 := K9.set_ 9 (.slice (some ⟨h, 0, none⟩) n n)
  have R10 := R9.far (p := ⟨w.heap.size, 9, none⟩) hh1 (.slice (some ⟨h, 0, none⟩) n n)
  have Z10 := Z9.setCell (p := ⟨w.heap.size, 9, none⟩) (Nat.le_refl _) (.slice (some ⟨h, 0, none⟩) n n)
  have g10 := K10.frozen 10
  have d10 := K10.cell 10
  have K11 := K10.set_ 10 (.int .i64 cl)
  have R11 := R10.far (p := ⟨w.heap.size, 10, none⟩) hh1 (.int .i64 cl)
  have Z11 := Z10.setCell (p := ⟨w.heap.size, 10, none⟩) (Nat.le_refl _) (.int .i64 cl)
  have g11 := K11.frozen 11
  have d11 := K11.cell 11
  have K12 := K11.set_ 11 (.int .i64 ky)
  have R12 := R11.far (p := ⟨w.heap.size, 11, none⟩) hh1 (.int .i64 ky)
  have Z12 := Z11.setCell (p := ⟨w.heap.size, 11, none⟩) (Nat.le_refl _) (.int .i64 ky)
  have g12 := K12.frozen 12
  have d12 := K12.cell 12
  have K13 := K12.set_ 12 (.int .u8 0)
  have R13 := R12.far (p := ⟨w.heap.size, 12, none⟩) hh1 (.int .u8 0)
  have Z13 := Z12.setCell (p := ⟨w.heap.size, 12, none⟩) (Nat.le_refl _) (.int .u8 0)
  have u0 := K13.cell 0
  have u1 := K13.cell 1
  have u2 := K13.cell 2
  have u3 := K13.cell 3
  have u4 := K13.cell 4
  have u5 := K13.cell 5
  have u6 := K13.cell 6
  have u7 := K13.cell 7
  have u8 := K13.cell 8
  have u9 := K13.cell 9
  have u10 := K13.cell 10
  have u11 := K13.cell 11
  have u12 := K13.cell 12
  have FIN := hide (show ∃ h' : Nat, (Ending.returned (.agg #[.int .u8 1, .int .u8 k, .int .i64 co, .int .i64 pe, .int .i64 tg, .int .i64 va, .int .i64 sz, .int .i64 ro, .int .u8 op, .slice (some ⟨h, 0, none⟩) n n, .int .i64 cl, .int .i64 ky, .int .u8 0])) = .returned (.agg #[.int .u8 1, .int .u8 k, .int .i64 co, .int .i64 pe, .int .i64 tg, .int .i64 va, .int .i64 sz, .int .i64 ro, .int .u8 op, .slice (some ⟨h', 0, none⟩) n n, .int .i64 cl, .int .i64 ky, .int .u8 0]) ∧ RqAt ((((((((((((((w3.setCell ⟨w.heap.size + 1, 8, none⟩ (.slice (some ⟨h, 0, none⟩) n n)).setCell ⟨w.heap.size, 0, none⟩ (.int .u8 1)).setCell ⟨w.heap.size, 1, none⟩ (.int .u8 k)).setCell ⟨w.heap.size, 2, none⟩ (.int .i64 co)).setCell ⟨w.heap.size, 3, none⟩ (.int .i64 pe)).setCell ⟨w.heap.size, 4, none⟩ (.int .i64 tg)).setCell ⟨w.heap.size, 5, none⟩ (.int .i64 va)).setCell ⟨w.heap.size, 6, none⟩ (.int .i64 sz)).setCell ⟨w.heap.size, 7, none⟩ (.int .i64 ro)).setCell ⟨w.heap.size, 8, none⟩ (.int .u8 op)).setCell ⟨w.heap.size, 9, none⟩ (.slice (some ⟨h, 0, none⟩) n n)).setCell ⟨w.heap.size, 10, none⟩ (.int .i64 cl)).setCell ⟨w.heap.size, 11, none⟩ (.int .i64 ky)).setCell ⟨w.heap.size, 12, none⟩ (.int .u8 0)) w.heap.size (some ⟨h', 0, none⟩) n rq ∧ Below w.heap.size w ((((((((((((((w3.setCell ⟨w.heap.size + 1, 8, none⟩ (.slice (some ⟨h, 0, none⟩) n n)).setCell ⟨w.heap.size, 0, none⟩ (.int .u8 1)).setCell ⟨w.heap.size, 1, none⟩ (.int .u8 k)).setCell ⟨w.heap.size, 2, none⟩ (.int .i64 co)).setCell ⟨w.heap.size, 3, none⟩ (.int .i64 pe)).setCell ⟨w.heap.size, 4, none⟩ (.int .i64 tg)).setCell ⟨w.heap.size, 5, none⟩ (.int .i64 va)).setCell ⟨w.heap.size, 6, none⟩ (.int .i64 sz)).setCell ⟨w.heap.size, 7, none⟩ (.int .i64 ro)).setCell ⟨w.heap.size, 8, none⟩ (.int .u8 op)).setCell ⟨w.heap.size, 9, none⟩ (.slice (some ⟨h, 0, none⟩) n n)).setCell ⟨w.heap.size, 10, none⟩ (.int .i64 cl)).setCell ⟨w.heap.size, 11, none⟩ (.int .i64 ky)).setCell ⟨w.heap.size, 12, none⟩ (.int .u8 0)) from ⟨h, rfl, .inr ⟨h, cur, by rw [HN.out]; exact H00.out, rfl, by have := HS2.out; omega, R13, fun j hj => hcur j _ (by unfold i64s; rw [List.getElem?_map, List.getD, List.getElem?_eq_getElem hj]; rfl)⟩, Z13⟩)
  clear K0 K1 K2 K3 K4 K5 K6 K7 K8 K9 K10 K11 K12 K13 R0 R1 R2 R3 R4 R5 R6 R7 R8 R9 R10 R11 R12 R13 Z0 Z1 Z2 Z3 Z4 Z5 Z6 Z7 Z8 Z9 Z10 Z11 Z12 Z13 L1 L K HBB hb hcur hb3 hh hne hh1 hh2 CPY Q2 Q3 B2
  go_wp2_with fail
  exact bodyPost_ret (v := .agg #[.int .u8 1, .int .u8 k, .int .i64 co, .int .i64 pe, .int .i64 tg, .int .i64 va, .int .i64 sz, .int .i64 ro, .int .u8 op, .slice (some ⟨h, 0, none⟩) n n, .int .i64 cl, .int .i64 ky, .int .u8 0]) (by simp [results, Tryd.results17, go_sem, u0, u1, u2, u3, u4, u5, u6, u7, u8, u9, u10, u11, u12]) rfl FIN.out
/-- What is told of a rank that waits. -/
theorem out_call (C : Cl) (ra : Option Addr) (rc B : Nat) (y7 : w.cell? ⟨r, 7, none⟩ = some (.int .u8 1)) (hc : ∀ j, j < 11 → w.cell? ⟨r, 21 + j, none⟩ = (C.A ra rc)[j]?) (hq : RqAt w B ra rc C.rq) (h8 : C.rq.length ≤ 1000) :
    Calls Tryd.prog 17 #[.pointer (some ⟨r, 0, none⟩)] w fun e w' => ∃ rb rd, e = .returned (.agg (C.O rb rd)) ∧ RqAt w' w.heap.size rb rd C.rq ∧ Below w.heap.size w w' := by
  obtain ⟨k, co, pe, tg, va, sz, ro, op, cl, ky, rq⟩ := C
  rcases Nat.eq_zero_or_pos rq.length with h0 | h0
  · have hq0 : rq = [] := List.eq_nil_of_length_eq_zero h0
    subst hq0
    have hq : RqAt w B ra rc [] := hq
    rcases hq with ⟨_, rfl, rfl⟩ | ⟨_, _, h, _⟩
    · refine (out_call0 k co pe tg va sz ro op cl ky y7 (hc 0 (by omega)) (hc 1 (by omega)) (hc 2 (by omega)) (hc 3 (by omega)) (hc 4 (by omega)) (hc 5 (by omega)) (hc 6 (by omega)) (hc 7 (by omega)) (hc 8 (by omega)) (hc 9 (by omega)) (hc 10 (by omega))).mono ?_
      rintro e w' ⟨he, hb⟩
      exact ⟨none, 0, he, rq_no, hb⟩
    · exact absurd h (Nat.lt_irrefl 0)
  · obtain ⟨g, rfl, hg, hcc⟩ := hq.cell h0
    refine (out_call1 k co pe tg va sz ro op cl ky rq rq.length g rc rfl h0 h8 hg hcc y7 (hc 0 (by omega)) (hc 1 (by omega)) (hc 2 (by omega)) (hc 3 (by omega)) (hc 4 (by omega)) (hc 5 (by omega)) (hc 6 (by omega)) (hc 7 (by omega)) (hc 8 (by omega)) (hc 9 (by omega)) (hc 10 (by omega))).mono ?_
    rintro e w' ⟨h, he, hq', hb⟩
    exact ⟨_, _, he, hq', hb⟩
end
end Vm
end Go.Proofs.YtoiibphbogpojaaDoor
