/- group.Split's comparison: the closure. -/
import Derived.Test.YtgiibknfkphkgaaDoorRows
import Derived.Test.YtgiibknfkphkgaaDoorSpA
import Derived.Test.YtgiibknfkphkgaaDoorRelK
import Derived.Sort.Grow
import Derived.BigRegion
namespace Go.Proofs.YtgiibknfkphkgaaDoor
open Go Go.RowKit Go.Sort
set_option linter.unusedVariables false
set_option linter.unusedSimpArgs false
namespace Sp
def cf3 (a b c a' b' c' : Int) : Int := or3 (cmpI a a') (cmpI b b') (cmpI c c')
def Gd (w w' : World) : Prop := ∃ q, w' = w.drewN q
theorem gd_trans {a b c : World} (h : Gd a b) (k : Gd b c) : Gd a c := by
  obtain ⟨q, rfl⟩ := h
  obtain ⟨r, rfl⟩ := k
  exact ⟨q + r, by rw [World.drewN_drewN]⟩
theorem gd_refl (w : World) : Gd w w := ⟨0, rfl⟩
set_option maxRecDepth 100000 in
set_option maxHeartbeats 4000000 in
theorem closure_c (a b c d a' b' c' d' : Int) (w : World) :
    Calls Tryd.prog 30 #[.agg #[.int .i64 a, .int .i64 b, .int .i64 c, .int .i64 d], .agg #[.int .i64 a', .int .i64 b', .int .i64 c', .int .i64 d']] w fun e w' => e = .returned (.int .i64 (cf3 a b c a' b' c')) ∧ ∃ q os, w' = grow (w.drewN q) os := by
  have C1 := hide (fun w' => compare_c a a' w')
  have C2 := hide (fun w' => compare_c b b' w')
  have C3 := hide (fun w' => compare_c c c' w')
  have OC := hide (fun (x y z : Int) (g : Nat) (w' : World) h0 h1 h2 => or_c x y z g w' h0 h1 h2)
  go_enter Tryd.func30, Tryd.ntmps30
  go_wp2_with fail
  -- the region
  have ba := Blk.new w 66 #[.int .i64 a, .int .i64 b, .int .i64 c, .int .i64 d]
  have hba := (Below.refl (w.alloc (.cells #[.int .i64 a, .int .i64 b, .int .i64 c, .int .i64 d] 66)).heap.size (w.alloc (.cells #[.int .i64 a, .int .i64 b, .int .i64 c, .int .i64 d] 66))).alloc (Nat.le_refl _) (.cells #[.int .i64 a', .int .i64 b', .int .i64 c', .int .i64 d'] 66)
  have ba2 := ba.below hba ba.lt
  have bb := Blk.new (w.alloc (.cells #[.int .i64 a, .int .i64 b, .int .i64 c, .int .i64 d] 66)) 66 #[.int .i64 a', .int .i64 b', .int .i64 c', .int .i64 d']
  rw [show (w.alloc (.cells #[.int .i64 a, .int .i64 b, .int .i64 c, .int .i64 d] 66)).heap.size = w.heap.size + 1 by simp] at bb
  have hg : ((w.alloc (.cells #[.int .i64 a, .int .i64 b, .int .i64 c, .int .i64 d] 66)).alloc (.cells #[.int .i64 a', .int .i64 b', .int .i64 c', .int .i64 d'] 66)) = grow w #[.cells #[.int .i64 a, .int .i64 b, .int .i64 c, .int .i64 d] 66, .cells #[.int .i64 a', .int .i64 b', .int .i64 c', .int .i64 d'] 66] := by
    rw [alloc_eq_grow, alloc_eq_grow, grow_grow]
    rfl
  have hz : ((w.alloc (.cells #[.int .i64 a, .int .i64 b, .int .i64 c, .int .i64 d] 66)).alloc (.cells #[.int .i64 a', .int .i64 b', .int .i64 c', .int .i64 d'] 66)).heap.size = w.heap.size + 2 := by simp
  obtain ⟨W2, hW2⟩ : ∃ x, (w.alloc (.cells #[.int .i64 a, .int .i64 b, .int .i64 c, .int .i64 d] 66)).alloc (.cells #[.int .i64 a', .int .i64 b', .int .i64 c', .int .i64 d'] 66) = x := ⟨_, rfl⟩
  rw [hW2] at ba2 bb hg hz ⊢
  have ca0 := ba2.cell 0
  have ca1 := ba2.cell 1
  have ca2 := ba2.cell 2
  have cb0 := bb.cell 0
  have cb1 := bb.cell 1
  have cb2 := bb.cell 2
  have HG := hide hg
  have HZ := hide hz
  clear ba hba ba2 bb hg hz hW2
  let R : Nat → Value → World → Prop := fun sl u _ => match sl with
    | 5 => u = .pointer (some ⟨w.heap.size, 0, none⟩)
    | 6 => u = .pointer (some ⟨w.heap.size, 0, none⟩)
    | 7 => u = .int .i64 a
    | 8 => u = .pointer (some ⟨w.heap.size + 1, 0, none⟩)
    | 9 => u = .pointer (some ⟨w.heap.size + 1, 0, none⟩)
    | 10 => u = .int .i64 a'
    | 11 => u = .int .i64 (cmpI a a')
    | 12 => u = .pointer (some ⟨w.heap.size, 0, none⟩)
    | 13 => u = .pointer (some ⟨w.heap.size, 1, none⟩)
    | 14 => u = .int .i64 b
    | 15 => u = .pointer (some ⟨w.heap.size + 1, 0, none⟩)
    | 16 => u = .pointer (some ⟨w.heap.size + 1, 1, none⟩)
    | 17 => u = .int .i64 b'
    | 18 => u = .int .i64 (cmpI b b')
    | 19 => u = .pointer (some ⟨w.heap.size, 2, none⟩)
    | 20 => u = .int .i64 c
    | 21 => u = .pointer (some ⟨w.heap.size + 1, 2, none⟩)
    | 22 => u = .int .i64 c'
    | 23 => u = .int .i64 (cmpI c c')
    | _ => True
  refine wp_region_relJ 19 23 R Gd (fun _ _ => True) (by kernel_rfl) (by kernel_rfl) (by kernel_rfl) (by kernel_rfl) (by kernel_rfl) (fun _ _ _ h1 h2 => gd_trans h1 h2) ⟨1, rfl⟩ trivial (fun t v wx wy h _ => h) ?step1 ?fin1
  case step1 =>
    intro op hop
    simp only [List.take, List.mem_cons, List.not_mem_nil, or_false] at hop
    rcases hop with rfl | rfl | rfl | rfl | rfl | rfl | rfl | rfl | rfl | rfl | rfl | rfl | rfl | rfl | rfl | rfl | rfl | rfl | rfl
    · refine ⟨fun h => absurd h (by decide), fun _ b1 a1 w1 hk hj hs hr => ?_⟩
      obtain ⟨q, rfl⟩ := hk
      have e2 : a1.tmps.getD 2 undef = .pointer (some ⟨w.heap.size, 0, none⟩) := hs 2 (by decide)
      rw [Array.getD_eq_getD_getElem?] at e2
      unfold Oper.wp
      simp only [execOp, Act.eval, Array.getD_eq_getD_getElem?, e2]
      go_simp
      exact ⟨_, rfl, rfl, gd_refl _⟩
    · refine ⟨fun h => absurd h (by decide), fun _ b1 a1 w1 hk hj hs hr => ?_⟩
      obtain ⟨q, rfl⟩ := hk
      have e5 : a1.tmps.getD 5 undef = .pointer (some ⟨w.heap.size, 0, none⟩) := hr 5 (by decide) (by apply Array.mem_toList_iff.1; repeat (first | exact List.Mem.head _ | apply List.Mem.tail))
      rw [Array.getD_eq_getD_getElem?] at e5
      unfold Oper.wp
      simp only [execOp, Act.eval, Array.getD_eq_getD_getElem?, e5]
      go_simp
      exact ⟨_, rfl, rfl, gd_refl _⟩
    · refine ⟨fun h => absurd h (by decide), fun _ b1 a1 w1 hk hj hs hr => ?_⟩
      obtain ⟨q, rfl⟩ := hk
      have e6 : a1.tmps.getD 6 undef = .pointer (some ⟨w.heap.size, 0, none⟩) := hr 6 (by decide) (by apply Array.mem_toList_iff.1; repeat (first | exact List.Mem.head _ | apply List.Mem.tail))
      have cc0 : (W2.drewN q).cell? ⟨w.heap.size, 0, none⟩ = some (.int .i64 a) := ca0
      rw [Array.getD_eq_getD_getElem?] at e6
      unfold Oper.wp
      simp only [execOp, Act.eval, Array.getD_eq_getD_getElem?, e6]
      go_simp
      exact ⟨_, rfl, rfl, gd_refl _⟩
    · refine ⟨fun h => absurd h (by decide), fun _ b1 a1 w1 hk hj hs hr => ?_⟩
      obtain ⟨q, rfl⟩ := hk
      have e3 : a1.tmps.getD 3 undef = .pointer (some ⟨w.heap.size + 1, 0, none⟩) := hs 3 (by decide)
      rw [Array.getD_eq_getD_getElem?] at e3
      unfold Oper.wp
      simp only [execOp, Act.eval, Array.getD_eq_getD_getElem?, e3]
      go_simp
      exact ⟨_, rfl, rfl, gd_refl _⟩
    · refine ⟨fun h => absurd h (by decide), fun _ b1 a1 w1 hk hj hs hr => ?_⟩
      obtain ⟨q, rfl⟩ := hk
      have e8 : a1.tmps.getD 8 undef = .pointer (some ⟨w.heap.size + 1, 0, none⟩) := hr 8 (by decide) (by apply Array.mem_toList_iff.1; repeat (first | exact List.Mem.head _ | apply List.Mem.tail))
      rw [Array.getD_eq_getD_getElem?] at e8
      unfold Oper.wp
      simp only [execOp, Act.eval, Array.getD_eq_getD_getElem?, e8]
      go_simp
      exact ⟨_, rfl, rfl, gd_refl _⟩
    · refine ⟨fun h => absurd h (by decide), fun _ b1 a1 w1 hk hj hs hr => ?_⟩
      obtain ⟨q, rfl⟩ := hk
      have e9 : a1.tmps.getD 9 undef = .pointer (some ⟨w.heap.size + 1, 0, none⟩) := hr 9 (by decide) (by apply Array.mem_toList_iff.1; repeat (first | exact List.Mem.head _ | apply List.Mem.tail))
      have cc0 : (W2.drewN q).cell? ⟨w.heap.size + 1, 0, none⟩ = some (.int .i64 a') := cb0
      rw [Array.getD_eq_getD_getElem?] at e9
      unfold Oper.wp
      simp only [execOp, Act.eval, Array.getD_eq_getD_getElem?, e9]
      go_simp
      exact ⟨_, rfl, rfl, gd_refl _⟩
    · refine ⟨fun h => absurd h (by decide), fun _ b1 a1 w1 hk hj hs hr => ?_⟩
      obtain ⟨q, rfl⟩ := hk
      have e7 : a1.tmps.getD 7 undef = .int .i64 a := hr 7 (by decide) (by apply Array.mem_toList_iff.1; repeat (first | exact List.Mem.head _ | apply List.Mem.tail))
      have e10 : a1.tmps.getD 10 undef = .int .i64 a' := hr 10 (by decide) (by apply Array.mem_toList_iff.1; repeat (first | exact List.Mem.head _ | apply List.Mem.tail))
      rw [Array.getD_eq_getD_getElem?] at e7
      rw [Array.getD_eq_getD_getElem?] at e10
      unfold Oper.wp
      simp only [execOp, Act.eval, Array.getD_eq_getD_getElem?, e7, e10]
      go_simp
      refine (C1.out _).mono ?_
      rintro e w9 ⟨rfl, rfl⟩
      exact ⟨_, rfl, rfl, gd_refl _⟩
    · refine ⟨fun h => absurd h (by decide), fun _ b1 a1 w1 hk hj hs hr => ?_⟩
      obtain ⟨q, rfl⟩ := hk
      have e2 : a1.tmps.getD 2 undef = .pointer (some ⟨w.heap.size, 0, none⟩) := hs 2 (by decide)
      rw [Array.getD_eq_getD_getElem?] at e2
      unfold Oper.wp
      simp only [execOp, Act.eval, Array.getD_eq_getD_getElem?, e2]
      go_simp
      exact ⟨_, rfl, rfl, gd_refl _⟩
    · refine ⟨fun h => absurd h (by decide), fun _ b1 a1 w1 hk hj hs hr => ?_⟩
      obtain ⟨q, rfl⟩ := hk
      have e12 : a1.tmps.getD 12 undef = .pointer (some ⟨w.heap.size, 0, none⟩) := hr 12 (by decide) (by apply Array.mem_toList_iff.1; repeat (first | exact List.Mem.head _ | apply List.Mem.tail))
      rw [Array.getD_eq_getD_getElem?] at e12
      unfold Oper.wp
      simp only [execOp, Act.eval, Array.getD_eq_getD_getElem?, e12]
      go_simp
      exact ⟨_, rfl, rfl, gd_refl _⟩
    · refine ⟨fun h => absurd h (by decide), fun _ b1 a1 w1 hk hj hs hr => ?_⟩
      obtain ⟨q, rfl⟩ := hk
      have e13 : a1.tmps.getD 13 undef = .pointer (some ⟨w.heap.size, 1, none⟩) := hr 13 (by decide) (by apply Array.mem_toList_iff.1; repeat (first | exact List.Mem.head _ | apply List.Mem.tail))
      have cc0 : (W2.drewN q).cell? ⟨w.heap.size, 1, none⟩ = some (.int .i64 b) := ca1
      rw [Array.getD_eq_getD_getElem?] at e13
      unfold Oper.wp
      simp only [execOp, Act.eval, Array.getD_eq_getD_getElem?, e13]
      go_simp
      exact ⟨_, rfl, rfl, gd_refl _⟩
    · refine ⟨fun h => absurd h (by decide), fun _ b1 a1 w1 hk hj hs hr => ?_⟩
      obtain ⟨q, rfl⟩ := hk
      have e3 : a1.tmps.getD 3 undef = .pointer (some ⟨w.heap.size + 1, 0, none⟩) := hs 3 (by decide)
      rw [Array.getD_eq_getD_getElem?] at e3
      unfold Oper.wp
      simp only [execOp, Act.eval, Array.getD_eq_getD_getElem?, e3]
      go_simp
      exact ⟨_, rfl, rfl, gd_refl _⟩
    · refine ⟨fun h => absurd h (by decide), fun _ b1 a1 w1 hk hj hs hr => ?_⟩
      obtain ⟨q, rfl⟩ := hk
      have e15 : a1.tmps.getD 15 undef = .pointer (some ⟨w.heap.size + 1, 0, none⟩) := hr 15 (by decide) (by apply Array.mem_toList_iff.1; repeat (first | exact List.Mem.head _ | apply List.Mem.tail))
      rw [Array.getD_eq_getD_getElem?] at e15
      unfold Oper.wp
      simp only [execOp, Act.eval, Array.getD_eq_getD_getElem?, e15]
      go_simp
      exact ⟨_, rfl, rfl, gd_refl _⟩
    · refine ⟨fun h => absurd h (by decide), fun _ b1 a1 w1 hk hj hs hr => ?_⟩
      obtain ⟨q, rfl⟩ := hk
      have e16 : a1.tmps.getD 16 undef = .pointer (some ⟨w.heap.size + 1, 1, none⟩) := hr 16 (by decide) (by apply Array.mem_toList_iff.1; repeat (first | exact List.Mem.head _ | apply List.Mem.tail))
      have cc0 : (W2.drewN q).cell? ⟨w.heap.size + 1, 1, none⟩ = some (.int .i64 b') := cb1
      rw [Array.getD_eq_getD_getElem?] at e16
      unfold Oper.wp
      simp only [execOp, Act.eval, Array.getD_eq_getD_getElem?, e16]
      go_simp
      exact ⟨_, rfl, rfl, gd_refl _⟩
    · refine ⟨fun h => absurd h (by decide), fun _ b1 a1 w1 hk hj hs hr => ?_⟩
      obtain ⟨q, rfl⟩ := hk
      have e14 : a1.tmps.getD 14 undef = .int .i64 b := hr 14 (by decide) (by apply Array.mem_toList_iff.1; repeat (first | exact List.Mem.head _ | apply List.Mem.tail))
      have e17 : a1.tmps.getD 17 undef = .int .i64 b' := hr 17 (by decide) (by apply Array.mem_toList_iff.1; repeat (first | exact List.Mem.head _ | apply List.Mem.tail))
      rw [Array.getD_eq_getD_getElem?] at e14
      rw [Array.getD_eq_getD_getElem?] at e17
      unfold Oper.wp
      simp only [execOp, Act.eval, Array.getD_eq_getD_getElem?, e14, e17]
      go_simp
      refine (C2.out _).mono ?_
      rintro e w9 ⟨rfl, rfl⟩
      exact ⟨_, rfl, rfl, gd_refl _⟩
    · refine ⟨fun h => absurd h (by decide), fun _ b1 a1 w1 hk hj hs hr => ?_⟩
      obtain ⟨q, rfl⟩ := hk
      have e2 : a1.tmps.getD 2 undef = .pointer (some ⟨w.heap.size, 0, none⟩) := hs 2 (by decide)
      rw [Array.getD_eq_getD_getElem?] at e2
      unfold Oper.wp
      simp only [execOp, Act.eval, Array.getD_eq_getD_getElem?, e2]
      go_simp
      exact ⟨_, rfl, rfl, gd_refl _⟩
    · refine ⟨fun h => absurd h (by decide), fun _ b1 a1 w1 hk hj hs hr => ?_⟩
      obtain ⟨q, rfl⟩ := hk
      have e19 : a1.tmps.getD 19 undef = .pointer (some ⟨w.heap.size, 2, none⟩) := hr 19 (by decide) (by apply Array.mem_toList_iff.1; repeat (first | exact List.Mem.head _ | apply List.Mem.tail))
      have cc0 : (W2.drewN q).cell? ⟨w.heap.size, 2, none⟩ = some (.int .i64 c) := ca2
      rw [Array.getD_eq_getD_getElem?] at e19
      unfold Oper.wp
      simp only [execOp, Act.eval, Array.getD_eq_getD_getElem?, e19]
      go_simp
      exact ⟨_, rfl, rfl, gd_refl _⟩
    · refine ⟨fun h => absurd h (by decide), fun _ b1 a1 w1 hk hj hs hr => ?_⟩
      obtain ⟨q, rfl⟩ := hk
      have e3 : a1.tmps.getD 3 undef = .pointer (some ⟨w.heap.size + 1, 0, none⟩) := hs 3 (by decide)
      rw [Array.getD_eq_getD_getElem?] at e3
      unfold Oper.wp
      simp only [execOp, Act.eval, Array.getD_eq_getD_getElem?, e3]
      go_simp
      exact ⟨_, rfl, rfl, gd_refl _⟩
    · refine ⟨fun h => absurd h (by decide), fun _ b1 a1 w1 hk hj hs hr => ?_⟩
      obtain ⟨q, rfl⟩ := hk
      have e21 : a1.tmps.getD 21 undef = .pointer (some ⟨w.heap.size + 1, 2, none⟩) := hr 21 (by decide) (by apply Array.mem_toList_iff.1; repeat (first | exact List.Mem.head _ | apply List.Mem.tail))
      have cc0 : (W2.drewN q).cell? ⟨w.heap.size + 1, 2, none⟩ = some (.int .i64 c') := cb2
      rw [Array.getD_eq_getD_getElem?] at e21
      unfold Oper.wp
      simp only [execOp, Act.eval, Array.getD_eq_getD_getElem?, e21]
      go_simp
      exact ⟨_, rfl, rfl, gd_refl _⟩
    · refine ⟨fun _ a1 w1 hk hj hs hr => ?_, fun h => absurd rfl h⟩
      obtain ⟨q, rfl⟩ := hk
      have e20 : a1.tmps.getD 20 undef = .int .i64 c := hr 20 (by decide) (by apply Array.mem_toList_iff.1; repeat (first | exact List.Mem.head _ | apply List.Mem.tail))
      have e22 : a1.tmps.getD 22 undef = .int .i64 c' := hr 22 (by decide) (by apply Array.mem_toList_iff.1; repeat (first | exact List.Mem.head _ | apply List.Mem.tail))
      rw [Array.getD_eq_getD_getElem?] at e20
      rw [Array.getD_eq_getD_getElem?] at e22
      unfold Oper.wp
      simp only [execOp, Act.eval, Array.getD_eq_getD_getElem?, e20, e22]
      go_simp
      refine (C3.out _).mono ?_
      rintro e w9 ⟨rfl, rfl⟩
      exact ⟨_, rfl, rfl, gd_refl _⟩
  case fin1 =>
    intro ff w9 hk hj hr
    obtain ⟨q, rfl⟩ := hk
    have e11 : ff 11 = .int .i64 (cmpI a a') := hr 11 (by decide)
    have e18 : ff 18 = .int .i64 (cmpI b b') := hr 18 (by decide)
    have e23 : ff 23 = .int .i64 (cmpI c c') := hr 23 (by decide)
    have bo := Blk.new (W2.drewN q) 3 #[.int .i64 (cmpI a a'), .int .i64 (cmpI b b'), .int .i64 (cmpI c c')]
    have hg2 : (W2.drewN q).alloc (.cells #[.int .i64 (cmpI a a'), .int .i64 (cmpI b b'), .int .i64 (cmpI c c')] 3) = grow (w.drewN q) (#[.cells #[.int .i64 a, .int .i64 b, .int .i64 c, .int .i64 d] 66, .cells #[.int .i64 a', .int .i64 b', .int .i64 c', .int .i64 d'] 66] ++ #[.cells #[.int .i64 (cmpI a a'), .int .i64 (cmpI b b'), .int .i64 (cmpI c c')] 3]) := by
      rw [HG.out, alloc_eq_grow]
      show grow (grow (w.drewN q) _) _ = _
      rw [grow_grow]
    have OC1 := hide (OC.out _ _ _ _ _ (bo.cell 0) (bo.cell 1) (bo.cell 2))
    have HG2 := hide hg2
    clear bo hg2 hr hj ca0 ca1 ca2 cb0 cb1 cb2
    simp only [putAll, slotsOf, List.take, List.drop, List.filterMap_cons, List.filterMap_nil, List.foldl_cons, List.foldl_nil, Act.put, e11, e18, e23]
    simp only [List.setIfInBounds_toArray, List.set_cons_succ, List.set_cons_zero]
    go_wp2_with fail
    refine OC1.out.mono ?_
    rintro e w' ⟨rfl, rfl⟩
    go_wp2_with fail
    go_ret
    exact ⟨rfl, q, _, HG2.out⟩
end Sp
end Go.Proofs.YtgiibknfkphkgaaDoor
