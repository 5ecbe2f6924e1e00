/- queue.Left's comparison. -/
import Derived.Test.YtomladbdebfikaaRows
import Derived.Test.YtomladbdebfikaaSpA
import Derived.Test.YtomladbdebfikaaQuXa
import Derived.Test.YtomladbdebfikaaRelK
import Derived.Sort.Grow
import Derived.BigRegion
import Derived.Laws.Cover1
namespace Go.Proofs.Ytomladbdebfikaa
open Go Go.RowKit Go.Sort Go.Proofs.Ytomladbdebfikaa.Sp
set_option linter.unusedVariables false
set_option linter.unusedSimpArgs false
namespace Qu
def cmpS (a b : ByteArray) : Int := if kLess a b = true then -1 else if kLess b a = true then 1 else 0
theorem isNaN_s (a : ByteArray) (w : World) : Calls Try.prog 53 #[.string a] w fun e w' => e = .returned (.bool false) ∧ w' = w := by
  go_enter Try.func53, Try.ntmps53
  go_wp2
  go_ret
  exact ⟨by simp, rfl⟩
set_option maxHeartbeats 1000000 in
theorem compare_s (a b : ByteArray) (w : World) : Calls Try.prog 41 #[.string a, .string b] w fun e w' => e = .returned (.int .i64 (cmpS a b)) ∧ w' = w := by
  have N1 := hide (isNaN_s a w)
  have N2 := hide (isNaN_s b w)
  unfold cmpS kLess
  by_cases h1 : Op.bytesLess a.toList b.toList = true
  · rw [if_pos h1]
    go_enter Try.func41, Try.ntmps41
    go_wp2_with fail
    refine N1.out.mono ?_
    rintro e w' ⟨rfl, rfl⟩
    go_wp2_with fail
    refine N2.out.mono ?_
    rintro e w' ⟨rfl, rfl⟩
    go_wp2_with fail
    go_ret
    exact ⟨rfl, rfl⟩
  rw [if_neg h1]
  have h1' : Op.bytesLess a.toList b.toList = false := by simpa using h1
  clear h1
  by_cases h2 : Op.bytesLess b.toList a.toList = true
  · have hne : (a.toList == b.toList) = false := by
      rw [beq_eq_false_iff_ne]
      intro e
      rw [e, bl_irr] at h2
      cases h2
    rw [if_pos h2]
    go_enter Try.func41, Try.ntmps41
    go_wp2_with fail
    refine N1.out.mono ?_
    rintro e w' ⟨rfl, rfl⟩
    go_wp2_with fail
    refine N2.out.mono ?_
    rintro e w' ⟨rfl, rfl⟩
    go_wp2_with fail
    go_ret
    exact ⟨rfl, rfl⟩
  · have h2' : Op.bytesLess b.toList a.toList = false := by simpa using h2
    have he : a.toList = b.toList := bl_tri _ _ h1' h2'
    have heq : (a.toList == b.toList) = true := by rw [he]; simp
    rw [if_neg h2]
    clear h2 he
    go_enter Try.func41, Try.ntmps41
    go_wp2_with fail
    refine N1.out.mono ?_
    rintro e w' ⟨rfl, rfl⟩
    go_wp2_with fail
    refine N2.out.mono ?_
    rintro e w' ⟨rfl, rfl⟩
    go_wp2_with fail
    go_ret
    exact ⟨rfl, rfl⟩
def Gd (w w' : World) : Prop := ∃ q, w' = w.drewN q
theorem gd_trans {a b c : World} (h : Gd a b) (k : Gd b c) : Gd a c := by
  obtain ⟨q, rfl⟩ := h
  obtain ⟨r, rfl⟩ := k
  exact ⟨q + r, by rw [World.drewN_drewN]⟩
theorem gd_refl (w : World) : Gd w w := ⟨0, rfl⟩
def cfC (x y : Chan) : Int := or3 (cmpS x.key y.key) (cmpI x.fr y.fr) (cmpI x.to y.to)
set_option maxRecDepth 100000 in
set_option maxHeartbeats 4000000 in
theorem closure_c (x y : Chan) (w : World) :
    Calls Try.prog 39 #[.agg #[.string x.key, .int .i64 x.fr, .int .i64 x.to], .agg #[.string y.key, .int .i64 y.fr, .int .i64 y.to]] w fun e w' => e = .returned (.int .i64 (cfC x y)) ∧ ∃ q os, w' = grow (w.drewN q) os := by
  obtain ⟨a, b, c⟩ := x
  obtain ⟨a', b', c'⟩ := y
  unfold cfC
  simp only
  have C1 := hide (fun w' => compare_s a a' w')
  have C2 := hide (fun w' => compare_c b b' w')
  have C3 := hide (fun w' => compare_c c c' w')
  have OC := hide (fun (x y z : Int) (g : Nat) (w' : World) h0 h1 h2 => or_c x y z g w' h0 h1 h2)
  go_enter Try.func39, Try.ntmps39
  go_wp2_with fail
  have ba := Blk.new w 63 #[.string a, .int .i64 b, .int .i64 c]
  have hba := (Below.refl (w.alloc (.cells #[.string a, .int .i64 b, .int .i64 c] 63)).heap.size (w.alloc (.cells #[.string a, .int .i64 b, .int .i64 c] 63))).alloc (Nat.le_refl _) (.cells #[.string a', .int .i64 b', .int .i64 c'] 63)
  have ba2 := ba.below hba ba.lt
  have bb := Blk.new (w.alloc (.cells #[.string a, .int .i64 b, .int .i64 c] 63)) 63 #[.string a', .int .i64 b', .int .i64 c']
  rw [show (w.alloc (.cells #[.string a, .int .i64 b, .int .i64 c] 63)).heap.size = w.heap.size + 1 by simp] at bb
  have hg : ((w.alloc (.cells #[.string a, .int .i64 b, .int .i64 c] 63)).alloc (.cells #[.string a', .int .i64 b', .int .i64 c'] 63)) = grow w #[.cells #[.string a, .int .i64 b, .int .i64 c] 63, .cells #[.string a', .int .i64 b', .int .i64 c'] 63] := by
    rw [alloc_eq_grow, alloc_eq_grow, grow_grow]
    rfl
  have hz : ((w.alloc (.cells #[.string a, .int .i64 b, .int .i64 c] 63)).alloc (.cells #[.string a', .int .i64 b', .int .i64 c'] 63)).heap.size = w.heap.size + 2 := by simp
  obtain ⟨W2, hW2⟩ : ∃ x, (w.alloc (.cells #[.string a, .int .i64 b, .int .i64 c] 63)).alloc (.cells #[.string a', .int .i64 b', .int .i64 c'] 63) = x := ⟨_, rfl⟩
  rw [hW2] at ba2 bb hg hz ⊢
  have ca0 := ba2.cell 0
  have ca1 := ba2.cell 1
  have ca2 := ba2.cell 2
  have cb0 := bb.cell 0
  have cb1 := bb.cell 1
  have cb2 := bb.cell 2
  have HG := hide hg
  have HZ := hide hz
  clear ba hba ba2 bb hg hz hW2
  let R : Nat → Value → World → Prop := fun sl u _ => match sl with
    | 5 => u = .pointer (some ⟨w.heap.size, 0, none⟩)
    | 6 => u = .string a
    | 7 => u = .pointer (some ⟨w.heap.size + 1, 0, none⟩)
    | 8 => u = .string a'
    | 9 => u = .int .i64 (cmpS a a')
    | 10 => u = .pointer (some ⟨w.heap.size, 1, none⟩)
    | 11 => u = .int .i64 b
    | 12 => u = .pointer (some ⟨w.heap.size + 1, 1, none⟩)
    | 13 => u = .int .i64 b'
    | 14 => u = .int .i64 (cmpI b b')
    | 15 => u = .pointer (some ⟨w.heap.size, 2, none⟩)
    | 16 => u = .int .i64 c
    | 17 => u = .pointer (some ⟨w.heap.size + 1, 2, none⟩)
    | 18 => u = .int .i64 c'
    | 19 => u = .int .i64 (cmpI c c')
    | _ => True
  refine wp_region_relJ 15 19 R Gd (fun _ _ => True) (by kernel_rfl) (by kernel_rfl) (by kernel_rfl) (by kernel_rfl) (by kernel_rfl) (fun _ _ _ h1 h2 => gd_trans h1 h2) ⟨1, rfl⟩ trivial (fun t v wx wy h _ => h) ?step1 ?fin1
  case step1 =>
    intro op hop
    simp only [List.take, List.mem_cons, List.not_mem_nil, or_false] at hop
    rcases hop with rfl | rfl | rfl | rfl | rfl | rfl | rfl | rfl | rfl | rfl | rfl | rfl | rfl | rfl | rfl
    · refine ⟨fun h => absurd h (by decide), fun _ b1 a1 w1 hk hj hs hr => ?_⟩
      obtain ⟨q, rfl⟩ := hk
      have e2 : a1.tmps.getD 2 undef = .pointer (some ⟨w.heap.size, 0, none⟩) := hs 2 (by decide)
      rw [Array.getD_eq_getD_getElem?] at e2
      unfold Oper.wp
      simp only [execOp, Act.eval, Array.getD_eq_getD_getElem?, e2]
      go_simp
      exact ⟨_, rfl, rfl, gd_refl _⟩
    · refine ⟨fun h => absurd h (by decide), fun _ b1 a1 w1 hk hj hs hr => ?_⟩
      obtain ⟨q, rfl⟩ := hk
      have e5 : a1.tmps.getD 5 undef = .pointer (some ⟨w.heap.size, 0, none⟩) := hr 5 (by decide) (by apply Array.mem_toList_iff.1; repeat (first | exact List.Mem.head _ | apply List.Mem.tail))
      have cc0 : (W2.drewN q).cell? ⟨w.heap.size, 0, none⟩ = some (.string a) := ca0
      rw [Array.getD_eq_getD_getElem?] at e5
      unfold Oper.wp
      simp only [execOp, Act.eval, Array.getD_eq_getD_getElem?, e5]
      go_simp
      exact ⟨_, rfl, rfl, gd_refl _⟩
    · refine ⟨fun h => absurd h (by decide), fun _ b1 a1 w1 hk hj hs hr => ?_⟩
      obtain ⟨q, rfl⟩ := hk
      have e3 : a1.tmps.getD 3 undef = .pointer (some ⟨w.heap.size + 1, 0, none⟩) := hs 3 (by decide)
      rw [Array.getD_eq_getD_getElem?] at e3
      unfold Oper.wp
      simp only [execOp, Act.eval, Array.getD_eq_getD_getElem?, e3]
      go_simp
      exact ⟨_, rfl, rfl, gd_refl _⟩
    · refine ⟨fun h => absurd h (by decide), fun _ b1 a1 w1 hk hj hs hr => ?_⟩
      obtain ⟨q, rfl⟩ := hk
      have e7 : a1.tmps.getD 7 undef = .pointer (some ⟨w.heap.size + 1, 0, none⟩) := hr 7 (by decide) (by apply Array.mem_toList_iff.1; repeat (first | exact List.Mem.head _ | apply List.Mem.tail))
      have cc0 : (W2.drewN q).cell? ⟨w.heap.size + 1, 0, none⟩ = some (.string a') := cb0
      rw [Array.getD_eq_getD_getElem?] at e7
      unfold Oper.wp
      simp only [execOp, Act.eval, Array.getD_eq_getD_getElem?, e7]
      go_simp
      exact ⟨_, rfl, rfl, gd_refl _⟩
    · refine ⟨fun h => absurd h (by decide), fun _ b1 a1 w1 hk hj hs hr => ?_⟩
      obtain ⟨q, rfl⟩ := hk
      have e6 : a1.tmps.getD 6 undef = .string a := hr 6 (by decide) (by apply Array.mem_toList_iff.1; repeat (first | exact List.Mem.head _ | apply List.Mem.tail))
      have e8 : a1.tmps.getD 8 undef = .string a' := hr 8 (by decide) (by apply Array.mem_toList_iff.1; repeat (first | exact List.Mem.head _ | apply List.Mem.tail))
      rw [Array.getD_eq_getD_getElem?] at e6
      rw [Array.getD_eq_getD_getElem?] at e8
      unfold Oper.wp
      simp only [execOp, Act.eval, Array.getD_eq_getD_getElem?, e6, e8]
      go_simp
      refine (C1.out _).mono ?_
      rintro e w9 ⟨rfl, rfl⟩
      exact ⟨_, rfl, rfl, gd_refl _⟩
    · refine ⟨fun h => absurd h (by decide), fun _ b1 a1 w1 hk hj hs hr => ?_⟩
      obtain ⟨q, rfl⟩ := hk
      have e2 : a1.tmps.getD 2 undef = .pointer (some ⟨w.heap.size, 0, none⟩) := hs 2 (by decide)
      rw [Array.getD_eq_getD_getElem?] at e2
      unfold Oper.wp
      simp only [execOp, Act.eval, Array.getD_eq_getD_getElem?, e2]
      go_simp
      exact ⟨_, rfl, rfl, gd_refl _⟩
    · refine ⟨fun h => absurd h (by decide), fun _ b1 a1 w1 hk hj hs hr => ?_⟩
      obtain ⟨q, rfl⟩ := hk
      have e10 : a1.tmps.getD 10 undef = .pointer (some ⟨w.heap.size, 1, none⟩) := hr 10 (by decide) (by apply Array.mem_toList_iff.1; repeat (first | exact List.Mem.head _ | apply List.Mem.tail))
      have cc0 : (W2.drewN q).cell? ⟨w.heap.size, 1, none⟩ = some (.int .i64 b) := ca1
      rw [Array.getD_eq_getD_getElem?] at e10
      unfold Oper.wp
      simp only [execOp, Act.eval, Array.getD_eq_getD_getElem?, e10]
      go_simp
      exact ⟨_, rfl, rfl, gd_refl _⟩
    · refine ⟨fun h => absurd h (by decide), fun _ b1 a1 w1 hk hj hs hr => ?_⟩
      obtain ⟨q, rfl⟩ := hk
      have e3 : a1.tmps.getD 3 undef = .pointer (some ⟨w.heap.size + 1, 0, none⟩) := hs 3 (by decide)
      rw [Array.getD_eq_getD_getElem?] at e3
      unfold Oper.wp
      simp only [execOp, Act.eval, Array.getD_eq_getD_getElem?, e3]
      go_simp
      exact ⟨_, rfl, rfl, gd_refl _⟩
    · refine ⟨fun h => absurd h (by decide), fun _ b1 a1 w1 hk hj hs hr => ?_⟩
      obtain ⟨q, rfl⟩ := hk
      have e12 : a1.tmps.getD 12 undef = .pointer (some ⟨w.heap.size + 1, 1, none⟩) := hr 12 (by decide) (by apply Array.mem_toList_iff.1; repeat (first | exact List.Mem.head _ | apply List.Mem.tail))
      have cc0 : (W2.drewN q).cell? ⟨w.heap.size + 1, 1, none⟩ = some (.int .i64 b') := cb1
      rw [Array.getD_eq_getD_getElem?] at e12
      unfold Oper.wp
      simp only [execOp, Act.eval, Array.getD_eq_getD_getElem?, e12]
      go_simp
      exact ⟨_, rfl, rfl, gd_refl _⟩
    · refine ⟨fun h => absurd h (by decide), fun _ b1 a1 w1 hk hj hs hr => ?_⟩
      obtain ⟨q, rfl⟩ := hk
      have e11 : a1.tmps.getD 11 undef = .int .i64 b := hr 11 (by decide) (by apply Array.mem_toList_iff.1; repeat (first | exact List.Mem.head _ | apply List.Mem.tail))
      have e13 : a1.tmps.getD 13 undef = .int .i64 b' := hr 13 (by decide) (by apply Array.mem_toList_iff.1; repeat (first | exact List.Mem.head _ | apply List.Mem.tail))
      rw [Array.getD_eq_getD_getElem?] at e11
      rw [Array.getD_eq_getD_getElem?] at e13
      unfold Oper.wp
      simp only [execOp, Act.eval, Array.getD_eq_getD_getElem?, e11, e13]
      go_simp
      refine (C2.out _).mono ?_
      rintro e w9 ⟨rfl, rfl⟩
      exact ⟨_, rfl, rfl, gd_refl _⟩
    · refine ⟨fun h => absurd h (by decide), fun _ b1 a1 w1 hk hj hs hr => ?_⟩
      obtain ⟨q, rfl⟩ := hk
      have e2 : a1.tmps.getD 2 undef = .pointer (some ⟨w.heap.size, 0, none⟩) := hs 2 (by decide)
      rw [Array.getD_eq_getD_getElem?] at e2
      unfold Oper.wp
      simp only [execOp, Act.eval, Array.getD_eq_getD_getElem?, e2]
      go_simp
      exact ⟨_, rfl, rfl, gd_refl _⟩
    · refine ⟨fun h => absurd h (by decide), fun _ b1 a1 w1 hk hj hs hr => ?_⟩
      obtain ⟨q, rfl⟩ := hk
      have e15 : a1.tmps.getD 15 undef = .pointer (some ⟨w.heap.size, 2, none⟩) := hr 15 (by decide) (by apply Array.mem_toList_iff.1; repeat (first | exact List.Mem.head _ | apply List.Mem.tail))
      have cc0 : (W2.drewN q).cell? ⟨w.heap.size, 2, none⟩ = some (.int .i64 c) := ca2
      rw [Array.getD_eq_getD_getElem?] at e15
      unfold Oper.wp
      simp only [execOp, Act.eval, Array.getD_eq_getD_getElem?, e15]
      go_simp
      exact ⟨_, rfl, rfl, gd_refl _⟩
    · refine ⟨fun h => absurd h (by decide), fun _ b1 a1 w1 hk hj hs hr => ?_⟩
      obtain ⟨q, rfl⟩ := hk
      have e3 : a1.tmps.getD 3 undef = .pointer (some ⟨w.heap.size + 1, 0, none⟩) := hs 3 (by decide)
      rw [Array.getD_eq_getD_getElem?] at e3
      unfold Oper.wp
      simp only [execOp, Act.eval, Array.getD_eq_getD_getElem?, e3]
      go_simp
      exact ⟨_, rfl, rfl, gd_refl _⟩
    · refine ⟨fun h => absurd h (by decide), fun _ b1 a1 w1 hk hj hs hr => ?_⟩
      obtain ⟨q, rfl⟩ := hk
      have e17 : a1.tmps.getD 17 undef = .pointer (some ⟨w.heap.size + 1, 2, none⟩) := hr 17 (by decide) (by apply Array.mem_toList_iff.1; repeat (first | exact List.Mem.head _ | apply List.Mem.tail))
      have cc0 : (W2.drewN q).cell? ⟨w.heap.size + 1, 2, none⟩ = some (.int .i64 c') := cb2
      rw [Array.getD_eq_getD_getElem?] at e17
      unfold Oper.wp
      simp only [execOp, Act.eval, Array.getD_eq_getD_getElem?, e17]
      go_simp
      exact ⟨_, rfl, rfl, gd_refl _⟩
    · refine ⟨fun _ a1 w1 hk hj hs hr => ?_, fun h => absurd rfl h⟩
      obtain ⟨q, rfl⟩ := hk
      have e16 : a1.tmps.getD 16 undef = .int .i64 c := hr 16 (by decide) (by apply Array.mem_toList_iff.1; repeat (first | exact List.Mem.head _ | apply List.Mem.tail))
      have e18 : a1.tmps.getD 18 undef = .int .i64 c' := hr 18 (by decide) (by apply Array.mem_toList_iff.1; repeat (first | exact List.Mem.head _ | apply List.Mem.tail))
      rw [Array.getD_eq_getD_getElem?] at e16
      rw [Array.getD_eq_getD_getElem?] at e18
      unfold Oper.wp
      simp only [execOp, Act.eval, Array.getD_eq_getD_getElem?, e16, e18]
      go_simp
      refine (C3.out _).mono ?_
      rintro e w9 ⟨rfl, rfl⟩
      exact ⟨_, rfl, rfl, gd_refl _⟩
  case fin1 =>
    intro ff w9 hk hj hr
    obtain ⟨q, rfl⟩ := hk
    have e9 : ff 9 = .int .i64 (cmpS a a') := hr 9 (by decide)
    have e14 : ff 14 = .int .i64 (cmpI b b') := hr 14 (by decide)
    have e19 : ff 19 = .int .i64 (cmpI c c') := hr 19 (by decide)
    have bo := Blk.new (W2.drewN q) 3 #[.int .i64 (cmpS a a'), .int .i64 (cmpI b b'), .int .i64 (cmpI c c')]
    have hg2 : (W2.drewN q).alloc (.cells #[.int .i64 (cmpS a a'), .int .i64 (cmpI b b'), .int .i64 (cmpI c c')] 3) = grow (w.drewN q) (#[.cells #[.string a, .int .i64 b, .int .i64 c] 63, .cells #[.string a', .int .i64 b', .int .i64 c'] 63] ++ #[.cells #[.int .i64 (cmpS a a'), .int .i64 (cmpI b b'), .int .i64 (cmpI c c')] 3]) := by
      rw [HG.out, alloc_eq_grow]
      show grow (grow (w.drewN q) _) _ = _
      rw [grow_grow]
    have OC1 := hide (OC.out _ _ _ _ _ (bo.cell 0) (bo.cell 1) (bo.cell 2))
    have HG2 := hide hg2
    clear bo hg2 hr hj ca0 ca1 ca2 cb0 cb1 cb2
    simp only [putAll, slotsOf, List.take, List.drop, List.filterMap_cons, List.filterMap_nil, List.foldl_cons, List.foldl_nil, Act.put, e9, e14, e19]
    simp only [List.setIfInBounds_toArray, List.set_cons_succ, List.set_cons_zero]
    go_wp2_with fail
    refine OC1.out.mono ?_
    rintro e w' ⟨rfl, rfl⟩
    go_wp2_with fail
    go_ret
    exact ⟨rfl, q, _, HG2.out⟩
end Qu
end Go.Proofs.Ytomladbdebfikaa
