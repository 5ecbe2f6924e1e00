/- byPoint, and what it leaves of the world: draws, blocks of its own. -/
import Derived.Test.YtnmaclpjddafnaaRows
import Derived.Test.YtnmaclpjddafnaaSignA
import Derived.Test.YtnmaclpjddafnaaRelJ
import Derived.Sort.Grow
import Derived.BigRegion
namespace Go.Proofs.Ytnmaclpjddafnaa
open Go Go.RowKit Go.Sort
set_option linter.unusedVariables false
set_option linter.unusedSimpArgs false
namespace Jn
def Gd (w w' : World) : Prop := ∃ q, w' = w.drewN q
theorem gd_trans {a b c : World} (h : Gd a b) (k : Gd b c) : Gd a c := by
  obtain ⟨q, rfl⟩ := h
  obtain ⟨r, rfl⟩ := k
  exact ⟨q + r, by rw [World.drewN_drewN]⟩
theorem gd_refl (w : World) : Gd w w := ⟨0, rfl⟩
set_option maxRecDepth 100000 in
set_option maxHeartbeats 4000000 in
theorem pt_c (x y : Ch) (w : World) : Calls Try.prog 17 #[x.val, y.val] w fun e w' => e = .returned (.int .i64 (ptC x y)) ∧ ∃ q os, w' = grow (w.drewN q) os := by
  have E : Hid (orL [cmpI x.r y.r, cmpI x.c y.c] = ptC x y) := hide (by
    unfold ptC
    simp only [orL]
    repeat' split
    all_goals omega)
  rw [← E.out]
  clear E
  obtain ⟨r, c, f, s, v⟩ := x
  obtain ⟨r', c', f', s', v'⟩ := y
  unfold Ch.val
  simp only
  have OC := hide (fun g w hc => or_a g [cmpI r r', cmpI c c'] w hc (by simp))
  have C1 := hide (fun w' => compare_a r r' w')
  have C2 := hide (fun w' => compare_a c c' w')
  go_enter Try.func17, Try.ntmps17
  go_wp2_with fail
  -- the region
  have ba := Blk.new w 24 #[.int .i64 r, .int .i64 c, .int .i64 f, .int .i64 s, .int .i64 v]
  have hba := (Below.refl (w.alloc (.cells #[.int .i64 r, .int .i64 c, .int .i64 f, .int .i64 s, .int .i64 v] 24)).heap.size (w.alloc (.cells #[.int .i64 r, .int .i64 c, .int .i64 f, .int .i64 s, .int .i64 v] 24))).alloc (Nat.le_refl _) (.cells #[.int .i64 r', .int .i64 c', .int .i64 f', .int .i64 s', .int .i64 v'] 24)
  have ba2 := ba.below hba ba.lt
  have bb := Blk.new (w.alloc (.cells #[.int .i64 r, .int .i64 c, .int .i64 f, .int .i64 s, .int .i64 v] 24)) 24 #[.int .i64 r', .int .i64 c', .int .i64 f', .int .i64 s', .int .i64 v']
  rw [show (w.alloc (.cells #[.int .i64 r, .int .i64 c, .int .i64 f, .int .i64 s, .int .i64 v] 24)).heap.size = w.heap.size + 1 by simp] at bb
  have hg : ((w.alloc (.cells #[.int .i64 r, .int .i64 c, .int .i64 f, .int .i64 s, .int .i64 v] 24)).alloc (.cells #[.int .i64 r', .int .i64 c', .int .i64 f', .int .i64 s', .int .i64 v'] 24)) = grow w #[.cells #[.int .i64 r, .int .i64 c, .int .i64 f, .int .i64 s, .int .i64 v] 24, .cells #[.int .i64 r', .int .i64 c', .int .i64 f', .int .i64 s', .int .i64 v'] 24] := by
    rw [alloc_eq_grow, alloc_eq_grow, grow_grow]
    rfl
  obtain ⟨W2, hW2⟩ : ∃ x, (w.alloc (.cells #[.int .i64 r, .int .i64 c, .int .i64 f, .int .i64 s, .int .i64 v] 24)).alloc (.cells #[.int .i64 r', .int .i64 c', .int .i64 f', .int .i64 s', .int .i64 v'] 24) = x := ⟨_, rfl⟩
  rw [hW2] at ba2 bb hg ⊢
  have ca0 := ba2.cell 0
  have ca1 := ba2.cell 1
  have cb0 := bb.cell 0
  have cb1 := bb.cell 1
  have HG := hide hg
  clear ba hba ba2 bb hg hW2
  let R : Nat → Value → World → Prop := fun sl u _ => match sl with
    | 5 => u = .pointer (some ⟨w.heap.size, 0, none⟩)
    | 6 => u = .int .i64 r
    | 7 => u = .pointer (some ⟨w.heap.size + 1, 0, none⟩)
    | 8 => u = .int .i64 r'
    | 9 => u = .int .i64 (cmpI r r')
    | 10 => u = .pointer (some ⟨w.heap.size, 1, none⟩)
    | 11 => u = .int .i64 c
    | 12 => u = .pointer (some ⟨w.heap.size + 1, 1, none⟩)
    | 13 => u = .int .i64 c'
    | 14 => u = .int .i64 (cmpI c c')
    | _ => True
  refine wp_region_relJ 10 14 R Gd (fun _ _ => True) (by kernel_rfl) (by kernel_rfl) (by kernel_rfl) (by kernel_rfl) (by kernel_rfl) (fun _ _ _ h1 h2 => gd_trans h1 h2) ⟨1, rfl⟩ trivial (fun t v wx wy h _ => h) ?step1 ?fin1
  case step1 =>
    intro op hop
    simp only [List.take, List.mem_cons, List.not_mem_nil, or_false] at hop
    rcases hop with rfl | rfl | rfl | rfl | rfl | rfl | rfl | rfl | rfl | rfl
    · refine ⟨fun h => absurd h (by decide), fun _ b1 a1 w1 hk hj hs hr => ?_⟩
      obtain ⟨q, rfl⟩ := hk
      have e2 : a1.tmps.getD 2 undef = .pointer (some ⟨w.heap.size, 0, none⟩) := hs 2 (by decide)
      rw [Array.getD_eq_getD_getElem?] at e2
      unfold Oper.wp
      simp only [execOp, Act.eval, Array.getD_eq_getD_getElem?, e2]
      go_simp
      exact ⟨_, rfl, rfl, gd_refl _⟩
    · refine ⟨fun h => absurd h (by decide), fun _ b1 a1 w1 hk hj hs hr => ?_⟩
      obtain ⟨q, rfl⟩ := hk
      have e5 : a1.tmps.getD 5 undef = .pointer (some ⟨w.heap.size, 0, none⟩) := hr 5 (by decide) (by apply Array.mem_toList_iff.1; repeat (first | exact List.Mem.head _ | apply List.Mem.tail))
      have cc0 : (W2.drewN q).cell? ⟨w.heap.size, 0, none⟩ = some (.int .i64 r) := ca0
      rw [Array.getD_eq_getD_getElem?] at e5
      unfold Oper.wp
      simp only [execOp, Act.eval, Array.getD_eq_getD_getElem?, e5]
      go_simp
      exact ⟨_, rfl, rfl, gd_refl _⟩
    · refine ⟨fun h => absurd h (by decide), fun _ b1 a1 w1 hk hj hs hr => ?_⟩
      obtain ⟨q, rfl⟩ := hk
      have e3 : a1.tmps.getD 3 undef = .pointer (some ⟨w.heap.size + 1, 0, none⟩) := hs 3 (by decide)
      rw [Array.getD_eq_getD_getElem?] at e3
      unfold Oper.wp
      simp only [execOp, Act.eval, Array.getD_eq_getD_getElem?, e3]
      go_simp
      exact ⟨_, rfl, rfl, gd_refl _⟩
    · refine ⟨fun h => absurd h (by decide), fun _ b1 a1 w1 hk hj hs hr => ?_⟩
      obtain ⟨q, rfl⟩ := hk
      have e7 : a1.tmps.getD 7 undef = .pointer (some ⟨w.heap.size + 1, 0, none⟩) := hr 7 (by decide) (by apply Array.mem_toList_iff.1; repeat (first | exact List.Mem.head _ | apply List.Mem.tail))
      have cc0 : (W2.drewN q).cell? ⟨w.heap.size + 1, 0, none⟩ = some (.int .i64 r') := cb0
      rw [Array.getD_eq_getD_getElem?] at e7
      unfold Oper.wp
      simp only [execOp, Act.eval, Array.getD_eq_getD_getElem?, e7]
      go_simp
      exact ⟨_, rfl, rfl, gd_refl _⟩
    · refine ⟨fun h => absurd h (by decide), fun _ b1 a1 w1 hk hj hs hr => ?_⟩
      obtain ⟨q, rfl⟩ := hk
      have e6 : a1.tmps.getD 6 undef = .int .i64 r := hr 6 (by decide) (by apply Array.mem_toList_iff.1; repeat (first | exact List.Mem.head _ | apply List.Mem.tail))
      have e8 : a1.tmps.getD 8 undef = .int .i64 r' := hr 8 (by decide) (by apply Array.mem_toList_iff.1; repeat (first | exact List.Mem.head _ | apply List.Mem.tail))
      rw [Array.getD_eq_getD_getElem?] at e6
      rw [Array.getD_eq_getD_getElem?] at e8
      unfold Oper.wp
      simp only [execOp, Act.eval, Array.getD_eq_getD_getElem?, e6, e8]
      go_simp
      refine (C1.out _).mono ?_
      rintro e w9 ⟨rfl, rfl⟩
      exact ⟨_, rfl, rfl, gd_refl _⟩
    · refine ⟨fun h => absurd h (by decide), fun _ b1 a1 w1 hk hj hs hr => ?_⟩
      obtain ⟨q, rfl⟩ := hk
      have e2 : a1.tmps.getD 2 undef = .pointer (some ⟨w.heap.size, 0, none⟩) := hs 2 (by decide)
      rw [Array.getD_eq_getD_getElem?] at e2
      unfold Oper.wp
      simp only [execOp, Act.eval, Array.getD_eq_getD_getElem?, e2]
      go_simp
      exact ⟨_, rfl, rfl, gd_refl _⟩
    · refine ⟨fun h => absurd h (by decide), fun _ b1 a1 w1 hk hj hs hr => ?_⟩
      obtain ⟨q, rfl⟩ := hk
      have e10 : a1.tmps.getD 10 undef = .pointer (some ⟨w.heap.size, 1, none⟩) := hr 10 (by decide) (by apply Array.mem_toList_iff.1; repeat (first | exact List.Mem.head _ | apply List.Mem.tail))
      have cc0 : (W2.drewN q).cell? ⟨w.heap.size, 1, none⟩ = some (.int .i64 c) := ca1
      rw [Array.getD_eq_getD_getElem?] at e10
      unfold Oper.wp
      simp only [execOp, Act.eval, Array.getD_eq_getD_getElem?, e10]
      go_simp
      exact ⟨_, rfl, rfl, gd_refl _⟩
    · refine ⟨fun h => absurd h (by decide), fun _ b1 a1 w1 hk hj hs hr => ?_⟩
      obtain ⟨q, rfl⟩ := hk
      have e3 : a1.tmps.getD 3 undef = .pointer (some ⟨w.heap.size + 1, 0, none⟩) := hs 3 (by decide)
      rw [Array.getD_eq_getD_getElem?] at e3
      unfold Oper.wp
      simp only [execOp, Act.eval, Array.getD_eq_getD_getElem?, e3]
      go_simp
      exact ⟨_, rfl, rfl, gd_refl _⟩
    · refine ⟨fun h => absurd h (by decide), fun _ b1 a1 w1 hk hj hs hr => ?_⟩
      obtain ⟨q, rfl⟩ := hk
      have e12 : a1.tmps.getD 12 undef = .pointer (some ⟨w.heap.size + 1, 1, none⟩) := hr 12 (by decide) (by apply Array.mem_toList_iff.1; repeat (first | exact List.Mem.head _ | apply List.Mem.tail))
      have cc0 : (W2.drewN q).cell? ⟨w.heap.size + 1, 1, none⟩ = some (.int .i64 c') := cb1
      rw [Array.getD_eq_getD_getElem?] at e12
      unfold Oper.wp
      simp only [execOp, Act.eval, Array.getD_eq_getD_getElem?, e12]
      go_simp
      exact ⟨_, rfl, rfl, gd_refl _⟩
    · refine ⟨fun _ a1 w1 hk hj hs hr => ?_, fun h => absurd rfl h⟩
      obtain ⟨q, rfl⟩ := hk
      have e11 : a1.tmps.getD 11 undef = .int .i64 c := hr 11 (by decide) (by apply Array.mem_toList_iff.1; repeat (first | exact List.Mem.head _ | apply List.Mem.tail))
      have e13 : a1.tmps.getD 13 undef = .int .i64 c' := hr 13 (by decide) (by apply Array.mem_toList_iff.1; repeat (first | exact List.Mem.head _ | apply List.Mem.tail))
      rw [Array.getD_eq_getD_getElem?] at e11
      rw [Array.getD_eq_getD_getElem?] at e13
      unfold Oper.wp
      simp only [execOp, Act.eval, Array.getD_eq_getD_getElem?, e11, e13]
      go_simp
      refine (C2.out _).mono ?_
      rintro e w9 ⟨rfl, rfl⟩
      exact ⟨_, rfl, rfl, gd_refl _⟩
  case fin1 =>
    intro ff w9 hk hj hr
    obtain ⟨q, rfl⟩ := hk
    have e9 : ff 9 = .int .i64 (cmpI r r') := hr 9 (by decide)
    have e14 : ff 14 = .int .i64 (cmpI c c') := hr 14 (by decide)
    have bo := Blk.new (W2.drewN q) 3 #[.int .i64 (cmpI r r'), .int .i64 (cmpI c c')]
    have hg2 : (W2.drewN q).alloc (.cells #[.int .i64 (cmpI r r'), .int .i64 (cmpI c c')] 3) = grow (w.drewN q) (#[.cells #[.int .i64 r, .int .i64 c, .int .i64 f, .int .i64 s, .int .i64 v] 24, .cells #[.int .i64 r', .int .i64 c', .int .i64 f', .int .i64 s', .int .i64 v'] 24] ++ #[.cells #[.int .i64 (cmpI r r'), .int .i64 (cmpI c c')] 3]) := by
      rw [HG.out, alloc_eq_grow]
      show grow (grow (w.drewN q) _) _ = _
      rw [grow_grow]
    have OC1 := hide (OC.out _ _ (fun j hj => match j, hj with
      | 0, _ => bo.cell 0
      | 1, _ => bo.cell 1))
    have HG2 := hide hg2
    clear bo hg2 hr hj ca0 ca1 cb0 cb1
    simp only [putAll, slotsOf, List.take, List.drop, List.filterMap_cons, List.filterMap_nil, List.foldl_cons, List.foldl_nil, Act.put, e9, e14]
    simp only [List.setIfInBounds_toArray, List.set_cons_succ, List.set_cons_zero]
    go_wp2_with fail
    refine OC1.out.mono ?_
    rintro e w' ⟨rfl, rfl⟩
    go_wp2_with fail
    go_ret
    exact ⟨rfl, q, _, HG2.out⟩
end Jn
end Go.Proofs.Ytnmaclpjddafnaa
