/- Which of two choices goes first: the program's comparison. -/
import Derived.Test.YtnmaclpjddafnaaDoorRows
import Derived.Test.YtnmaclpjddafnaaDoorSignH
namespace Go.Proofs.YtnmaclpjddafnaaDoor
open Go.RowKit
set_option linter.unusedVariables false
set_option linter.unusedSimpArgs false
/-- Which choice goes first: below nought, the first one. -/
def ahC (x y : Ch) : Int := orL [ptC x y, cmpI x.v y.v, cmpI x.f y.f, cmpI x.s y.s]
set_option maxRecDepth 100000 in
set_option maxHeartbeats 4000000 in
theorem ahead1_a (x y : Ch) (w : World) : Calls Tryd.prog 30 #[x.val, y.val] w fun e w' => e = .returned (.int .i64 (ahC x y)) ∧ Below w.heap.size w w' := by
  have PA := hide (point_a x y)
  have E : Hid (orL [ptC x y, cmpI x.v y.v, cmpI x.f y.f, cmpI x.s y.s] = ahC x y) := hide rfl
  rw [← E.out]
  clear E
  generalize ptC x y = z1 at *
  obtain ⟨r, c, f, s, v⟩ := x
  obtain ⟨r', c', f', s', v'⟩ := y
  unfold Ch.val at PA ⊢
  simp only at PA ⊢
  have C2 := hide (compare_a v v')
  have C3 := hide (compare_a f f')
  have C4 := hide (compare_a s s')
  generalize cmpI v v' = z2 at *
  generalize cmpI f f' = z3 at *
  generalize cmpI s s' = z4 at *
  have OR := hide (fun g w hc => or_a g [z1, z2, z3, z4] w hc (by simp))
  generalize orL [z1, z2, z3, z4] = z at *
  go_enter Tryd.func30, Tryd.ntmps30
  go_wp2_with fail
  have hb0 := ((Below.refl w.heap.size w).alloc (Nat.le_refl _) (.cells #[.int .i64 r, .int .i64 c, .int .i64 f, .int .i64 s, .int .i64 v] 31)).alloc (by simp) (.cells #[.int .i64 r', .int .i64 c', .int .i64 f', .int .i64 s', .int .i64 v'] 31)
  have b1 := (Blk.new w 31 #[.int .i64 r, .int .i64 c, .int .i64 f, .int .i64 s, .int .i64 v]).alloc (.cells #[.int .i64 r', .int .i64 c', .int .i64 f', .int .i64 s', .int .i64 v'] 31)
  have b2 := Blk.new (w.alloc (.cells #[.int .i64 r, .int .i64 c, .int .i64 f, .int .i64 s, .int .i64 v] 31)) 31 #[.int .i64 r', .int .i64 c', .int .i64 f', .int .i64 s', .int .i64 v']
  have hw2 : w.heap.size + 1 < ((w.alloc (.cells #[.int .i64 r, .int .i64 c, .int .i64 f, .int .i64 s, .int .i64 v] 31)).alloc (.cells #[.int .i64 r', .int .i64 c', .int .i64 f', .int .i64 s', .int .i64 v'] 31)).heap.size := by simp
  rw [show (w.alloc (.cells #[.int .i64 r, .int .i64 c, .int .i64 f, .int .i64 s, .int .i64 v] 31)).heap.size = w.heap.size + 1 by simp] at b2
  generalize (w.alloc (.cells #[.int .i64 r, .int .i64 c, .int .i64 f, .int .i64 s, .int .i64 v] 31)).alloc (.cells #[.int .i64 r', .int .i64 c', .int .i64 f', .int .i64 s', .int .i64 v'] 31) = W0 at *
  let R : Nat → Value → World → Prop := fun t u w1 => match t with
    | 5 => u = .agg #[.int .i64 r, .int .i64 c, .int .i64 f, .int .i64 s, .int .i64 v]
    | 6 => u = .agg #[.int .i64 r', .int .i64 c', .int .i64 f', .int .i64 s', .int .i64 v']
    | 7 => u = .int .i64 z1
    | 8 => u = .pointer (some ⟨w.heap.size, 4, none⟩)
    | 9 => u = .int .i64 v
    | 10 => u = .pointer (some ⟨w.heap.size + 1, 4, none⟩)
    | 11 => u = .int .i64 v'
    | 12 => u = .int .i64 z2
    | 13 => u = .pointer (some ⟨w.heap.size, 2, none⟩)
    | 14 => u = .int .i64 f
    | 15 => u = .pointer (some ⟨w.heap.size + 1, 2, none⟩)
    | 16 => u = .int .i64 f'
    | 17 => u = .int .i64 z3
    | 18 => u = .pointer (some ⟨w.heap.size, 3, none⟩)
    | 19 => u = .int .i64 s
    | 20 => u = .pointer (some ⟨w.heap.size + 1, 3, none⟩)
    | 21 => u = .int .i64 s'
    | 22 => u = .int .i64 z4
    | 23 => ∃ g, u = .slice (some ⟨g, 0, none⟩) 4 4 ∧ g < w1.heap.size ∧ w1.cell? ⟨g, 0, none⟩ = some (.int .i64 z1) ∧ w1.cell? ⟨g, 1, none⟩ = some (.int .i64 z2) ∧ w1.cell? ⟨g, 2, none⟩ = some (.int .i64 z3) ∧ w1.cell? ⟨g, 3, none⟩ = some (.int .i64 z4)
    | 24 => u = .int .i64 z
    | 4 => u = .int .i64 z
    | _ => True
  refine wp_region_rel R (by kernel_rfl) (by kernel_rfl) (by kernel_rfl) ?mono ?step ?fin
  case mono =>
    intro t u w1 w2 h hb
    match t with
    | 23 =>
      obtain ⟨g, h1, h2, h3, h4, h5, h6⟩ := h
      exact ⟨g, h1, Nat.lt_of_lt_of_le h2 hb.size, (hb.cell (p := ⟨g, 0, none⟩) h2).trans h3, (hb.cell (p := ⟨g, 1, none⟩) h2).trans h4, (hb.cell (p := ⟨g, 2, none⟩) h2).trans h5, (hb.cell (p := ⟨g, 3, none⟩) h2).trans h6⟩
    | 0 | 1 | 2 | 3 | 4 | 5 | 6 | 7 | 8 | 9 | 10 | 11 | 12 | 13 | 14 | 15 | 16 | 17 | 18 | 19 | 20 | 21 | 22 | 24 | _ + 25 => exact h
  case fin =>
    intro ff w1 hb hr
    have e4 : ff 4 = .int .i64 z := hr 4 (by decide)
    have HB := hide (hb0.trans (hb.mono hb0.size))
    simp only [putAll, slotsOf, List.filterMap_cons, List.filterMap_nil, List.foldl_cons, List.foldl_nil, Act.put, e4]
    simp only [List.setIfInBounds_toArray, List.set_cons_succ, List.set_cons_zero]
    go_wp2_with fail
    go_ret
    exact ⟨rfl, HB.out⟩
  case step =>
    intro o ho
    simp only [List.mem_cons, List.not_mem_nil, or_false] at ho
    rcases ho with rfl | rfl | rfl | rfl | rfl | rfl | rfl | rfl | rfl | rfl | rfl | rfl | rfl | rfl | rfl | rfl | rfl | rfl | rfl | rfl | rfl
    · intro a w1 hb hs hr
      have e2 : a.tmps.getD 2 undef = .pointer (some ⟨w.heap.size, 0, none⟩) := hs 2 (by decide)
      have c0c : w1.cell? ⟨w.heap.size, 0, none⟩ = some (.int .i64 r) := (hb.cell (p := ⟨w.heap.size, 0, none⟩) (by simp only; omega)).trans (b1.cell 0)
      have c1c : w1.cell? ⟨w.heap.size, 1, none⟩ = some (.int .i64 c) := (hb.cell (p := ⟨w.heap.size, 1, none⟩) (by simp only; omega)).trans (b1.cell 1)
      have c2c : w1.cell? ⟨w.heap.size, 2, none⟩ = some (.int .i64 f) := (hb.cell (p := ⟨w.heap.size, 2, none⟩) (by simp only; omega)).trans (b1.cell 2)
      have c3c : w1.cell? ⟨w.heap.size, 3, none⟩ = some (.int .i64 s) := (hb.cell (p := ⟨w.heap.size, 3, none⟩) (by simp only; omega)).trans (b1.cell 3)
      have c4c : w1.cell? ⟨w.heap.size, 4, none⟩ = some (.int .i64 v) := (hb.cell (p := ⟨w.heap.size, 4, none⟩) (by simp only; omega)).trans (b1.cell 4)
      rw [Array.getD_eq_getD_getElem?] at e2
      unfold Oper.wp
      simp only [execOp, Act.eval, Array.getD_eq_getD_getElem?, e2]
      go_simp
      exact ⟨_, rfl, rfl, Below.refl _ _⟩
    · intro a w1 hb hs hr
      have e3 : a.tmps.getD 3 undef = .pointer (some ⟨w.heap.size + 1, 0, none⟩) := hs 3 (by decide)
      have c0c : w1.cell? ⟨w.heap.size + 1, 0, none⟩ = some (.int .i64 r') := (hb.cell (p := ⟨w.heap.size + 1, 0, none⟩) (by simp only; omega)).trans (b2.cell 0)
      have c1c : w1.cell? ⟨w.heap.size + 1, 1, none⟩ = some (.int .i64 c') := (hb.cell (p := ⟨w.heap.size + 1, 1, none⟩) (by simp only; omega)).trans (b2.cell 1)
      have c2c : w1.cell? ⟨w.heap.size + 1, 2, none⟩ = some (.int .i64 f') := (hb.cell (p := ⟨w.heap.size + 1, 2, none⟩) (by simp only; omega)).trans (b2.cell 2)
      have c3c : w1.cell? ⟨w.heap.size + 1, 3, none⟩ = some (.int .i64 s') := (hb.cell (p := ⟨w.heap.size + 1, 3, none⟩) (by simp only; omega)).trans (b2.cell 3)
      have c4c : w1.cell? ⟨w.heap.size + 1, 4, none⟩ = some (.int .i64 v') := (hb.cell (p := ⟨w.heap.size + 1, 4, none⟩) (by simp only; omega)).trans (b2.cell 4)
      rw [Array.getD_eq_getD_getElem?] at e3
      unfold Oper.wp
      simp only [execOp, Act.eval, Array.getD_eq_getD_getElem?, e3]
      go_simp
      exact ⟨_, rfl, rfl, Below.refl _ _⟩
    · intro a w1 hb hs hr
      have e5 : a.tmps.getD 5 undef = .agg #[.int .i64 r, .int .i64 c, .int .i64 f, .int .i64 s, .int .i64 v] := hr 5 (by decide) (by apply Array.mem_toList_iff.1; repeat (first | exact List.Mem.head _ | apply List.Mem.tail))
      have e6 : a.tmps.getD 6 undef = .agg #[.int .i64 r', .int .i64 c', .int .i64 f', .int .i64 s', .int .i64 v'] := hr 6 (by decide) (by apply Array.mem_toList_iff.1; repeat (first | exact List.Mem.head _ | apply List.Mem.tail))
      rw [Array.getD_eq_getD_getElem?] at e5
      rw [Array.getD_eq_getD_getElem?] at e6
      unfold Oper.wp
      simp only [execOp, Act.eval, Array.getD_eq_getD_getElem?, e5, e6]
      go_simp
      refine (PA.out _).mono ?_
      rintro e w' ⟨rfl, hb'⟩
      exact ⟨_, rfl, rfl, hb'⟩
    · intro a w1 hb hs hr
      have e2 : a.tmps.getD 2 undef = .pointer (some ⟨w.heap.size, 0, none⟩) := hs 2 (by decide)
      rw [Array.getD_eq_getD_getElem?] at e2
      unfold Oper.wp
      simp only [execOp, Act.eval, Array.getD_eq_getD_getElem?, e2]
      go_simp
      exact ⟨_, rfl, rfl, Below.refl _ _⟩
    · intro a w1 hb hs hr
      have e8 : a.tmps.getD 8 undef = .pointer (some ⟨w.heap.size, 4, none⟩) := hr 8 (by decide) (by apply Array.mem_toList_iff.1; repeat (first | exact List.Mem.head _ | apply List.Mem.tail))
      have cc : w1.cell? ⟨w.heap.size, 4, none⟩ = some (.int .i64 v) := (hb.cell (p := ⟨w.heap.size, 4, none⟩) (by simp only; omega)).trans (b1.cell 4)
      rw [Array.getD_eq_getD_getElem?] at e8
      unfold Oper.wp
      simp only [execOp, Act.eval, Array.getD_eq_getD_getElem?, e8]
      go_simp
      exact ⟨_, rfl, rfl, Below.refl _ _⟩
    · intro a w1 hb hs hr
      have e3 : a.tmps.getD 3 undef = .pointer (some ⟨w.heap.size + 1, 0, none⟩) := hs 3 (by decide)
      rw [Array.getD_eq_getD_getElem?] at e3
      unfold Oper.wp
      simp only [execOp, Act.eval, Array.getD_eq_getD_getElem?, e3]
      go_simp
      exact ⟨_, rfl, rfl, Below.refl _ _⟩
    · intro a w1 hb hs hr
      have e10 : a.tmps.getD 10 undef = .pointer (some ⟨w.heap.size + 1, 4, none⟩) := hr 10 (by decide) (by apply Array.mem_toList_iff.1; repeat (first | exact List.Mem.head _ | apply List.Mem.tail))
      have cc : w1.cell? ⟨w.heap.size + 1, 4, none⟩ = some (.int .i64 v') := (hb.cell (p := ⟨w.heap.size + 1, 4, none⟩) (by simp only; omega)).trans (b2.cell 4)
      rw [Array.getD_eq_getD_getElem?] at e10
      unfold Oper.wp
      simp only [execOp, Act.eval, Array.getD_eq_getD_getElem?, e10]
      go_simp
      exact ⟨_, rfl, rfl, Below.refl _ _⟩
    · intro a w1 hb hs hr
      have e9 : a.tmps.getD 9 undef = .int .i64 v := hr 9 (by decide) (by apply Array.mem_toList_iff.1; repeat (first | exact List.Mem.head _ | apply List.Mem.tail))
      have e11 : a.tmps.getD 11 undef = .int .i64 v' := hr 11 (by decide) (by apply Array.mem_toList_iff.1; repeat (first | exact List.Mem.head _ | apply List.Mem.tail))
      rw [Array.getD_eq_getD_getElem?] at e9
      rw [Array.getD_eq_getD_getElem?] at e11
      unfold Oper.wp
      simp only [execOp, Act.eval, Array.getD_eq_getD_getElem?, e9, e11]
      go_simp
      refine (C2.out _).mono ?_
      rintro e w' ⟨rfl, rfl⟩
      exact ⟨_, rfl, rfl, Below.refl _ _⟩
    · intro a w1 hb hs hr
      have e2 : a.tmps.getD 2 undef = .pointer (some ⟨w.heap.size, 0, none⟩) := hs 2 (by decide)
      rw [Array.getD_eq_getD_getElem?] at e2
      unfold Oper.wp
      simp only [execOp, Act.eval, Array.getD_eq_getD_getElem?, e2]
      go_simp
      exact ⟨_, rfl, rfl, Below.refl _ _⟩
    · intro a w1 hb hs hr
      have e13 : a.tmps.getD 13 undef = .pointer (some ⟨w.heap.size, 2, none⟩) := hr 13 (by decide) (by apply Array.mem_toList_iff.1; repeat (first | exact List.Mem.head _ | apply List.Mem.tail))
      have cc : w1.cell? ⟨w.heap.size, 2, none⟩ = some (.int .i64 f) := (hb.cell (p := ⟨w.heap.size, 2, none⟩) (by simp only; omega)).trans (b1.cell 2)
      rw [Array.getD_eq_getD_getElem?] at e13
      unfold Oper.wp
      simp only [execOp, Act.eval, Array.getD_eq_getD_getElem?, e13]
      go_simp
      exact ⟨_, rfl, rfl, Below.refl _ _⟩
    · intro a w1 hb hs hr
      have e3 : a.tmps.getD 3 undef = .pointer (some ⟨w.heap.size + 1, 0, none⟩) := hs 3 (by decide)
      rw [Array.getD_eq_getD_getElem?] at e3
      unfold Oper.wp
      simp only [execOp, Act.eval, Array.getD_eq_getD_getElem?, e3]
      go_simp
      exact ⟨_, rfl, rfl, Below.refl _ _⟩
    · intro a w1 hb hs hr
      have e15 : a.tmps.getD 15 undef = .pointer (some ⟨w.heap.size + 1, 2, none⟩) := hr 15 (by decide) (by apply Array.mem_toList_iff.1; repeat (first | exact List.Mem.head _ | apply List.Mem.tail))
      have cc : w1.cell? ⟨w.heap.size + 1, 2, none⟩ = some (.int .i64 f') := (hb.cell (p := ⟨w.heap.size + 1, 2, none⟩) (by simp only; omega)).trans (b2.cell 2)
      rw [Array.getD_eq_getD_getElem?] at e15
      unfold Oper.wp
      simp only [execOp, Act.eval, Array.getD_eq_getD_getElem?, e15]
      go_simp
      exact ⟨_, rfl, rfl, Below.refl _ _⟩
    · intro a w1 hb hs hr
      have e14 : a.tmps.getD 14 undef = .int .i64 f := hr 14 (by decide) (by apply Array.mem_toList_iff.1; repeat (first | exact List.Mem.head _ | apply List.Mem.tail))
      have e16 : a.tmps.getD 16 undef = .int .i64 f' := hr 16 (by decide) (by apply Array.mem_toList_iff.1; repeat (first | exact List.Mem.head _ | apply List.Mem.tail))
      rw [Array.getD_eq_getD_getElem?] at e14
      rw [Array.getD_eq_getD_getElem?] at e16
      unfold Oper.wp
      simp only [execOp, Act.eval, Array.getD_eq_getD_getElem?, e14, e16]
      go_simp
      refine (C3.out _).mono ?_
      rintro e w' ⟨rfl, rfl⟩
      exact ⟨_, rfl, rfl, Below.refl _ _⟩
    · intro a w1 hb hs hr
      have e2 : a.tmps.getD 2 undef = .pointer (some ⟨w.heap.size, 0, none⟩) := hs 2 (by decide)
      rw [Array.getD_eq_getD_getElem?] at e2
      unfold Oper.wp
      simp only [execOp, Act.eval, Array.getD_eq_getD_getElem?, e2]
      go_simp
      exact ⟨_, rfl, rfl, Below.refl _ _⟩
    · intro a w1 hb hs hr
      have e18 : a.tmps.getD 18 undef = .pointer (some ⟨w.heap.size, 3, none⟩) := hr 18 (by decide) (by apply Array.mem_toList_iff.1; repeat (first | exact List.Mem.head _ | apply List.Mem.tail))
      have cc : w1.cell? ⟨w.heap.size, 3, none⟩ = some (.int .i64 s) := (hb.cell (p := ⟨w.heap.size, 3, none⟩) (by simp only; omega)).trans (b1.cell 3)
      rw [Array.getD_eq_getD_getElem?] at e18
      unfold Oper.wp
      simp only [execOp, Act.eval, Array.getD_eq_getD_getElem?, e18]
      go_simp
      exact ⟨_, rfl, rfl, Below.refl _ _⟩
    · intro a w1 hb hs hr
      have e3 : a.tmps.getD 3 undef = .pointer (some ⟨w.heap.size + 1, 0, none⟩) := hs 3 (by decide)
      rw [Array.getD_eq_getD_getElem?] at e3
      unfold Oper.wp
      simp only [execOp, Act.eval, Array.getD_eq_getD_getElem?, e3]
      go_simp
      exact ⟨_, rfl, rfl, Below.refl _ _⟩
    · intro a w1 hb hs hr
      have e20 : a.tmps.getD 20 undef = .pointer (some ⟨w.heap.size + 1, 3, none⟩) := hr 20 (by decide) (by apply Array.mem_toList_iff.1; repeat (first | exact List.Mem.head _ | apply List.Mem.tail))
      have cc : w1.cell? ⟨w.heap.size + 1, 3, none⟩ = some (.int .i64 s') := (hb.cell (p := ⟨w.heap.size + 1, 3, none⟩) (by simp only; omega)).trans (b2.cell 3)
      rw [Array.getD_eq_getD_getElem?] at e20
      unfold Oper.wp
      simp only [execOp, Act.eval, Array.getD_eq_getD_getElem?, e20]
      go_simp
      exact ⟨_, rfl, rfl, Below.refl _ _⟩
    · intro a w1 hb hs hr
      have e19 : a.tmps.getD 19 undef = .int .i64 s := hr 19 (by decide) (by apply Array.mem_toList_iff.1; repeat (first | exact List.Mem.head _ | apply List.Mem.tail))
      have e21 : a.tmps.getD 21 undef = .int .i64 s' := hr 21 (by decide) (by apply Array.mem_toList_iff.1; repeat (first | exact List.Mem.head _ | apply List.Mem.tail))
      rw [Array.getD_eq_getD_getElem?] at e19
      rw [Array.getD_eq_getD_getElem?] at e21
      unfold Oper.wp
      simp only [execOp, Act.eval, Array.getD_eq_getD_getElem?, e19, e21]
      go_simp
      refine (C4.out _).mono ?_
      rintro e w' ⟨rfl, rfl⟩
      exact ⟨_, rfl, rfl, Below.refl _ _⟩
    · intro a w1 hb hs hr
      have e7 : a.tmps.getD 7 undef = .int .i64 z1 := hr 7 (by decide) (by apply Array.mem_toList_iff.1; repeat (first | exact List.Mem.head _ | apply List.Mem.tail))
      have e12 : a.tmps.getD 12 undef = .int .i64 z2 := hr 12 (by decide) (by apply Array.mem_toList_iff.1; repeat (first | exact List.Mem.head _ | apply List.Mem.tail))
      have e17 : a.tmps.getD 17 undef = .int .i64 z3 := hr 17 (by decide) (by apply Array.mem_toList_iff.1; repeat (first | exact List.Mem.head _ | apply List.Mem.tail))
      have e22 : a.tmps.getD 22 undef = .int .i64 z4 := hr 22 (by decide) (by apply Array.mem_toList_iff.1; repeat (first | exact List.Mem.head _ | apply List.Mem.tail))
      rw [Array.getD_eq_getD_getElem?] at e7
      rw [Array.getD_eq_getD_getElem?] at e12
      rw [Array.getD_eq_getD_getElem?] at e17
      rw [Array.getD_eq_getD_getElem?] at e22
      unfold Oper.wp
      simp only [execOp, Act.eval, Array.getD_eq_getD_getElem?, e7, e12, e17, e22]
      go_simp
      exact ⟨_, rfl, ⟨w1.heap.size, rfl, by simp, by rw [(Blk.new w1 3 _).cell]; rfl, by rw [(Blk.new w1 3 _).cell]; rfl, by rw [(Blk.new w1 3 _).cell]; rfl, by rw [(Blk.new w1 3 _).cell]; rfl⟩, (Below.refl _ _).alloc (Nat.le_refl _) _⟩
    · intro a w1 hb hs hr
      have e23 : ∃ g, a.tmps.getD 23 undef = .slice (some ⟨g, 0, none⟩) 4 4 ∧ g < w1.heap.size ∧ w1.cell? ⟨g, 0, none⟩ = some (.int .i64 z1) ∧ w1.cell? ⟨g, 1, none⟩ = some (.int .i64 z2) ∧ w1.cell? ⟨g, 2, none⟩ = some (.int .i64 z3) ∧ w1.cell? ⟨g, 3, none⟩ = some (.int .i64 z4) := hr 23 (by decide) (by apply Array.mem_toList_iff.1; repeat (first | exact List.Mem.head _ | apply List.Mem.tail))
      obtain ⟨g, e23', hg, g0, g1, g2, g3⟩ := e23
      rw [Array.getD_eq_getD_getElem?] at e23'
      unfold Oper.wp
      simp only [execOp, Act.eval, Array.getD_eq_getD_getElem?, e23']
      go_simp
      refine (OR.out g w1 (fun j hj => ?_)).mono ?_
      · match j, hj with
        | 0, _ => exact g0
        | 1, _ => exact g1
        | 2, _ => exact g2
        | 3, _ => exact g3
      rintro e w' ⟨rfl, rfl⟩
      exact ⟨_, rfl, rfl, Below.refl _ _⟩
    · intro a w1 hb hs hr
      have e24 : a.tmps.getD 24 undef = .int .i64 z := hr 24 (by decide) (by apply Array.mem_toList_iff.1; repeat (first | exact List.Mem.head _ | apply List.Mem.tail))
      rw [Array.getD_eq_getD_getElem?] at e24
      unfold Oper.wp
      simp only [execOp, Act.eval, Array.getD_eq_getD_getElem?, e24]
      go_simp
      exact ⟨_, rfl, rfl, Below.refl _ _⟩
end Go.Proofs.YtnmaclpjddafnaaDoor
