/- One choice: whether it may be; two points, which one is ahead. -/
import Derived.Test.YtnmaclpjddafnaaRows
import Derived.Test.YtnmaclpjddafnaaSignP
import Derived.Deep.RegionWith
import Derived.Test.YtnmaclpjddafnaaRel
namespace Go.Proofs.Ytnmaclpjddafnaa
open Go.RowKit
set_option linter.unusedVariables false
set_option linter.unusedSimpArgs false
set_option maxRecDepth 100000 in
theorem nan_a (x : Int) (w : World) : Calls Try.prog 43 #[.int .i64 x] w fun e w' => e = .returned (.bool false) ∧ w = w' := by
  go_enter Try.func43, Try.ntmps43
  go_wp2_with fail
  go_ret
  exact ⟨by simp, rfl⟩
set_option maxRecDepth 100000 in
theorem compare_a (x y : Int) (w : World) : Calls Try.prog 28 #[.int .i64 x, .int .i64 y] w fun e w' => e = .returned (.int .i64 (cmpI x y)) ∧ w = w' := by
  by_cases h1 : x < y
  · have E : Hid (cmpI x y = -1) := hide (by unfold cmpI; rw [if_pos h1])
    rw [E.out]
    go_enter Try.func28, Try.ntmps28
    go_wp2_with (go_at_call 43; refine (nan_a _ _).mono ?_; rintro e w' ⟨rfl, rfl⟩)
    go_ret
    exact ⟨rfl, rfl⟩
  by_cases h2 : y < x
  · have E : Hid (cmpI x y = 1) := hide (by unfold cmpI; rw [if_neg h1, if_pos h2])
    rw [E.out]
    go_enter Try.func28, Try.ntmps28
    go_wp2_with (go_at_call 43; refine (nan_a _ _).mono ?_; rintro e w' ⟨rfl, rfl⟩)
    go_ret
    exact ⟨rfl, rfl⟩
  · have E : Hid (cmpI x y = 0) := hide (by unfold cmpI; rw [if_neg h1, if_neg h2])
    rw [E.out]
    go_enter Try.func28, Try.ntmps28
    go_wp2_with (go_at_call 43; refine (nan_a _ _).mono ?_; rintro e w' ⟨rfl, rfl⟩)
    go_ret
    exact ⟨rfl, rfl⟩
/-- The first number that isn't nought. -/
def orL : List Int → Int
  | [] => 0
  | z :: l => if z = 0 then orL l else z
set_option maxRecDepth 100000 in
theorem or_a (g : Nat) (zs : List Int) (w : World) (hc : ∀ j (h : j < zs.length), w.cell? ⟨g, j, none⟩ = some (.int .i64 zs[j])) (hl : zs.length ≤ 100) :
    Calls Try.prog 27 #[.slice (some ⟨g, 0, none⟩) zs.length zs.length] w fun e w' => e = .returned (.int .i64 (orL zs)) ∧ w = w' := by
  have HC := hide hc
  clear hc
  go_enter Try.func27, Try.ntmps27
  go_wp2_with fail
  go_loop [8] (fun vi => ∃ i : Nat, i ≤ zs.length ∧ vi = .int .i64 i ∧ Hid (orL zs = orL (zs.drop i))) (fun vi => zs.length - (intOf vi).toNat)
  case atStart => exact ⟨0, Nat.zero_le _, rfl, hide rfl⟩
  case round =>
    obtain ⟨i, hi, rfl, HO⟩ := hrel
    by_cases hlt : i < zs.length
    · have c0 := HC.out i hlt
      have ho := HO.out
      rw [List.drop_eq_getElem_cons hlt, orL] at ho
      have ltI : (i : Int) < (zs.length : Int) := by omega
      generalize zs[i] = z at *
      by_cases hz : z = 0
      · subst hz
        rw [if_pos rfl] at ho
        have HO2 := hide ho
        clear ho
        go_wp2_with fail
        go_round
        case rel => exact ⟨i + 1, by omega, by go_num, HO2⟩
        case measure => simp [intOf]; omega
      · rw [if_neg hz] at ho
        rw [ho]
        have hz' : (z == 0) = false := by simpa using hz
        go_wp2_with fail
        go_ret
        exact ⟨rfl, rfl⟩
    · have e : orL zs = 0 := by rw [HO.out, List.drop_eq_nil_of_le (by omega)]; rfl
      rw [e]
      have ltI : ¬ (i : Int) < (zs.length : Int) := by omega
      go_wp2_with fail
      go_ret
      exact ⟨rfl, rfl⟩
theorem or_new (g : Nat) (zs : List Int) (w : World) (hg : g = w.heap.size) (hl : zs.length ≤ 100) :
    Calls Try.prog 27 #[.slice (some ⟨g, 0, none⟩) zs.length zs.length] (w.alloc (.cells (zs.map (Value.int .i64)).toArray 3)).drew fun e w' => e = .returned (.int .i64 (orL zs)) ∧ (w.alloc (.cells (zs.map (Value.int .i64)).toArray 3)).drew = w' := by
  subst hg
  refine or_a w.heap.size zs _ (fun j hj => ?_) hl
  show (w.alloc (.cells (zs.map (Value.int .i64)).toArray 3)).cell? ⟨w.heap.size, j, none⟩ = _
  rw [(Blk.new w 3 _).cell]
  simp [hj]
set_option maxRecDepth 100000 in
set_option maxHeartbeats 1000000 in
theorem may_a (t : Ch) (w : World) : Calls Try.prog 20 #[t.val] w fun e w' => e = .returned (.bool (mayC t)) ∧ Below w.heap.size w w' := by
  obtain ⟨r, c, f, s, v⟩ := t
  unfold Ch.val
  simp only
  by_cases k0 : (0 : Int) ≤ r
  case neg =>
    have E : Hid (mayC ⟨r, c, f, s, v⟩ = false) := hide (by simp only [mayC, Bool.and_eq_false_iff, decide_eq_false_iff_not]; omega)
    rw [E.out]
    go_enter Try.func20, Try.ntmps20
    go_wp2_with fail
    go_ret
    exact ⟨rfl, (Below.refl _ _).alloc (Nat.le_refl _) _⟩
  by_cases k1 : r < (64 : Int)
  case neg =>
    have E : Hid (mayC ⟨r, c, f, s, v⟩ = false) := hide (by simp only [mayC, Bool.and_eq_false_iff, decide_eq_false_iff_not]; omega)
    rw [E.out]
    go_enter Try.func20, Try.ntmps20
    go_wp2_with fail
    go_ret
    exact ⟨rfl, (Below.refl _ _).alloc (Nat.le_refl _) _⟩
  by_cases k2 : (0 : Int) ≤ f
  case neg =>
    have E : Hid (mayC ⟨r, c, f, s, v⟩ = false) := hide (by simp only [mayC, Bool.and_eq_false_iff, decide_eq_false_iff_not]; omega)
    rw [E.out]
    go_enter Try.func20, Try.ntmps20
    go_wp2_with fail
    go_ret
    exact ⟨rfl, (Below.refl _ _).alloc (Nat.le_refl _) _⟩
  by_cases k3 : f < (64 : Int)
  case neg =>
    have E : Hid (mayC ⟨r, c, f, s, v⟩ = false) := hide (by simp only [mayC, Bool.and_eq_false_iff, decide_eq_false_iff_not]; omega)
    rw [E.out]
    go_enter Try.func20, Try.ntmps20
    go_wp2_with fail
    go_ret
    exact ⟨rfl, (Below.refl _ _).alloc (Nat.le_refl _) _⟩
  by_cases k4 : (0 : Int) ≤ c
  case neg =>
    have E : Hid (mayC ⟨r, c, f, s, v⟩ = false) := hide (by simp only [mayC, Bool.and_eq_false_iff, decide_eq_false_iff_not]; omega)
    rw [E.out]
    go_enter Try.func20, Try.ntmps20
    go_wp2_with fail
    go_ret
    exact ⟨rfl, (Below.refl _ _).alloc (Nat.le_refl _) _⟩
  by_cases k5 : c ≤ (1099511627776 : Int)
  case neg =>
    have E : Hid (mayC ⟨r, c, f, s, v⟩ = false) := hide (by simp only [mayC, Bool.and_eq_false_iff, decide_eq_false_iff_not]; omega)
    rw [E.out]
    go_enter Try.func20, Try.ntmps20
    go_wp2_with fail
    go_ret
    exact ⟨rfl, (Below.refl _ _).alloc (Nat.le_refl _) _⟩
  by_cases k6 : (0 : Int) ≤ s
  case neg =>
    have E : Hid (mayC ⟨r, c, f, s, v⟩ = false) := hide (by simp only [mayC, Bool.and_eq_false_iff, decide_eq_false_iff_not]; omega)
    rw [E.out]
    go_enter Try.func20, Try.ntmps20
    go_wp2_with fail
    go_ret
    exact ⟨rfl, (Below.refl _ _).alloc (Nat.le_refl _) _⟩
  by_cases k7 : s ≤ (1099511627776 : Int)
  case neg =>
    have E : Hid (mayC ⟨r, c, f, s, v⟩ = false) := hide (by simp only [mayC, Bool.and_eq_false_iff, decide_eq_false_iff_not]; omega)
    rw [E.out]
    go_enter Try.func20, Try.ntmps20
    go_wp2_with fail
    go_ret
    exact ⟨rfl, (Below.refl _ _).alloc (Nat.le_refl _) _⟩
  by_cases k8 : (-1 : Int) ≤ v
  case neg =>
    have E : Hid (mayC ⟨r, c, f, s, v⟩ = false) := hide (by simp only [mayC, Bool.and_eq_false_iff, decide_eq_false_iff_not]; omega)
    rw [E.out]
    go_enter Try.func20, Try.ntmps20
    go_wp2_with fail
    go_ret
    exact ⟨rfl, (Below.refl _ _).alloc (Nat.le_refl _) _⟩
  by_cases k9 : v < (8 : Int)
  case neg =>
    have E : Hid (mayC ⟨r, c, f, s, v⟩ = false) := hide (by simp only [mayC, Bool.and_eq_false_iff, decide_eq_false_iff_not]; omega)
    rw [E.out]
    go_enter Try.func20, Try.ntmps20
    go_wp2_with fail
    go_ret
    exact ⟨rfl, (Below.refl _ _).alloc (Nat.le_refl _) _⟩
  have E : Hid (mayC ⟨r, c, f, s, v⟩ = true) := hide (by simp only [mayC, Bool.and_eq_true, decide_eq_true_eq]; omega)
  rw [E.out]
  go_enter Try.func20, Try.ntmps20
  go_wp2_with fail
  go_ret
  exact ⟨rfl, (Below.refl _ _).alloc (Nat.le_refl _) _⟩
set_option maxRecDepth 100000 in
set_option maxHeartbeats 2000000 in
theorem point_a (x y : Ch) (w : World) : Calls Try.prog 17 #[x.val, y.val] w fun e w' => e = .returned (.int .i64 (ptC x y)) ∧ Below w.heap.size w w' := by
  have E : Hid (orL [cmpI x.r y.r, cmpI x.c y.c] = ptC x y) := hide (by
    unfold ptC
    simp only [orL]
    repeat' split
    all_goals omega)
  rw [← E.out]
  clear E
  obtain ⟨r, c, f, s, v⟩ := x
  obtain ⟨r', c', f', s', v'⟩ := y
  unfold Ch.val
  simp only
  have OR := hide (fun g w hc => or_a g [cmpI r r', cmpI c c'] w hc (by simp))
  have C1 := hide (compare_a r r')
  have C2 := hide (compare_a c c')
  generalize cmpI r r' = z1 at *
  generalize cmpI c c' = z2 at *
  generalize orL [z1, z2] = z at *
  go_enter Try.func17, Try.ntmps17
  go_wp2_with fail
  have hb0 := ((Below.refl w.heap.size w).alloc (Nat.le_refl _) (.cells #[.int .i64 r, .int .i64 c, .int .i64 f, .int .i64 s, .int .i64 v] 24)).alloc (by simp) (.cells #[.int .i64 r', .int .i64 c', .int .i64 f', .int .i64 s', .int .i64 v'] 24)
  have b1 := (Blk.new w 24 #[.int .i64 r, .int .i64 c, .int .i64 f, .int .i64 s, .int .i64 v]).alloc (.cells #[.int .i64 r', .int .i64 c', .int .i64 f', .int .i64 s', .int .i64 v'] 24)
  have b2 := Blk.new (w.alloc (.cells #[.int .i64 r, .int .i64 c, .int .i64 f, .int .i64 s, .int .i64 v] 24)) 24 #[.int .i64 r', .int .i64 c', .int .i64 f', .int .i64 s', .int .i64 v']
  have hw2 : w.heap.size + 1 < ((w.alloc (.cells #[.int .i64 r, .int .i64 c, .int .i64 f, .int .i64 s, .int .i64 v] 24)).alloc (.cells #[.int .i64 r', .int .i64 c', .int .i64 f', .int .i64 s', .int .i64 v'] 24)).heap.size := by simp
  rw [show (w.alloc (.cells #[.int .i64 r, .int .i64 c, .int .i64 f, .int .i64 s, .int .i64 v] 24)).heap.size = w.heap.size + 1 by simp] at b2
  generalize (w.alloc (.cells #[.int .i64 r, .int .i64 c, .int .i64 f, .int .i64 s, .int .i64 v] 24)).alloc (.cells #[.int .i64 r', .int .i64 c', .int .i64 f', .int .i64 s', .int .i64 v'] 24) = W0 at *
  let R : Nat → Value → World → Prop := fun t u w1 => match t with
    | 5 => u = .pointer (some ⟨w.heap.size, 0, none⟩)
    | 6 => u = .int .i64 r
    | 7 => u = .pointer (some ⟨w.heap.size + 1, 0, none⟩)
    | 8 => u = .int .i64 r'
    | 9 => u = .int .i64 z1
    | 10 => u = .pointer (some ⟨w.heap.size, 1, none⟩)
    | 11 => u = .int .i64 c
    | 12 => u = .pointer (some ⟨w.heap.size + 1, 1, none⟩)
    | 13 => u = .int .i64 c'
    | 14 => u = .int .i64 z2
    | 15 => ∃ g, u = .slice (some ⟨g, 0, none⟩) 2 2 ∧ g < w1.heap.size ∧ w1.cell? ⟨g, 0, none⟩ = some (.int .i64 z1) ∧ w1.cell? ⟨g, 1, none⟩ = some (.int .i64 z2)
    | 16 => u = .int .i64 z
    | 4 => u = .int .i64 z
    | _ => True
  refine wp_region_rel R (by kernel_rfl) (by kernel_rfl) (by kernel_rfl) ?mono ?step ?fin
  case mono =>
    intro t u w1 w2 h hb
    match t with
    | 15 =>
      obtain ⟨g, h1, h2, h3, h4⟩ := h
      exact ⟨g, h1, Nat.lt_of_lt_of_le h2 hb.size, (hb.cell (p := ⟨g, 0, none⟩) h2).trans h3, (hb.cell (p := ⟨g, 1, none⟩) h2).trans h4⟩
    | 0 | 1 | 2 | 3 | 4 | 5 | 6 | 7 | 8 | 9 | 10 | 11 | 12 | 13 | 14 | 16 | _ + 17 => exact h
  case fin =>
    intro f w1 hb hr
    have e4 : f 4 = .int .i64 z := hr 4 (by decide)
    have HB := hide (hb0.trans (hb.mono hb0.size))
    simp only [putAll, slotsOf, List.filterMap_cons, List.filterMap_nil, List.foldl_cons, List.foldl_nil, Act.put, e4]
    simp only [List.setIfInBounds_toArray, List.set_cons_succ, List.set_cons_zero]
    go_wp2_with fail
    go_ret
    exact ⟨rfl, HB.out⟩
  case step =>
    intro o ho
    simp only [List.mem_cons, List.not_mem_nil, or_false] at ho
    rcases ho with rfl | rfl | rfl | rfl | rfl | rfl | rfl | rfl | rfl | rfl | rfl | rfl | rfl
    · intro a w1 hb hs hr
      have e2 : a.tmps.getD 2 undef = .pointer (some ⟨w.heap.size, 0, none⟩) := hs 2 (by decide)
      rw [Array.getD_eq_getD_getElem?] at e2
      unfold Oper.wp
      simp only [execOp, Act.eval, Array.getD_eq_getD_getElem?, e2]
      go_simp
      exact ⟨_, rfl, rfl, Below.refl _ _⟩
    · intro a w1 hb hs hr
      have e5 : a.tmps.getD 5 undef = .pointer (some ⟨w.heap.size, 0, none⟩) := hr 5 (by decide) (by apply Array.mem_toList_iff.1; repeat (first | exact List.Mem.head _ | apply List.Mem.tail))
      have cc : w1.cell? ⟨w.heap.size, 0, none⟩ = some (.int .i64 r) := (hb.cell (p := ⟨w.heap.size, 0, none⟩) (by simp only; omega)).trans (b1.cell 0)
      rw [Array.getD_eq_getD_getElem?] at e5
      unfold Oper.wp
      simp only [execOp, Act.eval, Array.getD_eq_getD_getElem?, e5]
      go_simp
      exact ⟨_, rfl, rfl, Below.refl _ _⟩
    · intro a w1 hb hs hr
      have e3 : a.tmps.getD 3 undef = .pointer (some ⟨w.heap.size + 1, 0, none⟩) := hs 3 (by decide)
      rw [Array.getD_eq_getD_getElem?] at e3
      unfold Oper.wp
      simp only [execOp, Act.eval, Array.getD_eq_getD_getElem?, e3]
      go_simp
      exact ⟨_, rfl, rfl, Below.refl _ _⟩
    · intro a w1 hb hs hr
      have e7 : a.tmps.getD 7 undef = .pointer (some ⟨w.heap.size + 1, 0, none⟩) := hr 7 (by decide) (by apply Array.mem_toList_iff.1; repeat (first | exact List.Mem.head _ | apply List.Mem.tail))
      have cc : w1.cell? ⟨w.heap.size + 1, 0, none⟩ = some (.int .i64 r') := (hb.cell (p := ⟨w.heap.size + 1, 0, none⟩) (by simp only; omega)).trans (b2.cell 0)
      rw [Array.getD_eq_getD_getElem?] at e7
      unfold Oper.wp
      simp only [execOp, Act.eval, Array.getD_eq_getD_getElem?, e7]
      go_simp
      exact ⟨_, rfl, rfl, Below.refl _ _⟩
    · intro a w1 hb hs hr
      have e6 : a.tmps.getD 6 undef = .int .i64 r := hr 6 (by decide) (by apply Array.mem_toList_iff.1; repeat (first | exact List.Mem.head _ | apply List.Mem.tail))
      have e8 : a.tmps.getD 8 undef = .int .i64 r' := hr 8 (by decide) (by apply Array.mem_toList_iff.1; repeat (first | exact List.Mem.head _ | apply List.Mem.tail))
      rw [Array.getD_eq_getD_getElem?] at e6
      rw [Array.getD_eq_getD_getElem?] at e8
      unfold Oper.wp
      simp only [execOp, Act.eval, Array.getD_eq_getD_getElem?, e6, e8]
      go_simp
      refine (C1.out _).mono ?_
      rintro e w' ⟨rfl, rfl⟩
      exact ⟨_, rfl, rfl, Below.refl _ _⟩
    · intro a w1 hb hs hr
      have e2 : a.tmps.getD 2 undef = .pointer (some ⟨w.heap.size, 0, none⟩) := hs 2 (by decide)
      rw [Array.getD_eq_getD_getElem?] at e2
      unfold Oper.wp
      simp only [execOp, Act.eval, Array.getD_eq_getD_getElem?, e2]
      go_simp
      exact ⟨_, rfl, rfl, Below.refl _ _⟩
    · intro a w1 hb hs hr
      have e10 : a.tmps.getD 10 undef = .pointer (some ⟨w.heap.size, 1, none⟩) := hr 10 (by decide) (by apply Array.mem_toList_iff.1; repeat (first | exact List.Mem.head _ | apply List.Mem.tail))
      have cc : w1.cell? ⟨w.heap.size, 1, none⟩ = some (.int .i64 c) := (hb.cell (p := ⟨w.heap.size, 1, none⟩) (by simp only; omega)).trans (b1.cell 1)
      rw [Array.getD_eq_getD_getElem?] at e10
      unfold Oper.wp
      simp only [execOp, Act.eval, Array.getD_eq_getD_getElem?, e10]
      go_simp
      exact ⟨_, rfl, rfl, Below.refl _ _⟩
    · intro a w1 hb hs hr
      have e3 : a.tmps.getD 3 undef = .pointer (some ⟨w.heap.size + 1, 0, none⟩) := hs 3 (by decide)
      rw [Array.getD_eq_getD_getElem?] at e3
      unfold Oper.wp
      simp only [execOp, Act.eval, Array.getD_eq_getD_getElem?, e3]
      go_simp
      exact ⟨_, rfl, rfl, Below.refl _ _⟩
    · intro a w1 hb hs hr
      have e12 : a.tmps.getD 12 undef = .pointer (some ⟨w.heap.size + 1, 1, none⟩) := hr 12 (by decide) (by apply Array.mem_toList_iff.1; repeat (first | exact List.Mem.head _ | apply List.Mem.tail))
      have cc : w1.cell? ⟨w.heap.size + 1, 1, none⟩ = some (.int .i64 c') := (hb.cell (p := ⟨w.heap.size + 1, 1, none⟩) (by simp only; omega)).trans (b2.cell 1)
      rw [Array.getD_eq_getD_getElem?] at e12
      unfold Oper.wp
      simp only [execOp, Act.eval, Array.getD_eq_getD_getElem?, e12]
      go_simp
      exact ⟨_, rfl, rfl, Below.refl _ _⟩
    · intro a w1 hb hs hr
      have e11 : a.tmps.getD 11 undef = .int .i64 c := hr 11 (by decide) (by apply Array.mem_toList_iff.1; repeat (first | exact List.Mem.head _ | apply List.Mem.tail))
      have e13 : a.tmps.getD 13 undef = .int .i64 c' := hr 13 (by decide) (by apply Array.mem_toList_iff.1; repeat (first | exact List.Mem.head _ | apply List.Mem.tail))
      rw [Array.getD_eq_getD_getElem?] at e11
      rw [Array.getD_eq_getD_getElem?] at e13
      unfold Oper.wp
      simp only [execOp, Act.eval, Array.getD_eq_getD_getElem?, e11, e13]
      go_simp
      refine (C2.out _).mono ?_
      rintro e w' ⟨rfl, rfl⟩
      exact ⟨_, rfl, rfl, Below.refl _ _⟩
    · intro a w1 hb hs hr
      have e9 : a.tmps.getD 9 undef = .int .i64 z1 := hr 9 (by decide) (by apply Array.mem_toList_iff.1; repeat (first | exact List.Mem.head _ | apply List.Mem.tail))
      have e14 : a.tmps.getD 14 undef = .int .i64 z2 := hr 14 (by decide) (by apply Array.mem_toList_iff.1; repeat (first | exact List.Mem.head _ | apply List.Mem.tail))
      rw [Array.getD_eq_getD_getElem?] at e9
      rw [Array.getD_eq_getD_getElem?] at e14
      unfold Oper.wp
      simp only [execOp, Act.eval, Array.getD_eq_getD_getElem?, e9, e14]
      go_simp
      exact ⟨_, rfl, ⟨w1.heap.size, rfl, by simp, by rw [(Blk.new w1 3 _).cell]; rfl, by rw [(Blk.new w1 3 _).cell]; rfl⟩, (Below.refl _ _).alloc (Nat.le_refl _) _⟩
    · intro a w1 hb hs hr
      have e15 : ∃ g, a.tmps.getD 15 undef = .slice (some ⟨g, 0, none⟩) 2 2 ∧ g < w1.heap.size ∧ w1.cell? ⟨g, 0, none⟩ = some (.int .i64 z1) ∧ w1.cell? ⟨g, 1, none⟩ = some (.int .i64 z2) := hr 15 (by decide) (by apply Array.mem_toList_iff.1; repeat (first | exact List.Mem.head _ | apply List.Mem.tail))
      obtain ⟨g, e15', hg, g0, g1⟩ := e15
      rw [Array.getD_eq_getD_getElem?] at e15'
      unfold Oper.wp
      simp only [execOp, Act.eval, Array.getD_eq_getD_getElem?, e15']
      go_simp
      refine (OR.out g w1 (fun j hj => ?_)).mono ?_
      · match j, hj with
        | 0, _ => exact g0
        | 1, _ => exact g1
      rintro e w' ⟨rfl, rfl⟩
      exact ⟨_, rfl, rfl, Below.refl _ _⟩
    · intro a w1 hb hs hr
      have e16 : a.tmps.getD 16 undef = .int .i64 z := hr 16 (by decide) (by apply Array.mem_toList_iff.1; repeat (first | exact List.Mem.head _ | apply List.Mem.tail))
      rw [Array.getD_eq_getD_getElem?] at e16
      unfold Oper.wp
      simp only [execOp, Act.eval, Array.getD_eq_getD_getElem?, e16]
      go_simp
      exact ⟨_, rfl, rfl, Below.refl _ _⟩
end Go.Proofs.Ytnmaclpjddafnaa
