/- A pick's text: the program's word. -/
import Derived.Test.YtaakndenkfkijaaDoorRows
import Derived.Test.YtaakndenkfkijaaDoorRel
import Derived.Test.YtaakndenkfkijaaDoorWitD
import Derived.Test.YtaakndenkfkijaaDoorWitO
import Derived.Test.YtaakndenkfkijaaDoorWitS
namespace Go.Proofs.YtaakndenkfkijaaDoor
open Go.RowKit
open Go.Lib (itoa itoa_length_le)
set_option linter.unusedVariables false
set_option linter.unusedSimpArgs false
namespace Wit
/-- What is told of a pick: the text, and whether it is its text. -/
def wordT (p : Pk) : List UInt8 := if p.k = 1 then [103] ++ dots [p.r] else if p.k = 2 then [109] ++ dots [p.r, p.c, p.f, p.s] else if p.k = 3 then [97] ++ dots [p.r, p.c, p.v, p.f, p.s] else []
theorem word_yes {p : Pk} (h : (ptT p).isSome = true) : ptT p = some (wordT p) := by
  unfold ptT at *
  unfold wordT
  split at h
  · rename_i hk
    rw [if_pos hk, if_pos hk]
    split at h
    · rename_i hz
      rw [if_pos hz]
      rfl
    · cases h
  · rename_i hk
    rw [if_neg hk, if_neg hk]
    split at h
    · rename_i hk2
      rw [if_pos hk2, if_pos hk2]
      split at h
      · rename_i hz
        rw [if_pos hz]
        rfl
      · cases h
    · rename_i hk2
      rw [if_neg hk2, if_neg hk2]
      split at h
      · rename_i hk3
        rw [if_pos hk3, if_pos hk3]
        rfl
      · cases h
theorem word_len {p : Pk} (h : p.ok) : (wordT p).length ≤ 200 := by
  obtain ⟨o1, o2, o3, o4, o5⟩ := h
  have d1 := dots_le [p.r] (by intro z hz; simp at hz; subst hz; exact o1)
  have d2 := dots_le [p.r, p.c, p.f, p.s] (by intro z hz; simp at hz; rcases hz with rfl | rfl | rfl | rfl <;> assumption)
  have d3 := dots_le [p.r, p.c, p.v, p.f, p.s] (by intro z hz; simp at hz; rcases hz with rfl | rfl | rfl | rfl | rfl <;> assumption)
  simp only [List.length_cons, List.length_nil] at d1 d2 d3
  unfold wordT
  split
  · rw [List.length_append]; simp only [List.length_cons, List.length_nil]; omega
  · split
    · rw [List.length_append]; simp only [List.length_cons, List.length_nil]; omega
    · split
      · rw [List.length_append]; simp only [List.length_cons, List.length_nil]; omega
      · simp
theorem is1 {p : Pk} (h : p.k = 1) : (ptT p).isSome = decide (p = ⟨1, p.r, 0, 0, 0, 0⟩) := by
  unfold ptT
  rw [if_pos h]
  by_cases hz : p.c = 0 ∧ p.f = 0 ∧ p.s = 0 ∧ p.v = 0
  · rw [if_pos hz]
    obtain ⟨k, r, c, f, s, v⟩ := p
    simp only at h hz
    obtain ⟨rfl, rfl, rfl, rfl⟩ := hz
    subst h
    simp
  · rw [if_neg hz]
    refine (decide_eq_false fun e => hz ?_).symm
    rw [e]
    exact ⟨rfl, rfl, rfl, rfl⟩
theorem is2 {p : Pk} (h : p.k = 2) : (ptT p).isSome = (p.v == 0) := by
  unfold ptT
  rw [if_neg (by omega), if_pos h]
  by_cases hz : p.v = 0
  · rw [if_pos hz]; simp [hz]
  · rw [if_neg hz]; simp [hz]
theorem is3 {p : Pk} (h : p.k = 3) : (ptT p).isSome = true := by
  unfold ptT
  rw [if_neg (by omega), if_neg (by omega), if_pos h]
  rfl
theorem is0 {p : Pk} (h1 : ¬ p.k = 1) (h2 : ¬ p.k = 2) (h3 : ¬ p.k = 3) : (ptT p).isSome = false := by
  unfold ptT
  rw [if_neg h1, if_neg h2, if_neg h3]
  rfl
set_option maxRecDepth 100000 in
theorem eqlPk (x y : Pk) (w : World) : (binOp .eql 39 (.agg #[.int .u8 x.k, .int .i64 x.r, .int .i64 x.c, .int .i64 x.f, .int .i64 x.s, .int .i64 x.v]) (.agg #[.int .u8 y.k, .int .i64 y.r, .int .i64 y.c, .int .i64 y.f, .int .i64 y.s, .int .i64 y.v])).run Tryd.prog w = .ok (.bool (decide (x = y))) w := by
  have h := neqPk x y w
  rw [run_neq_struct] at h
  rw [run_eql_struct]
  generalize (Op.equalIn 10000 39 (.agg #[.int .u8 x.k, .int .i64 x.r, .int .i64 x.c, .int .i64 x.f, .int .i64 x.s, .int .i64 x.v]) (.agg #[.int .u8 y.k, .int .i64 y.r, .int .i64 y.c, .int .i64 y.f, .int .i64 y.s, .int .i64 y.v])).run Tryd.prog w = o at *
  cases o with
  | ok b w' =>
    simp only [Result.andThen] at h ⊢
    injection h with h1 h2
    injection h1 with h1
    subst h2
    generalize decide (x = y) = d at *
    rw [show b = d by cases b <;> cases d <;> simp_all]
  | _ => simp only [Result.andThen] at h; cases h
set_option maxRecDepth 100000 in
set_option maxHeartbeats 4000000 in
theorem word_a1 (p : Pk) (hok : p.ok) (hk : p.k = 1) (w : World) (h : Env w) :
    Calls Tryd.prog 10 #[.agg (pkC p)] w fun e w' => e = .returned (.tuple #[.string (bytes (wordT p)), .bool (ptT p).isSome]) ∧ Below w.heap.size w w' := by
  have o1 := hok.1
  rw [is1 hk]
  have hT : wordT p = [103] ++ dots [p.r] := by unfold wordT; rw [if_pos hk]
  rw [hT]
  have DD : Hid (∀ (g : Nat) (w' : World), g < w'.heap.size → w'.cell? ⟨g, 0, none⟩ = some (.int .i64 p.r) → Env w' → Calls Tryd.prog 20 #[.string ⟨#[103]⟩, .slice (some ⟨g, 0, none⟩) 1 1] w' fun e w'' => e = .returned (.string (bytes ([103] ++ dots [p.r]))) ∧ Below w'.heap.size w' w'') := hide fun g w' hg h0 he =>
    dotted_a [103] g [p.r] w' hg (fun i hi => by
      match i, hi with
      | 0, _ => exact h0) (by simp) (by simp) (by intro z hz; simp at hz; subst hz; exact o1) he
  have EQ := hide (eqlPk p ⟨1, p.r, 0, 0, 0, 0⟩)
  have hq : Tryd.prog.eqGuardType Tryd.prog.depth 39 = false := by kernel_rfl
  generalize decide (p = ⟨1, p.r, 0, 0, 0, 0⟩) = z at *
  generalize bytes ([103] ++ dots [p.r]) = S at *
  obtain ⟨k, r, c, f, s, v⟩ := p
  simp only [pkC] at *
  have bk := Blk.new w 39 #[.int .u8 k, .int .i64 r, .int .i64 c, .int .i64 f, .int .i64 s, .int .i64 v]
  have hb1 := (Below.refl w.heap.size w).alloc (Nat.le_refl _) (.cells #[.int .u8 k, .int .i64 r, .int .i64 c, .int .i64 f, .int .i64 s, .int .i64 v] 39)
  have q0 := bk.cell 0
  have q1 := bk.cell 1
  have q2 := bk.cell 2
  have q3 := bk.cell 3
  have q4 := bk.cell 4
  have q5 := bk.cell 5
  simp only [List.getElem?_toArray, List.getElem?_cons_zero, List.getElem?_cons_succ] at q0 q1 q2 q3 q4 q5
  have hlt : w.heap.size < (w.alloc (.cells #[.int .u8 k, .int .i64 r, .int .i64 c, .int .i64 f, .int .i64 s, .int .i64 v] 39)).heap.size := by simp
  have HB := hide hb1
  have HE := hide (h.below hb1 (Nat.le_refl _))
  have e1 := eqs hk
  clear o1 hok hb1 bk h hT hk
  go_enter Tryd.func10, Tryd.ntmps10
  go_wp2_with fail
  generalize w.alloc (.cells #[.int .u8 k, .int .i64 r, .int .i64 c, .int .i64 f, .int .i64 s, .int .i64 v] 39) = W0 at *
  let R : Nat → Value → World → Prop := fun t u w1 => match t with
    | 2 => u = .string S
    | 3 => u = .bool z
    | 8 => u = .pointer (some ⟨w.heap.size, 1, none⟩)
    | 9 => u = .int .i64 r
    | 10 => ∃ g, u = .slice (some ⟨g, 0, none⟩) 1 1 ∧ g < w1.heap.size ∧ w1.cell? ⟨g, 0, none⟩ = some (.int .i64 r)
    | 11 => u = .string S
    | 12 => u = .agg #[.int .u8 k, .int .i64 r, .int .i64 c, .int .i64 f, .int .i64 s, .int .i64 v]
    | 13 => u = .pointer (some ⟨w.heap.size, 1, none⟩)
    | 14 => u = .int .i64 r
    | 15 => u = .agg #[.int .u8 1, .int .i64 r, .int .i64 0, .int .i64 0, .int .i64 0, .int .i64 0]
    | 16 => u = .bool z
    | _ => True
  refine wp_region_rel R (by kernel_rfl) (by kernel_rfl) (by kernel_rfl) ?mono ?step ?fin
  case mono =>
    intro t u w1 w2 h hb
    match t with
    | 10 =>
      obtain ⟨g, h1, h2, g0⟩ := h
      exact ⟨g, h1, Nat.lt_of_lt_of_le h2 hb.size, (hb.cell (p := ⟨g, 0, none⟩) h2).trans g0⟩
    | 0 | 1 | 2 | 3 | 4 | 5 | 6 | 7 | 8 | 9 | 11 | 12 | 13 | 14 | 15 | 16 | _ + 17 => exact h
  case fin =>
    intro ff w1 hb hr
    have e2 : ff 2 = .string S := hr 2 (by decide)
    have e3 : ff 3 = .bool z := hr 3 (by decide)
    have HB1 := hide (HB.out.trans (hb.mono HB.out.size))
    clear hr hb
    simp only [putAll, slotsOf, List.filterMap_cons, List.filterMap_nil, List.foldl_cons, List.foldl_nil, Act.put, e2, e3]
    simp only [List.setIfInBounds_toArray, List.set_cons_succ, List.set_cons_zero]
    go_wp2_with fail
    go_ret2
    exact ⟨rfl, HB1.out⟩
  case step =>
    intro o ho
    simp only [List.mem_cons, List.not_mem_nil, or_false] at ho
    rcases ho with rfl | rfl | rfl | rfl | rfl | rfl | rfl | rfl | rfl | rfl | rfl
    · intro a w1 hb hs hr
      have e1 : a.tmps.getD 1 undef = .pointer (some ⟨w.heap.size, 0, none⟩) := hs 1 (by decide)
      rw [Array.getD_eq_getD_getElem?] at e1
      unfold Oper.wp
      simp only [execOp, Act.eval, Array.getD_eq_getD_getElem?, e1]
      go_simp
      exact ⟨_, rfl, rfl, Below.refl _ _⟩
    · intro a w1 hb hs hr
      have e8 : a.tmps.getD 8 undef = .pointer (some ⟨w.heap.size, 1, none⟩) := hr 8 (by decide) (by apply Array.mem_toList_iff.1; repeat (first | exact List.Mem.head _ | apply List.Mem.tail))
      have cc1 : w1.cell? ⟨w.heap.size, 1, none⟩ = some (.int .i64 r) := (hb.cell (p := ⟨w.heap.size, 1, none⟩) hlt).trans q1
      rw [Array.getD_eq_getD_getElem?] at e8
      unfold Oper.wp
      simp only [execOp, Act.eval, Array.getD_eq_getD_getElem?, e8]
      go_simp
      exact ⟨_, rfl, rfl, Below.refl _ _⟩
    · intro a w1 hb hs hr
      have e9 : a.tmps.getD 9 undef = .int .i64 r := hr 9 (by decide) (by apply Array.mem_toList_iff.1; repeat (first | exact List.Mem.head _ | apply List.Mem.tail))
      rw [Array.getD_eq_getD_getElem?] at e9
      unfold Oper.wp
      simp only [execOp, Act.eval, Array.getD_eq_getD_getElem?, e9]
      go_simp
      exact ⟨_, rfl, ⟨w1.heap.size, rfl, by simp, by rw [(Blk.new w1 3 _).cell]; rfl⟩, (Below.refl _ _).alloc (Nat.le_refl _) _⟩
    · intro a w1 hb hs hr
      have e10 : ∃ g, a.tmps.getD 10 undef = .slice (some ⟨g, 0, none⟩) 1 1 ∧ g < w1.heap.size ∧ w1.cell? ⟨g, 0, none⟩ = some (.int .i64 r) := hr 10 (by decide) (by apply Array.mem_toList_iff.1; repeat (first | exact List.Mem.head _ | apply List.Mem.tail))
      obtain ⟨g, e10', hg, g0⟩ := e10
      rw [Array.getD_eq_getD_getElem?] at e10'
      unfold Oper.wp
      simp only [execOp, Act.eval, Array.getD_eq_getD_getElem?, e10']
      go_simp
      refine (DD.out g w1 hg g0 (HE.out.below hb (Nat.le_refl _))).mono ?_
      rintro e w' ⟨rfl, hb'⟩
      exact ⟨_, rfl, rfl, hb'⟩
    · intro a w1 hb hs hr
      have e1 : a.tmps.getD 1 undef = .pointer (some ⟨w.heap.size, 0, none⟩) := hs 1 (by decide)
      have cc0 : w1.cell? ⟨w.heap.size, 0, none⟩ = some (.int .u8 k) := (hb.cell (p := ⟨w.heap.size, 0, none⟩) hlt).trans q0
      have cc1 : w1.cell? ⟨w.heap.size, 1, none⟩ = some (.int .i64 r) := (hb.cell (p := ⟨w.heap.size, 1, none⟩) hlt).trans q1
      have cc2 : w1.cell? ⟨w.heap.size, 2, none⟩ = some (.int .i64 c) := (hb.cell (p := ⟨w.heap.size, 2, none⟩) hlt).trans q2
      have cc3 : w1.cell? ⟨w.heap.size, 3, none⟩ = some (.int .i64 f) := (hb.cell (p := ⟨w.heap.size, 3, none⟩) hlt).trans q3
      have cc4 : w1.cell? ⟨w.heap.size, 4, none⟩ = some (.int .i64 s) := (hb.cell (p := ⟨w.heap.size, 4, none⟩) hlt).trans q4
      have cc5 : w1.cell? ⟨w.heap.size, 5, none⟩ = some (.int .i64 v) := (hb.cell (p := ⟨w.heap.size, 5, none⟩) hlt).trans q5
      rw [Array.getD_eq_getD_getElem?] at e1
      unfold Oper.wp
      simp only [execOp, Act.eval, Array.getD_eq_getD_getElem?, e1]
      go_simp
      exact ⟨_, rfl, rfl, Below.refl _ _⟩
    · intro a w1 hb hs hr
      have e1 : a.tmps.getD 1 undef = .pointer (some ⟨w.heap.size, 0, none⟩) := hs 1 (by decide)
      rw [Array.getD_eq_getD_getElem?] at e1
      unfold Oper.wp
      simp only [execOp, Act.eval, Array.getD_eq_getD_getElem?, e1]
      go_simp
      exact ⟨_, rfl, rfl, Below.refl _ _⟩
    · intro a w1 hb hs hr
      have e13 : a.tmps.getD 13 undef = .pointer (some ⟨w.heap.size, 1, none⟩) := hr 13 (by decide) (by apply Array.mem_toList_iff.1; repeat (first | exact List.Mem.head _ | apply List.Mem.tail))
      have cc1 : w1.cell? ⟨w.heap.size, 1, none⟩ = some (.int .i64 r) := (hb.cell (p := ⟨w.heap.size, 1, none⟩) hlt).trans q1
      rw [Array.getD_eq_getD_getElem?] at e13
      unfold Oper.wp
      simp only [execOp, Act.eval, Array.getD_eq_getD_getElem?, e13]
      go_simp
      exact ⟨_, rfl, rfl, Below.refl _ _⟩
    · intro a w1 hb hs hr
      have e14 : a.tmps.getD 14 undef = .int .i64 r := hr 14 (by decide) (by apply Array.mem_toList_iff.1; repeat (first | exact List.Mem.head _ | apply List.Mem.tail))
      rw [Array.getD_eq_getD_getElem?] at e14
      unfold Oper.wp
      simp only [execOp, Act.eval, Array.getD_eq_getD_getElem?, e14]
      go_simp
      exact ⟨_, rfl, rfl, Below.refl _ _⟩
    · intro a w1 hb hs hr
      have e12 : a.tmps.getD 12 undef = .agg #[.int .u8 k, .int .i64 r, .int .i64 c, .int .i64 f, .int .i64 s, .int .i64 v] := hr 12 (by decide) (by apply Array.mem_toList_iff.1; repeat (first | exact List.Mem.head _ | apply List.Mem.tail))
      have e15 : a.tmps.getD 15 undef = .agg #[.int .u8 1, .int .i64 r, .int .i64 0, .int .i64 0, .int .i64 0, .int .i64 0] := hr 15 (by decide) (by apply Array.mem_toList_iff.1; repeat (first | exact List.Mem.head _ | apply List.Mem.tail))
      have eq := EQ.out
      rw [Array.getD_eq_getD_getElem?] at e12
      rw [Array.getD_eq_getD_getElem?] at e15
      unfold Oper.wp
      simp only [execOp, Act.eval, Array.getD_eq_getD_getElem?, e12, e15]
      go_simp
      exact ⟨_, rfl, rfl, Below.refl _ _⟩
    · intro a w1 hb hs hr
      have e11 : a.tmps.getD 11 undef = .string S := hr 11 (by decide) (by apply Array.mem_toList_iff.1; repeat (first | exact List.Mem.head _ | apply List.Mem.tail))
      rw [Array.getD_eq_getD_getElem?] at e11
      unfold Oper.wp
      simp only [execOp, Act.eval, Array.getD_eq_getD_getElem?, e11]
      go_simp
      exact ⟨_, rfl, rfl, Below.refl _ _⟩
    · intro a w1 hb hs hr
      have e16 : a.tmps.getD 16 undef = .bool z := hr 16 (by decide) (by apply Array.mem_toList_iff.1; repeat (first | exact List.Mem.head _ | apply List.Mem.tail))
      rw [Array.getD_eq_getD_getElem?] at e16
      unfold Oper.wp
      simp only [execOp, Act.eval, Array.getD_eq_getD_getElem?, e16]
      go_simp
      exact ⟨_, rfl, rfl, Below.refl _ _⟩
set_option maxRecDepth 100000 in
set_option maxHeartbeats 4000000 in
theorem word_a2 (p : Pk) (hok : p.ok) (hk : p.k = 2) (w : World) (h : Env w) :
    Calls Tryd.prog 10 #[.agg (pkC p)] w fun e w' => e = .returned (.tuple #[.string (bytes (wordT p)), .bool (ptT p).isSome]) ∧ Below w.heap.size w w' := by
  have oo := hok
  rw [is2 hk]
  have hT : wordT p = [109] ++ dots [p.r, p.c, p.f, p.s] := by unfold wordT; rw [if_neg (by omega), if_pos hk]
  rw [hT]
  have DD : Hid (∀ (g : Nat) (w' : World), g < w'.heap.size → w'.cell? ⟨g, 0, none⟩ = some (.int .i64 p.r) → w'.cell? ⟨g, 1, none⟩ = some (.int .i64 p.c) → w'.cell? ⟨g, 2, none⟩ = some (.int .i64 p.f) → w'.cell? ⟨g, 3, none⟩ = some (.int .i64 p.s) → Env w' → Calls Tryd.prog 20 #[.string ⟨#[109]⟩, .slice (some ⟨g, 0, none⟩) 4 4] w' fun e w'' => e = .returned (.string (bytes ([109] ++ dots [p.r, p.c, p.f, p.s]))) ∧ Below w'.heap.size w' w'') := hide fun g w' hg h0 h1 h2 h3 he =>
    dotted_a [109] g [p.r, p.c, p.f, p.s] w' hg (fun i hi => by
      match i, hi with
      | 0, _ => exact h0
      | 1, _ => exact h1
      | 2, _ => exact h2
      | 3, _ => exact h3) (by simp) (by simp) (by intro z hz; simp at hz; rcases hz with rfl | rfl | rfl | rfl <;> first | exact oo.1 | exact oo.2.1 | exact oo.2.2.1 | exact oo.2.2.2.1) he
  generalize hz : (p.v == 0) = z
  have EQ := hide hz
  generalize bytes ([109] ++ dots [p.r, p.c, p.f, p.s]) = S at *
  obtain ⟨k, r, c, f, s, v⟩ := p
  simp only [pkC] at *
  have bk := Blk.new w 39 #[.int .u8 k, .int .i64 r, .int .i64 c, .int .i64 f, .int .i64 s, .int .i64 v]
  have hb1 := (Below.refl w.heap.size w).alloc (Nat.le_refl _) (.cells #[.int .u8 k, .int .i64 r, .int .i64 c, .int .i64 f, .int .i64 s, .int .i64 v] 39)
  have q0 := bk.cell 0
  have q1 := bk.cell 1
  have q2 := bk.cell 2
  have q3 := bk.cell 3
  have q4 := bk.cell 4
  have q5 := bk.cell 5
  simp only [List.getElem?_toArray, List.getElem?_cons_zero, List.getElem?_cons_succ] at q0 q1 q2 q3 q4 q5
  have hlt : w.heap.size < (w.alloc (.cells #[.int .u8 k, .int .i64 r, .int .i64 c, .int .i64 f, .int .i64 s, .int .i64 v] 39)).heap.size := by simp
  have HB := hide hb1
  have HE := hide (h.below hb1 (Nat.le_refl _))
  have e1 : (k == 1) = false := nes (by omega)
  have e2 := eqs hk
  clear oo hok hb1 bk h hT hk hz
  go_enter Tryd.func10, Tryd.ntmps10
  go_wp2_with fail
  generalize w.alloc (.cells #[.int .u8 k, .int .i64 r, .int .i64 c, .int .i64 f, .int .i64 s, .int .i64 v] 39) = W0 at *
  let R : Nat → Value → World → Prop := fun t u w1 => match t with
    | 2 => u = .string S
    | 3 => u = .bool z
    | 19 => u = .pointer (some ⟨w.heap.size, 1, none⟩)
    | 20 => u = .int .i64 r
    | 21 => u = .pointer (some ⟨w.heap.size, 2, none⟩)
    | 22 => u = .int .i64 c
    | 23 => u = .pointer (some ⟨w.heap.size, 3, none⟩)
    | 24 => u = .int .i64 f
    | 25 => u = .pointer (some ⟨w.heap.size, 4, none⟩)
    | 26 => u = .int .i64 s
    | 27 => ∃ g, u = .slice (some ⟨g, 0, none⟩) 4 4 ∧ g < w1.heap.size ∧ w1.cell? ⟨g, 0, none⟩ = some (.int .i64 r) ∧ w1.cell? ⟨g, 1, none⟩ = some (.int .i64 c) ∧ w1.cell? ⟨g, 2, none⟩ = some (.int .i64 f) ∧ w1.cell? ⟨g, 3, none⟩ = some (.int .i64 s)
    | 28 => u = .string S
    | 29 => u = .pointer (some ⟨w.heap.size, 5, none⟩)
    | 30 => u = .int .i64 v
    | 31 => u = .bool z
    | _ => True
  refine wp_region_rel R (by kernel_rfl) (by kernel_rfl) (by kernel_rfl) ?mono ?step ?fin
  case mono =>
    intro t u w1 w2 h hb
    match t with
    | 27 =>
      obtain ⟨g, h1, h2, g0, g1, g2, g3⟩ := h
      exact ⟨g, h1, Nat.lt_of_lt_of_le h2 hb.size, (hb.cell (p := ⟨g, 0, none⟩) h2).trans g0, (hb.cell (p := ⟨g, 1, none⟩) h2).trans g1, (hb.cell (p := ⟨g, 2, none⟩) h2).trans g2, (hb.cell (p := ⟨g, 3, none⟩) h2).trans g3⟩
    | 0 | 1 | 2 | 3 | 4 | 5 | 6 | 7 | 8 | 9 | 10 | 11 | 12 | 13 | 14 | 15 | 16 | 17 | 18 | 19 | 20 | 21 | 22 | 23 | 24 | 25 | 26 | 28 | 29 | 30 | 31 | _ + 32 => exact h
  case fin =>
    intro ff w1 hb hr
    have e2 : ff 2 = .string S := hr 2 (by decide)
    have e3 : ff 3 = .bool z := hr 3 (by decide)
    have HB1 := hide (HB.out.trans (hb.mono HB.out.size))
    clear hr hb
    simp only [putAll, slotsOf, List.filterMap_cons, List.filterMap_nil, List.foldl_cons, List.foldl_nil, Act.put, e2, e3]
    simp only [List.setIfInBounds_toArray, List.set_cons_succ, List.set_cons_zero]
    go_wp2_with fail
    go_ret2
    exact ⟨rfl, HB1.out⟩
  case step =>
    intro o ho
    simp only [List.mem_cons, List.not_mem_nil, or_false] at ho
    rcases ho with rfl | rfl | rfl | rfl | rfl | rfl | rfl | rfl | rfl | rfl | rfl | rfl | rfl | rfl | rfl
    · intro a w1 hb hs hr
      have e1 : a.tmps.getD 1 undef = .pointer (some ⟨w.heap.size, 0, none⟩) := hs 1 (by decide)
      rw [Array.getD_eq_getD_getElem?] at e1
      unfold Oper.wp
      simp only [execOp, Act.eval, Array.getD_eq_getD_getElem?, e1]
      go_simp
      exact ⟨_, rfl, rfl, Below.refl _ _⟩
    · intro a w1 hb hs hr
      have e19 : a.tmps.getD 19 undef = .pointer (some ⟨w.heap.size, 1, none⟩) := hr 19 (by decide) (by apply Array.mem_toList_iff.1; repeat (first | exact List.Mem.head _ | apply List.Mem.tail))
      have cc1 : w1.cell? ⟨w.heap.size, 1, none⟩ = some (.int .i64 r) := (hb.cell (p := ⟨w.heap.size, 1, none⟩) hlt).trans q1
      rw [Array.getD_eq_getD_getElem?] at e19
      unfold Oper.wp
      simp only [execOp, Act.eval, Array.getD_eq_getD_getElem?, e19]
      go_simp
      exact ⟨_, rfl, rfl, Below.refl _ _⟩
    · intro a w1 hb hs hr
      have e1 : a.tmps.getD 1 undef = .pointer (some ⟨w.heap.size, 0, none⟩) := hs 1 (by decide)
      rw [Array.getD_eq_getD_getElem?] at e1
      unfold Oper.wp
      simp only [execOp, Act.eval, Array.getD_eq_getD_getElem?, e1]
      go_simp
      exact ⟨_, rfl, rfl, Below.refl _ _⟩
    · intro a w1 hb hs hr
      have e21 : a.tmps.getD 21 undef = .pointer (some ⟨w.heap.size, 2, none⟩) := hr 21 (by decide) (by apply Array.mem_toList_iff.1; repeat (first | exact List.Mem.head _ | apply List.Mem.tail))
      have cc2 : w1.cell? ⟨w.heap.size, 2, none⟩ = some (.int .i64 c) := (hb.cell (p := ⟨w.heap.size, 2, none⟩) hlt).trans q2
      rw [Array.getD_eq_getD_getElem?] at e21
      unfold Oper.wp
      simp only [execOp, Act.eval, Array.getD_eq_getD_getElem?, e21]
      go_simp
      exact ⟨_, rfl, rfl, Below.refl _ _⟩
    · intro a w1 hb hs hr
      have e1 : a.tmps.getD 1 undef = .pointer (some ⟨w.heap.size, 0, none⟩) := hs 1 (by decide)
      rw [Array.getD_eq_getD_getElem?] at e1
      unfold Oper.wp
      simp only [execOp, Act.eval, Array.getD_eq_getD_getElem?, e1]
      go_simp
      exact ⟨_, rfl, rfl, Below.refl _ _⟩
    · intro a w1 hb hs hr
      have e23 : a.tmps.getD 23 undef = .pointer (some ⟨w.heap.size, 3, none⟩) := hr 23 (by decide) (by apply Array.mem_toList_iff.1; repeat (first | exact List.Mem.head _ | apply List.Mem.tail))
      have cc3 : w1.cell? ⟨w.heap.size, 3, none⟩ = some (.int .i64 f) := (hb.cell (p := ⟨w.heap.size, 3, none⟩) hlt).trans q3
      rw [Array.getD_eq_getD_getElem?] at e23
      unfold Oper.wp
      simp only [execOp, Act.eval, Array.getD_eq_getD_getElem?, e23]
      go_simp
      exact ⟨_, rfl, rfl, Below.refl _ _⟩
    · intro a w1 hb hs hr
      have e1 : a.tmps.getD 1 undef = .pointer (some ⟨w.heap.size, 0, none⟩) := hs 1 (by decide)
      rw [Array.getD_eq_getD_getElem?] at e1
      unfold Oper.wp
      simp only [execOp, Act.eval, Array.getD_eq_getD_getElem?, e1]
      go_simp
      exact ⟨_, rfl, rfl, Below.refl _ _⟩
    · intro a w1 hb hs hr
      have e25 : a.tmps.getD 25 undef = .pointer (some ⟨w.heap.size, 4, none⟩) := hr 25 (by decide) (by apply Array.mem_toList_iff.1; repeat (first | exact List.Mem.head _ | apply List.Mem.tail))
      have cc4 : w1.cell? ⟨w.heap.size, 4, none⟩ = some (.int .i64 s) := (hb.cell (p := ⟨w.heap.size, 4, none⟩) hlt).trans q4
      rw [Array.getD_eq_getD_getElem?] at e25
      unfold Oper.wp
      simp only [execOp, Act.eval, Array.getD_eq_getD_getElem?, e25]
      go_simp
      exact ⟨_, rfl, rfl, Below.refl _ _⟩
    · intro a w1 hb hs hr
      have e20 : a.tmps.getD 20 undef = .int .i64 r := hr 20 (by decide) (by apply Array.mem_toList_iff.1; repeat (first | exact List.Mem.head _ | apply List.Mem.tail))
      have e22 : a.tmps.getD 22 undef = .int .i64 c := hr 22 (by decide) (by apply Array.mem_toList_iff.1; repeat (first | exact List.Mem.head _ | apply List.Mem.tail))
      have e24 : a.tmps.getD 24 undef = .int .i64 f := hr 24 (by decide) (by apply Array.mem_toList_iff.1; repeat (first | exact List.Mem.head _ | apply List.Mem.tail))
      have e26 : a.tmps.getD 26 undef = .int .i64 s := hr 26 (by decide) (by apply Array.mem_toList_iff.1; repeat (first | exact List.Mem.head _ | apply List.Mem.tail))
      rw [Array.getD_eq_getD_getElem?] at e20
      rw [Array.getD_eq_getD_getElem?] at e22
      rw [Array.getD_eq_getD_getElem?] at e24
      rw [Array.getD_eq_getD_getElem?] at e26
      unfold Oper.wp
      simp only [execOp, Act.eval, Array.getD_eq_getD_getElem?, e20, e22, e24, e26]
      go_simp
      exact ⟨_, rfl, ⟨w1.heap.size, rfl, by simp, by rw [(Blk.new w1 3 _).cell]; rfl, by rw [(Blk.new w1 3 _).cell]; rfl, by rw [(Blk.new w1 3 _).cell]; rfl, by rw [(Blk.new w1 3 _).cell]; rfl⟩, (Below.refl _ _).alloc (Nat.le_refl _) _⟩
    · intro a w1 hb hs hr
      have e27 : ∃ g, a.tmps.getD 27 undef = .slice (some ⟨g, 0, none⟩) 4 4 ∧ g < w1.heap.size ∧ w1.cell? ⟨g, 0, none⟩ = some (.int .i64 r) ∧ w1.cell? ⟨g, 1, none⟩ = some (.int .i64 c) ∧ w1.cell? ⟨g, 2, none⟩ = some (.int .i64 f) ∧ w1.cell? ⟨g, 3, none⟩ = some (.int .i64 s) := hr 27 (by decide) (by apply Array.mem_toList_iff.1; repeat (first | exact List.Mem.head _ | apply List.Mem.tail))
      obtain ⟨g, e27', hg, g0, g1, g2, g3⟩ := e27
      rw [Array.getD_eq_getD_getElem?] at e27'
      unfold Oper.wp
      simp only [execOp, Act.eval, Array.getD_eq_getD_getElem?, e27']
      go_simp
      refine (DD.out g w1 hg g0 g1 g2 g3 (HE.out.below hb (Nat.le_refl _))).mono ?_
      rintro e w' ⟨rfl, hb'⟩
      exact ⟨_, rfl, rfl, hb'⟩
    · intro a w1 hb hs hr
      have e1 : a.tmps.getD 1 undef = .pointer (some ⟨w.heap.size, 0, none⟩) := hs 1 (by decide)
      rw [Array.getD_eq_getD_getElem?] at e1
      unfold Oper.wp
      simp only [execOp, Act.eval, Array.getD_eq_getD_getElem?, e1]
      go_simp
      exact ⟨_, rfl, rfl, Below.refl _ _⟩
    · intro a w1 hb hs hr
      have e29 : a.tmps.getD 29 undef = .pointer (some ⟨w.heap.size, 5, none⟩) := hr 29 (by decide) (by apply Array.mem_toList_iff.1; repeat (first | exact List.Mem.head _ | apply List.Mem.tail))
      have cc5 : w1.cell? ⟨w.heap.size, 5, none⟩ = some (.int .i64 v) := (hb.cell (p := ⟨w.heap.size, 5, none⟩) hlt).trans q5
      rw [Array.getD_eq_getD_getElem?] at e29
      unfold Oper.wp
      simp only [execOp, Act.eval, Array.getD_eq_getD_getElem?, e29]
      go_simp
      exact ⟨_, rfl, rfl, Below.refl _ _⟩
    · intro a w1 hb hs hr
      have e30 : a.tmps.getD 30 undef = .int .i64 v := hr 30 (by decide) (by apply Array.mem_toList_iff.1; repeat (first | exact List.Mem.head _ | apply List.Mem.tail))
      rw [Array.getD_eq_getD_getElem?] at e30
      unfold Oper.wp
      simp only [execOp, Act.eval, Array.getD_eq_getD_getElem?, e30]
      go_simp
      exact ⟨_, rfl, congrArg Value.bool EQ.out, Below.refl _ _⟩
    · intro a w1 hb hs hr
      have e28 : a.tmps.getD 28 undef = .string S := hr 28 (by decide) (by apply Array.mem_toList_iff.1; repeat (first | exact List.Mem.head _ | apply List.Mem.tail))
      rw [Array.getD_eq_getD_getElem?] at e28
      unfold Oper.wp
      simp only [execOp, Act.eval, Array.getD_eq_getD_getElem?, e28]
      go_simp
      exact ⟨_, rfl, rfl, Below.refl _ _⟩
    · intro a w1 hb hs hr
      have e31 : a.tmps.getD 31 undef = .bool z := hr 31 (by decide) (by apply Array.mem_toList_iff.1; repeat (first | exact List.Mem.head _ | apply List.Mem.tail))
      rw [Array.getD_eq_getD_getElem?] at e31
      unfold Oper.wp
      simp only [execOp, Act.eval, Array.getD_eq_getD_getElem?, e31]
      go_simp
      exact ⟨_, rfl, rfl, Below.refl _ _⟩
set_option maxRecDepth 100000 in
set_option maxHeartbeats 4000000 in
theorem word_a3 (p : Pk) (hok : p.ok) (hk : p.k = 3) (w : World) (h : Env w) :
    Calls Tryd.prog 10 #[.agg (pkC p)] w fun e w' => e = .returned (.tuple #[.string (bytes (wordT p)), .bool (ptT p).isSome]) ∧ Below w.heap.size w w' := by
  have oo := hok
  rw [is3 hk]
  have hT : wordT p = [97] ++ dots [p.r, p.c, p.v, p.f, p.s] := by unfold wordT; rw [if_neg (by omega), if_neg (by omega), if_pos hk]
  rw [hT]
  have DD : Hid (∀ (g : Nat) (w' : World), g < w'.heap.size → w'.cell? ⟨g, 0, none⟩ = some (.int .i64 p.r) → w'.cell? ⟨g, 1, none⟩ = some (.int .i64 p.c) → w'.cell? ⟨g, 2, none⟩ = some (.int .i64 p.v) → w'.cell? ⟨g, 3, none⟩ = some (.int .i64 p.f) → w'.cell? ⟨g, 4, none⟩ = some (.int .i64 p.s) → Env w' → Calls Tryd.prog 20 #[.string ⟨#[97]⟩, .slice (some ⟨g, 0, none⟩) 5 5] w' fun e w'' => e = .returned (.string (bytes ([97] ++ dots [p.r, p.c, p.v, p.f, p.s]))) ∧ Below w'.heap.size w' w'') := hide fun g w' hg h0 h1 h2 h3 h4 he =>
    dotted_a [97] g [p.r, p.c, p.v, p.f, p.s] w' hg (fun i hi => by
      match i, hi with
      | 0, _ => exact h0
      | 1, _ => exact h1
      | 2, _ => exact h2
      | 3, _ => exact h3
      | 4, _ => exact h4) (by simp) (by simp) (by intro z hz; simp at hz; rcases hz with rfl | rfl | rfl | rfl | rfl <;> first | exact oo.1 | exact oo.2.1 | exact oo.2.2.1 | exact oo.2.2.2.1 | exact oo.2.2.2.2) he
  generalize bytes ([97] ++ dots [p.r, p.c, p.v, p.f, p.s]) = S at *
  obtain ⟨k, r, c, f, s, v⟩ := p
  simp only [pkC] at *
  have bk := Blk.new w 39 #[.int .u8 k, .int .i64 r, .int .i64 c, .int .i64 f, .int .i64 s, .int .i64 v]
  have hb1 := (Below.refl w.heap.size w).alloc (Nat.le_refl _) (.cells #[.int .u8 k, .int .i64 r, .int .i64 c, .int .i64 f, .int .i64 s, .int .i64 v] 39)
  have q0 := bk.cell 0
  have q1 := bk.cell 1
  have q2 := bk.cell 2
  have q3 := bk.cell 3
  have q4 := bk.cell 4
  have q5 := bk.cell 5
  simp only [List.getElem?_toArray, List.getElem?_cons_zero, List.getElem?_cons_succ] at q0 q1 q2 q3 q4 q5
  have HB := hide hb1
  have HE := hide (h.below hb1 (Nat.le_refl _))
  have e1 : (k == 1) = false := nes (by omega)
  have e2 : (k == 2) = false := nes (by omega)
  have e3 := eqs hk
  clear oo hok hb1 bk h hT hk
  go_enter Tryd.func10, Tryd.ntmps10
  go_wp2_with fail
  have hs0 : (w.alloc (.cells #[.int .u8 k, .int .i64 r, .int .i64 c, .int .i64 f, .int .i64 s, .int .i64 v] 39)).heap.size = w.heap.size + 1 := by simp
  generalize w.alloc (.cells #[.int .u8 k, .int .i64 r, .int .i64 c, .int .i64 f, .int .i64 s, .int .i64 v] 39) = W0 at *
  have bn := Blk.new W0 3 #[.int .i64 r, .int .i64 c, .int .i64 v, .int .i64 f, .int .i64 s]
  have hb2 := (Below.refl W0.heap.size W0).alloc (Nat.le_refl _) (.cells #[.int .i64 r, .int .i64 c, .int .i64 v, .int .i64 f, .int .i64 s] 3)
  rw [hs0] at bn
  refine (DD.out (w.heap.size + 1) _ (by simp; omega) ?_ ?_ ?_ ?_ ?_ (HE.out.below hb2 (Nat.le_refl _))).mono ?_
  · exact bn.cell 0
  · exact bn.cell 1
  · exact bn.cell 2
  · exact bn.cell 3
  · exact bn.cell 4
  rintro e w1 ⟨rfl, hb3⟩
  have HB3 := hide (HB.out.trans ((hb2.trans (hb3.mono hb2.size)).mono HB.out.size))
  clear hb2 hb3 bn
  go_wp2_with fail
  go_ret2
  exact ⟨rfl, HB3.out⟩
set_option maxRecDepth 100000 in
theorem word_a (p : Pk) (hok : p.ok) (w : World) (h : Env w) :
    Calls Tryd.prog 10 #[.agg (pkC p)] w fun e w' => e = .returned (.tuple #[.string (bytes (wordT p)), .bool (ptT p).isSome]) ∧ Below w.heap.size w w' := by
  by_cases k1 : p.k = 1
  · exact word_a1 p hok k1 w h
  by_cases k2 : p.k = 2
  · exact word_a2 p hok k2 w h
  by_cases k3 : p.k = 3
  · exact word_a3 p hok k3 w h
  rw [is0 k1 k2 k3, show wordT p = [] by unfold wordT; rw [if_neg k1, if_neg k2, if_neg k3]]
  have HB := hide ((Below.refl w.heap.size w).alloc (Nat.le_refl _) (.cells (pkC p) 39))
  have bk := Blk.new w 39 (pkC p)
  have e1 := nes k1
  have e2 := nes k2
  have e3 := nes k3
  clear hok k1 k2 k3 h
  obtain ⟨k, r, c, f, s, v⟩ := p
  simp only [pkC] at *
  have q0 := bk.cell 0
  simp only [List.getElem?_toArray, List.getElem?_cons_zero, List.getElem?_cons_succ] at q0
  clear bk
  go_enter Tryd.func10, Tryd.ntmps10
  go_wp2_with fail
  go_ret2
  exact ⟨rfl, HB.out⟩
end Wit
end Go.Proofs.YtaakndenkfkijaaDoor
