/- The reference's stack: Left, Copy. -/
import Derived.Test.YtobccgjonpcpgaaRows
import Derived.Test.YtobccgjonpcpgaaPathJ
namespace Go.Proofs.Ytobccgjonpcpgaa
open Go Go.RowKit
set_option linter.unusedVariables false
set_option linter.unusedSimpArgs false
namespace Pth
set_option maxRecDepth 100000 in
set_option maxHeartbeats 4000000 in
theorem Left_b (U B : Nat) (ls : List Lv) (w : World) (ht : StB w U B ls) (hf : ∀ x ∈ ls, x.fit) :
    Calls Try.prog 15 #[.pointer (some ⟨U, 0, none⟩)] w fun e w' => e = .returned (.int .i64 (leftS ls)) ∧ Below w.heap.size w w' := by
  have HT := hide ht
  have HF := hide hf
  have HLE := hide ht.le
  clear ht hf
  go_enter Try.func15, Try.ntmps15
  go_wp2_with fail
  go_loopw [3, 4] (fun vn vi wr => ∃ (k : Nat), k ≤ ls.length ∧ vi = .int .i64 k ∧ vn = .int .i64 (leftS (ls.take k)) ∧ Hid (Below w.heap.size w wr)) (fun _ vi _ => ls.length - (intOf vi).toNat)
  case atStart => exact ⟨0, by omega, rfl, rfl, hide (Below.refl _ _)⟩
  case round =>
    obtain ⟨k, hk, rfl, rfl, HB⟩ := hrel
    have hst := HT.out.below HB.out
    obtain ⟨A, c, A2, c2, A3, c3, hbU, _, _, _, hcc⟩ := hst.open_
    have u0 : wr.cell? ⟨U, 0, none⟩ = some (.slice A ls.length c) := hbU.cell 0
    have u2 : wr.cell? ⟨U, 2, none⟩ = some (.slice A3 ls.length c3) := hbU.cell 2
    by_cases hlt : k < ls.length
    · have hltI : (k : Int) < (ls.length : Int) := by omega
      obtain ⟨g, g2, g3, rfl, rfl, rfl, p0, p1, p2, p3, p4, _⟩ := hcc k hlt
      have hfx := HF.out _ (List.getElem_mem hlt)
      have MB := hide (fun (m : Nat) => (many_b U B ls k hlt (wr.drewN m) (hst.below (below_drewN (Below.refl wr.heap.size wr) m)) (by have := hfx.2.1; omega)).mono fun _ _ hh => And.intro hh.1 hh.2.symm)
      have TS : leftS (ls.take (k + 1)) = leftS (ls.take k) + leftN ls[k] := by
        rw [List.take_succ_eq_append_getElem hlt, leftS_app]
        simp [leftS]
      have h1 := leftN_le hfx
      have h2 : leftS (ls.take k) ≤ 202000 := by
        have h3 := leftS_le (ls.take k) fun x hx => HF.out x (List.mem_of_mem_take hx)
        have h4 := HLE.out
        rw [List.length_take] at h3
        omega
      have hz : leftN ls[k] + 1 + ls[k].at_ = many ls[k] := by
        have := hfx.2.2
        unfold leftN
        omega
      have hma : many ls[k] ≤ 101 := by
        have := hfx.2.1
        unfold many
        split <;> omega
      have HTS := hide TS
      have hle := HLE.out
      generalize ls[k] = x at *
      generalize leftS (ls.take k) = s at *
      obtain ⟨r, cc, A', cap, vs, off, at_⟩ := x
      simp only at p0 p1 p2 p3 p4 hz
      generalize leftN ⟨r, cc, A', cap, vs, off, at_⟩ = z at *
      generalize many ⟨r, cc, A', cap, vs, off, at_⟩ = y at *
      subst hz
      clear hbU hcc hst TS hfx
      go_wp2_with fail
      go_quiet ((go_at_call 24; exact Calls.quiet_of_same (MB.out _)))
      go_wp2_with fail
      go_roundw
      case rel => exact ⟨k + 1, by omega, by go_num, by rw [HTS.out]; go_num, hide (below_drewN HB.out _)⟩
      case measure => simp [intOf]; omega
    · have hk2 : k = ls.length := by omega
      have hltI : ¬ (k : Int) < (ls.length : Int) := by omega
      have E : Hid (leftS (ls.take k) = leftS ls) := hide (by rw [hk2, List.take_length])
      clear hk2 hbU hcc hst
      go_wp2_with fail
      go_ret
      exact ⟨by rw [E.out]; rfl, HB.out⟩
theorem point_info : (Try.prog.info? 34).map (fun i => (i.zero, i.size, i.bytes)) = some (some (.agg #[.int .i64 0, .int .i64 0, .slice none 0 0]), 3, 40) := by kernel_rfl
theorem bool_info : (Try.prog.info? 4).map (fun i => (i.zero, i.size, i.bytes)) = some (some (.bool false), 1, 1) := by kernel_rfl
theorem ptCs_one (ls : List Lv) : ∀ v ∈ ptCs ls, v.oneCell' = true := by
  intro v hv
  obtain ⟨h, _, hv⟩ := List.mem_flatMap.1 hv
  simp only [ptC, List.mem_cons, List.not_mem_nil, or_false] at hv
  rcases hv with rfl | rfl | rfl <;> rfl
theorem ofCs_one (ls : List Lv) : ∀ v ∈ ofCs ls, v.oneCell' = true := by
  intro v hv
  obtain ⟨h, _, rfl⟩ := List.mem_map.1 hv
  rfl
theorem atCs_one (ls : List Lv) : ∀ v ∈ atCs ls, v.oneCell' = true := by
  intro v hv
  obtain ⟨h, _, rfl⟩ := List.mem_map.1 hv
  rfl
/-- A row that is owned is read, nil or not. -/
theorem own_read {w : World} {B size n c : Nat} {A : Option Addr} {e : TypeId} {xs : List Value} (h : w.ownsRow B e size (.slice A n c) n xs) : Reads w w.heap.size size A n xs := Reads.of_own h
set_option maxRecDepth 100000 in
set_option maxHeartbeats 4000000 in
theorem Copy_b (U B : Nat) (ls : List Lv) (w : World) (ht : StB w U B ls) :
    Calls Try.prog 12 #[.pointer (some ⟨U, 0, none⟩)] w fun e w' => ∃ U', e = .returned (.pointer (some ⟨U', 0, none⟩)) ∧ w.heap.size ≤ U' ∧ StB w' U' w.heap.size ls ∧ Below w.heap.size w w' := by
  have HP := hide (info_parts point_info)
  have HJ := hide (info_parts bool_info)
  have HK := hide (info_parts int_info)
  have hle := ht.le
  have hrows := ht.rows
  obtain ⟨A, c, A2, c2, A3, c3, hbU, o1, o2, o3, _⟩ := ht.open_
  have HT := hide hbU
  have HR := hide hrows
  have HLE := hide hle
  have HO := hide o1
  have HO2 := hide o2
  have HO3 := hide o3
  clear ht hbU hrows hle o1 o2 o3
  go_enter Try.func12, Try.ntmps12
  go_wp2_with fail
  let R : Nat → Value → World → Prop := fun sl u w1 => match sl with
    | 3 => ∃ g, u = .slice (some ⟨g, 0, none⟩) 0 0 ∧ w.heap.size ≤ g ∧ Blk w1 g 34 #[]
    | 9 => ∃ g, u = .slice (some ⟨g, 0, none⟩) 0 0 ∧ w.heap.size ≤ g ∧ Blk w1 g 4 #[]
    | 15 => ∃ g, u = .slice (some ⟨g, 0, none⟩) 0 0 ∧ w.heap.size ≤ g ∧ Blk w1 g 3 #[]
    | 4 | 5 | 6 | 10 | 11 | 16 | 17 => u = .pointer (some ⟨U, 0, none⟩)
    | 12 => u = .pointer (some ⟨U, 1, none⟩)
    | 18 => u = .pointer (some ⟨U, 2, none⟩)
    | 7 => u = .slice A ls.length c
    | 13 => u = .slice A2 ls.length c2
    | 19 => u = .slice A3 ls.length c3
    | 8 => w1.ownsRow w.heap.size 34 3 u ls.length (ptCs ls)
    | 14 => w1.ownsRow w.heap.size 4 1 u ls.length (ofCs ls)
    | 20 => w1.ownsRow w.heap.size 3 1 u ls.length (atCs ls)
    | 21 => ∃ v v' v'', u = .agg #[v, v', v''] ∧ w1.ownsRow w.heap.size 34 3 v ls.length (ptCs ls) ∧ w1.ownsRow w.heap.size 4 1 v' ls.length (ofCs ls) ∧ w1.ownsRow w.heap.size 3 1 v'' ls.length (atCs ls)
    | 22 | 2 => ∃ U' v v' v'', u = .pointer (some ⟨U', 0, none⟩) ∧ w.heap.size ≤ U' ∧ Blk w1 U' 31 #[v, v', v''] ∧ w1.ownsRow w.heap.size 34 3 v ls.length (ptCs ls) ∧ w1.ownsRow w.heap.size 4 1 v' ls.length (ofCs ls) ∧ w1.ownsRow w.heap.size 3 1 v'' ls.length (atCs ls)
    | _ => True
  refine wp_region_rel R (by kernel_rfl) (by kernel_rfl) (by kernel_rfl) ?mono ?step ?fin
  case mono =>
    intro sl u w1 w2 h hb
    match sl with
    | 3 | 9 | 15 =>
      obtain ⟨g, h1, h2, h3⟩ := h
      exact ⟨g, h1, h2, h3.below hb h3.lt⟩
    | 8 | 14 | 20 => exact own_belowR h hb
    | 21 =>
      obtain ⟨v, v', v'', h1, h2, h3, h4⟩ := h
      exact ⟨v, v', v'', h1, own_belowR h2 hb, own_belowR h3 hb, own_belowR h4 hb⟩
    | 22 | 2 =>
      obtain ⟨U', v, v', v'', h1, h2, h3, h4, h5, h6⟩ := h
      exact ⟨U', v, v', v'', h1, h2, h3.below hb h3.lt, own_belowR h4 hb, own_belowR h5 hb, own_belowR h6 hb⟩
    | 0 | 1 | 4 | 5 | 6 | 7 | 10 | 11 | 12 | 13 | 16 | 17 | 18 | 19 | _ + 23 => exact h
  case fin =>
    intro ff w9 hb hr
    obtain ⟨U', v, v', v'', e2, hU, hbk, ho, ho2, ho3⟩ := hr 2 (by decide)
    have hbk : Blk w9 U' 31 #[v, v', v''] := hbk
    have FIN := hide (And.intro hU (And.intro (⟨HLE.out, ⟨_, _, _, hbk, ho, ho2, ho3⟩, fun i hi => (HR.out i hi).keep fun g hg => hb.block g ((HR.out i hi).lt hg)⟩ : StB w9 U' w.heap.size ls) hb))
    clear hr hb hbk ho ho2 ho3 hU
    simp only [putAll, slotsOf, List.take, List.drop, List.filterMap_cons, List.filterMap_nil, List.foldl_cons, List.foldl_nil, Act.put, e2]
    simp only [List.setIfInBounds_toArray, List.set_cons_succ, List.set_cons_zero]
    go_wp2_with fail
    go_ret
    exact ⟨_, rfl, FIN.out.1, FIN.out.2.1, FIN.out.2.2⟩
  case step =>
    intro o ho
    simp only [List.mem_cons, List.not_mem_nil, or_false] at ho
    rcases ho with rfl | rfl | rfl | rfl | rfl | rfl | rfl | rfl | rfl | rfl | rfl | rfl | rfl | rfl | rfl | rfl | rfl | rfl | rfl | rfl | rfl
    · intro a w1 hb hsm hr
      unfold Oper.wp
      simp only [execOp, Act.eval, Array.getD_eq_getD_getElem?]
      go_simp
      exact ⟨_, rfl, ⟨w1.heap.size, rfl, hb.size, Blk.new w1 34 #[]⟩, (Below.refl _ _).alloc (Nat.le_refl _) _⟩
    · intro a w1 hb hsm hr
      have e0 : a.tmps.getD 0 undef = .pointer (some ⟨U, 0, none⟩) := hsm 0 (by decide)
      rw [Array.getD_eq_getD_getElem?] at e0
      unfold Oper.wp
      simp only [execOp, Act.eval, Array.getD_eq_getD_getElem?, e0]
      go_simp
      exact ⟨_, rfl, rfl, Below.refl _ _⟩
    · intro a w1 hb hsm hr
      have e4 : a.tmps.getD 4 undef = .pointer (some ⟨U, 0, none⟩) := hr 4 (by decide) (by apply Array.mem_toList_iff.1; repeat (first | exact List.Mem.head _ | apply List.Mem.tail))
      rw [Array.getD_eq_getD_getElem?] at e4
      unfold Oper.wp
      simp only [execOp, Act.eval, Array.getD_eq_getD_getElem?, e4]
      go_simp
      exact ⟨_, rfl, rfl, Below.refl _ _⟩
    · intro a w1 hb hsm hr
      have e5 : a.tmps.getD 5 undef = .pointer (some ⟨U, 0, none⟩) := hr 5 (by decide) (by apply Array.mem_toList_iff.1; repeat (first | exact List.Mem.head _ | apply List.Mem.tail))
      rw [Array.getD_eq_getD_getElem?] at e5
      unfold Oper.wp
      simp only [execOp, Act.eval, Array.getD_eq_getD_getElem?, e5]
      go_simp
      exact ⟨_, rfl, rfl, Below.refl _ _⟩
    · intro a w1 hb hsm hr
      have e6 : a.tmps.getD 6 undef = .pointer (some ⟨U, 0, none⟩) := hr 6 (by decide) (by apply Array.mem_toList_iff.1; repeat (first | exact List.Mem.head _ | apply List.Mem.tail))
      have c1 : w1.cell? ⟨U, 0, none⟩ = some (.slice A ls.length c) := (HT.out.below hb HT.out.lt).cell 0
      rw [Array.getD_eq_getD_getElem?] at e6
      unfold Oper.wp
      simp only [execOp, Act.eval, Array.getD_eq_getD_getElem?, e6]
      go_simp
      exact ⟨_, rfl, rfl, Below.refl _ _⟩
    · intro a w1 hb hsm hr
      have e3 : ∃ g, a.tmps.getD 3 undef = .slice (some ⟨g, 0, none⟩) 0 0 ∧ w.heap.size ≤ g ∧ Blk w1 g 34 #[] := hr 3 (by decide) (by apply Array.mem_toList_iff.1; repeat (first | exact List.Mem.head _ | apply List.Mem.tail))
      have e7 : a.tmps.getD 7 undef = .slice A ls.length c := hr 7 (by decide) (by apply Array.mem_toList_iff.1; repeat (first | exact List.Mem.head _ | apply List.Mem.tail))
      obtain ⟨g, e3', hg, hbg⟩ := e3
      obtain ⟨i0, hi0, hz0, hz1, hz2⟩ := HP.out
      obtain ⟨v', w'', hrun, hown', hbw⟩ := run_append_empty (P := Try.prog) w1 w.heap.size 27 27 34 _ _ 3 40 Try.underlying27 hi0 hz0 hz1 hz2 (by rfl) g hbg hg hb.size w1.heap.size A ls.length c (ptCs ls) (own_read (own_belowR HO.out hb)) (ptCs_one ls) (by have := HLE.out; omega) (by omega)
      exact Lib.wp_append_run w1 (.tmp 3) (.tmp 7) 27 27 rfl _ _ e3' e7 v' w'' hrun ⟨v', rfl, fun t ht => by cases ht; exact hown', hbw⟩
    · intro a w1 hb hsm hr
      unfold Oper.wp
      simp only [execOp, Act.eval, Array.getD_eq_getD_getElem?]
      go_simp
      exact ⟨_, rfl, ⟨w1.heap.size, rfl, hb.size, Blk.new w1 4 #[]⟩, (Below.refl _ _).alloc (Nat.le_refl _) _⟩
    · intro a w1 hb hsm hr
      have e0 : a.tmps.getD 0 undef = .pointer (some ⟨U, 0, none⟩) := hsm 0 (by decide)
      rw [Array.getD_eq_getD_getElem?] at e0
      unfold Oper.wp
      simp only [execOp, Act.eval, Array.getD_eq_getD_getElem?, e0]
      go_simp
      exact ⟨_, rfl, rfl, Below.refl _ _⟩
    · intro a w1 hb hsm hr
      have e10 : a.tmps.getD 10 undef = .pointer (some ⟨U, 0, none⟩) := hr 10 (by decide) (by apply Array.mem_toList_iff.1; repeat (first | exact List.Mem.head _ | apply List.Mem.tail))
      rw [Array.getD_eq_getD_getElem?] at e10
      unfold Oper.wp
      simp only [execOp, Act.eval, Array.getD_eq_getD_getElem?, e10]
      go_simp
      exact ⟨_, rfl, rfl, Below.refl _ _⟩
    · intro a w1 hb hsm hr
      have e11 : a.tmps.getD 11 undef = .pointer (some ⟨U, 0, none⟩) := hr 11 (by decide) (by apply Array.mem_toList_iff.1; repeat (first | exact List.Mem.head _ | apply List.Mem.tail))
      rw [Array.getD_eq_getD_getElem?] at e11
      unfold Oper.wp
      simp only [execOp, Act.eval, Array.getD_eq_getD_getElem?, e11]
      go_simp
      exact ⟨_, rfl, rfl, Below.refl _ _⟩
    · intro a w1 hb hsm hr
      have e12 : a.tmps.getD 12 undef = .pointer (some ⟨U, 1, none⟩) := hr 12 (by decide) (by apply Array.mem_toList_iff.1; repeat (first | exact List.Mem.head _ | apply List.Mem.tail))
      have c1 : w1.cell? ⟨U, 1, none⟩ = some (.slice A2 ls.length c2) := (HT.out.below hb HT.out.lt).cell 1
      rw [Array.getD_eq_getD_getElem?] at e12
      unfold Oper.wp
      simp only [execOp, Act.eval, Array.getD_eq_getD_getElem?, e12]
      go_simp
      exact ⟨_, rfl, rfl, Below.refl _ _⟩
    · intro a w1 hb hsm hr
      have e9 : ∃ g, a.tmps.getD 9 undef = .slice (some ⟨g, 0, none⟩) 0 0 ∧ w.heap.size ≤ g ∧ Blk w1 g 4 #[] := hr 9 (by decide) (by apply Array.mem_toList_iff.1; repeat (first | exact List.Mem.head _ | apply List.Mem.tail))
      have e13 : a.tmps.getD 13 undef = .slice A2 ls.length c2 := hr 13 (by decide) (by apply Array.mem_toList_iff.1; repeat (first | exact List.Mem.head _ | apply List.Mem.tail))
      obtain ⟨g, e9', hg, hbg⟩ := e9
      obtain ⟨i0, hi0, hz0, hz1, hz2⟩ := HJ.out
      obtain ⟨v', w'', hrun, hown', hbw⟩ := run_append_empty (P := Try.prog) w1 w.heap.size 28 28 4 _ _ 1 1 Try.underlying28 hi0 hz0 hz1 hz2 (by rfl) g hbg hg hb.size w1.heap.size A2 ls.length c2 (ofCs ls) (own_read (own_belowR HO2.out hb)) (ofCs_one ls) (by have := HLE.out; omega) (by omega)
      exact Lib.wp_append_run w1 (.tmp 9) (.tmp 13) 28 28 rfl _ _ e9' e13 v' w'' hrun ⟨v', rfl, fun t ht => by cases ht; exact hown', hbw⟩
    · intro a w1 hb hsm hr
      unfold Oper.wp
      simp only [execOp, Act.eval, Array.getD_eq_getD_getElem?]
      go_simp
      exact ⟨_, rfl, ⟨w1.heap.size, rfl, hb.size, Blk.new w1 3 #[]⟩, (Below.refl _ _).alloc (Nat.le_refl _) _⟩
    · intro a w1 hb hsm hr
      have e0 : a.tmps.getD 0 undef = .pointer (some ⟨U, 0, none⟩) := hsm 0 (by decide)
      rw [Array.getD_eq_getD_getElem?] at e0
      unfold Oper.wp
      simp only [execOp, Act.eval, Array.getD_eq_getD_getElem?, e0]
      go_simp
      exact ⟨_, rfl, rfl, Below.refl _ _⟩
    · intro a w1 hb hsm hr
      have e16 : a.tmps.getD 16 undef = .pointer (some ⟨U, 0, none⟩) := hr 16 (by decide) (by apply Array.mem_toList_iff.1; repeat (first | exact List.Mem.head _ | apply List.Mem.tail))
      rw [Array.getD_eq_getD_getElem?] at e16
      unfold Oper.wp
      simp only [execOp, Act.eval, Array.getD_eq_getD_getElem?, e16]
      go_simp
      exact ⟨_, rfl, rfl, Below.refl _ _⟩
    · intro a w1 hb hsm hr
      have e17 : a.tmps.getD 17 undef = .pointer (some ⟨U, 0, none⟩) := hr 17 (by decide) (by apply Array.mem_toList_iff.1; repeat (first | exact List.Mem.head _ | apply List.Mem.tail))
      rw [Array.getD_eq_getD_getElem?] at e17
      unfold Oper.wp
      simp only [execOp, Act.eval, Array.getD_eq_getD_getElem?, e17]
      go_simp
      exact ⟨_, rfl, rfl, Below.refl _ _⟩
    · intro a w1 hb hsm hr
      have e18 : a.tmps.getD 18 undef = .pointer (some ⟨U, 2, none⟩) := hr 18 (by decide) (by apply Array.mem_toList_iff.1; repeat (first | exact List.Mem.head _ | apply List.Mem.tail))
      have c1 : w1.cell? ⟨U, 2, none⟩ = some (.slice A3 ls.length c3) := (HT.out.below hb HT.out.lt).cell 2
      rw [Array.getD_eq_getD_getElem?] at e18
      unfold Oper.wp
      simp only [execOp, Act.eval, Array.getD_eq_getD_getElem?, e18]
      go_simp
      exact ⟨_, rfl, rfl, Below.refl _ _⟩
    · intro a w1 hb hsm hr
      have e15 : ∃ g, a.tmps.getD 15 undef = .slice (some ⟨g, 0, none⟩) 0 0 ∧ w.heap.size ≤ g ∧ Blk w1 g 3 #[] := hr 15 (by decide) (by apply Array.mem_toList_iff.1; repeat (first | exact List.Mem.head _ | apply List.Mem.tail))
      have e19 : a.tmps.getD 19 undef = .slice A3 ls.length c3 := hr 19 (by decide) (by apply Array.mem_toList_iff.1; repeat (first | exact List.Mem.head _ | apply List.Mem.tail))
      obtain ⟨g, e15', hg, hbg⟩ := e15
      obtain ⟨i0, hi0, hz0, hz1, hz2⟩ := HK.out
      obtain ⟨v', w'', hrun, hown', hbw⟩ := run_append_empty (P := Try.prog) w1 w.heap.size 29 29 3 _ _ 1 8 Try.underlying29 hi0 hz0 hz1 hz2 (by rfl) g hbg hg hb.size w1.heap.size A3 ls.length c3 (atCs ls) (own_read (own_belowR HO3.out hb)) (atCs_one ls) (by have := HLE.out; omega) (by omega)
      exact Lib.wp_append_run w1 (.tmp 15) (.tmp 19) 29 29 rfl _ _ e15' e19 v' w'' hrun ⟨v', rfl, fun t ht => by cases ht; exact hown', hbw⟩
    · intro a w1 hb hsm hr
      have e8 : w1.ownsRow w.heap.size 34 3 (a.tmps.getD 8 undef) ls.length (ptCs ls) := hr 8 (by decide) (by apply Array.mem_toList_iff.1; repeat (first | exact List.Mem.head _ | apply List.Mem.tail))
      have e14 : w1.ownsRow w.heap.size 4 1 (a.tmps.getD 14 undef) ls.length (ofCs ls) := hr 14 (by decide) (by apply Array.mem_toList_iff.1; repeat (first | exact List.Mem.head _ | apply List.Mem.tail))
      have e20 : w1.ownsRow w.heap.size 3 1 (a.tmps.getD 20 undef) ls.length (atCs ls) := hr 20 (by decide) (by apply Array.mem_toList_iff.1; repeat (first | exact List.Mem.head _ | apply List.Mem.tail))
      obtain ⟨a8, c8, e8'⟩ := own_form e8
      obtain ⟨a14, c14, e14'⟩ := own_form e14
      obtain ⟨a20, c20, e20'⟩ := own_form e20
      rw [e8'] at e8
      rw [e14'] at e14
      rw [e20'] at e20
      rw [Array.getD_eq_getD_getElem?] at e8' e14' e20'
      unfold Oper.wp
      simp only [execOp, Act.eval, Array.getD_eq_getD_getElem?, e8', e14', e20']
      go_simp
      exact ⟨_, rfl, ⟨_, _, _, rfl, e8, e14, e20⟩, Below.refl _ _⟩
    · intro a w1 hb hsm hr
      have e21 : ∃ v v' v'', a.tmps.getD 21 undef = .agg #[v, v', v''] ∧ w1.ownsRow w.heap.size 34 3 v ls.length (ptCs ls) ∧ w1.ownsRow w.heap.size 4 1 v' ls.length (ofCs ls) ∧ w1.ownsRow w.heap.size 3 1 v'' ls.length (atCs ls) := hr 21 (by decide) (by apply Array.mem_toList_iff.1; repeat (first | exact List.Mem.head _ | apply List.Mem.tail))
      obtain ⟨v, v', v'', e21', h1, h2, h3⟩ := e21
      obtain ⟨a8, c8, rfl⟩ := own_form h1
      obtain ⟨a14, c14, rfl⟩ := own_form h2
      obtain ⟨a20, c20, rfl⟩ := own_form h3
      rw [Array.getD_eq_getD_getElem?] at e21'
      unfold Oper.wp
      simp only [execOp, Act.eval, Array.getD_eq_getD_getElem?, e21']
      go_simp
      have hbn := (Below.refl w1.heap.size w1).alloc (Nat.le_refl _) (.cells #[.slice a8 ls.length c8, .slice a14 ls.length c14, .slice a20 ls.length c20] 31)
      exact ⟨_, rfl, ⟨w1.heap.size, _, _, _, rfl, hb.size, Blk.new w1 31 _, own_belowR h1 hbn, own_belowR h2 hbn, own_belowR h3 hbn⟩, hbn⟩
    · intro a w1 hb hsm hr
      have e22 : ∃ U' v v' v'', a.tmps.getD 22 undef = .pointer (some ⟨U', 0, none⟩) ∧ w.heap.size ≤ U' ∧ Blk w1 U' 31 #[v, v', v''] ∧ w1.ownsRow w.heap.size 34 3 v ls.length (ptCs ls) ∧ w1.ownsRow w.heap.size 4 1 v' ls.length (ofCs ls) ∧ w1.ownsRow w.heap.size 3 1 v'' ls.length (atCs ls) := hr 22 (by decide) (by apply Array.mem_toList_iff.1; repeat (first | exact List.Mem.head _ | apply List.Mem.tail))
      obtain ⟨U', v, v', v'', e22', h1, h2, h3, h4, h5⟩ := e22
      rw [Array.getD_eq_getD_getElem?] at e22'
      unfold Oper.wp
      simp only [execOp, Act.eval, Array.getD_eq_getD_getElem?, e22']
      go_simp
      exact ⟨_, rfl, ⟨U', v, v', v'', rfl, h1, h2, h3, h4, h5⟩, Below.refl _ _⟩
end Pth
end Go.Proofs.Ytobccgjonpcpgaa
