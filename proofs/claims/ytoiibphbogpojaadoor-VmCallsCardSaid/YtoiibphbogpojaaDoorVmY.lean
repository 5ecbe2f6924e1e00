/- The call of a kind with requests, by the document. -/
import Derived.Test.YtoiibphbogpojaaDoorRows
import Derived.Test.YtoiibphbogpojaaDoorVmW
import Derived.Test.YtoiibphbogpojaaDoorRelT
namespace Go.Proofs.YtoiibphbogpojaaDoor
open Go Go.RowKit Go.Lib Go.Proofs.YtoiibphbogpojaaDoor.Cod
set_option linter.unusedVariables false
set_option linter.unusedSimpArgs false
namespace Vm
section
set_option maxRecDepth 100000 in
set_option maxHeartbeats 8000000 in
theorem callD_reqs8 (op : Int) (l : List Int) (ad : Addr) (cc : Nat) (w : World) (h0 : 0 < l.length) (hn : l.length ≤ 1000) (hr : IRow w ad l) :
    Calls Tryd.prog 10 #[.int .u8 8, .int .u8 op, .slice (some ad) l.length cc] w fun e w' => ∃ ra rc, e = .returned (.agg (clA 8 0 0 0 0 0 0 op ra l.length rc 0 0)) ∧ RqAt w' w.heap.size ra rc l ∧ Below w.heap.size w w' := by
  obtain ⟨n, hln⟩ : ∃ n, l.length = n := ⟨_, rfl⟩
  have b2 := ((Below.refl w.heap.size w).alloc (Nat.le_refl _) (.cells (clA 0 0 0 0 0 0 0 0 none 0 0 0 0) 33)).alloc (by simp) (.cells (clA 8 0 0 0 0 0 0 op none 0 0 0 0) 33)
  have q1 := (Blk.new w 33 (clA 0 0 0 0 0 0 0 0 none 0 0 0 0)).below ((Below.refl _ _).alloc (Nat.le_refl _) (.cells (clA 8 0 0 0 0 0 0 op none 0 0 0 0) 33)) (Blk.new w _ _).lt
  have q2 := Blk.new (w.alloc (.cells (clA 0 0 0 0 0 0 0 0 none 0 0 0 0) 33)) 33 (clA 8 0 0 0 0 0 0 op none 0 0 0 0)
  rw [show (w.alloc (.cells (clA 0 0 0 0 0 0 0 0 none 0 0 0 0) 33)).heap.size = w.heap.size + 1 by simp] at q2
  have ST0 : Hid (CqSt w ((w.alloc (.cells (clA 0 0 0 0 0 0 0 0 none 0 0 0 0) 33)).alloc (.cells (clA 8 0 0 0 0 0 0 op none 0 0 0 0) 33)) 8 op none 0 (l.take 0)) := hide ⟨q1, q2, ⟨rfl, .inl ⟨rfl, rfl⟩⟩, b2, by simp⟩
  have HR := hide hr
  have HLN := hide hln
  have HN := hide hn
  have H0 := hide h0
  rw [hln]
  clear hr b2 q1 q2 hln hn h0
  unfold clA at ST0
  go_enter Tryd.func10, Tryd.ntmps10
  go_wp2_with fail
  go_loopw [8] (fun vi wr => ∃ (i : Nat) (A : Option Addr) (c : Nat), i ≤ n ∧ vi = .int .i64 i ∧ Hid (CqSt w wr 8 op A c (l.take i))) (fun vi _ => n - (RowKit.intOf vi).toNat)
  case atStart => exact ⟨0, none, 0, Nat.zero_le _, rfl, ST0⟩
  case round =>
    obtain ⟨i, A, c, hi, rfl, HS⟩ := hrel
    have hti : (l.take i).length = i := by rw [List.length_take, HLN.out]; omega
    by_cases hlt : i < n
    rotate_left
    · have hltI : ¬ (i : Int) < (n : Int) := by omega
      obtain rfl : i = n := by omega
      have htl : l.take i = l := List.take_of_length_le (Nat.le_of_eq HLN.out)
      have HS1 := HS.out
      rw [htl] at HS1
      have HB1 := HS1.box
      have HR1 : Blk wr w.heap.size 33 #[.int .u8 0, .int .i64 0, .int .i64 0, .int .i64 0, .int .i64 0, .int .i64 0, .int .i64 0, .int .u8 0, .slice none 0 0, .int .i64 0, .int .i64 0] := HS1.res
      rw [HLN.out] at HB1
      have x0 : wr.cell? ⟨w.heap.size + 1, 0, none⟩ = some (.int .u8 8) := HB1.cell 0
      have x1 : wr.cell? ⟨w.heap.size + 1, 1, none⟩ = some (.int .i64 0) := HB1.cell 1
      have x2 : wr.cell? ⟨w.heap.size + 1, 2, none⟩ = some (.int .i64 0) := HB1.cell 2
      have x3 : wr.cell? ⟨w.heap.size + 1, 3, none⟩ = some (.int .i64 0) := HB1.cell 3
      have x4 : wr.cell? ⟨w.heap.size + 1, 4, none⟩ = some (.int .i64 0) := HB1.cell 4
      have x5 : wr.cell? ⟨w.heap.size + 1, 5, none⟩ = some (.int .i64 0) := HB1.cell 5
      have x6 : wr.cell? ⟨w.heap.size + 1, 6, none⟩ = some (.int .i64 0) := HB1.cell 6
      have x7 : wr.cell? ⟨w.heap.size + 1, 7, none⟩ = some (.int .u8 op) := HB1.cell 7
      have x8 : wr.cell? ⟨w.heap.size + 1, 8, none⟩ = some (.slice A i c) := HB1.cell 8
      have x9 : wr.cell? ⟨w.heap.size + 1, 9, none⟩ = some (.int .i64 0) := HB1.cell 9
      have x10 : wr.cell? ⟨w.heap.size + 1, 10, none⟩ = some (.int .i64 0) := HB1.cell 10
      have f0 := HR1.frozen 0
      have fc0 := HR1.cell 0
      have fK0 := HR1.set_ 0 (.int .u8 8)
      have f1 := fK0.frozen 1
      have fc1 := fK0.cell 1
      have fK1 := fK0.set_ 1 (.int .i64 0)
      have f2 := fK1.frozen 2
      have fc2 := fK1.cell 2
      have fK2 := fK1.set_ 2 (.int .i64 0)
      have f3 := fK2.frozen 3
      have fc3 := fK2.cell 3
      have fK3 := fK2.set_ 3 (.int .i64 0)
      have f4 := fK3.frozen 4
      have fc4 := fK3.cell 4
      have fK4 := fK3.set_ 4 (.int .i64 0)
      have f5 := fK4.frozen 5
      have fc5 := fK4.cell 5
      have fK5 := fK4.set_ 5 (.int .i64 0)
      have f6 := fK5.frozen 6
      have fc6 := fK5.cell 6
      have fK6 := fK5.set_ 6 (.int .i64 0)
      have f7 := fK6.frozen 7
      have fc7 := fK6.cell 7
      have fK7 := fK6.set_ 7 (.int .u8 op)
      have f8 := fK7.frozen 8
      have fc8 := fK7.cell 8
      have fK8 := fK7.set_ 8 (.slice A i c)
      have f9 := fK8.frozen 9
      have fc9 := fK8.cell 9
      have fK9 := fK8.set_ 9 (.int .i64 0)
      have f10 := fK9.frozen 10
      have fc10 := fK9.cell 10
      have fK10 := fK9.set_ 10 (.int .i64 0)
      have fu0 := fK10.cell 0
      have fu1 := fK10.cell 1
      have fu2 := fK10.cell 2
      have fu3 := fK10.cell 3
      have fu4 := fK10.cell 4
      have fu5 := fK10.cell 5
      have fu6 := fK10.cell 6
      have fu7 := fK10.cell 7
      have fu8 := fK10.cell 8
      have fu9 := fK10.cell 9
      have fu10 := fK10.cell 10
      have FIN := hide (show ∃ ra rc, (Ending.returned (.agg #[.int .u8 8, .int .i64 0, .int .i64 0, .int .i64 0, .int .i64 0, .int .i64 0, .int .i64 0, .int .u8 op, .slice A i c, .int .i64 0, .int .i64 0])) = .returned (.agg (clA 8 0 0 0 0 0 0 op ra i rc 0 0)) ∧ RqAt (((((((((((wr.setCell ⟨w.heap.size, 0, none⟩ (.int .u8 8)).setCell ⟨w.heap.size, 1, none⟩ (.int .i64 0)).setCell ⟨w.heap.size, 2, none⟩ (.int .i64 0)).setCell ⟨w.heap.size, 3, none⟩ (.int .i64 0)).setCell ⟨w.heap.size, 4, none⟩ (.int .i64 0)).setCell ⟨w.heap.size, 5, none⟩ (.int .i64 0)).setCell ⟨w.heap.size, 6, none⟩ (.int .i64 0)).setCell ⟨w.heap.size, 7, none⟩ (.int .u8 op)).setCell ⟨w.heap.size, 8, none⟩ (.slice A i c)).setCell ⟨w.heap.size, 9, none⟩ (.int .i64 0)).setCell ⟨w.heap.size, 10, none⟩ (.int .i64 0)) w.heap.size ra rc l ∧ Below w.heap.size w (((((((((((wr.setCell ⟨w.heap.size, 0, none⟩ (.int .u8 8)).setCell ⟨w.heap.size, 1, none⟩ (.int .i64 0)).setCell ⟨w.heap.size, 2, none⟩ (.int .i64 0)).setCell ⟨w.heap.size, 3, none⟩ (.int .i64 0)).setCell ⟨w.heap.size, 4, none⟩ (.int .i64 0)).setCell ⟨w.heap.size, 5, none⟩ (.int .i64 0)).setCell ⟨w.heap.size, 6, none⟩ (.int .i64 0)).setCell ⟨w.heap.size, 7, none⟩ (.int .u8 op)).setCell ⟨w.heap.size, 8, none⟩ (.slice A i c)).setCell ⟨w.heap.size, 9, none⟩ (.int .i64 0)).setCell ⟨w.heap.size, 10, none⟩ (.int .i64 0)) from ⟨A, c, rfl, by
        rcases HS1.rqAt H0.out with h | ⟨g, cur, h0, h1, h2, h3, h4⟩
        · exact .inl h
        · obtain ⟨g', hA, hge, _, _⟩ := own_cell HS1.own H0.out
          have hne : g ≠ w.heap.size := by
            rw [h1] at hA
            injection hA with hA
            injection hA with hA
            omega
          exact .inr ⟨g, cur, h0, h1, h2, (((((((((((h3.far (p := ⟨w.heap.size, 0, none⟩) hne _).far (p := ⟨w.heap.size, 1, none⟩) hne _).far (p := ⟨w.heap.size, 2, none⟩) hne _).far (p := ⟨w.heap.size, 3, none⟩) hne _).far (p := ⟨w.heap.size, 4, none⟩) hne _).far (p := ⟨w.heap.size, 5, none⟩) hne _).far (p := ⟨w.heap.size, 6, none⟩) hne _).far (p := ⟨w.heap.size, 7, none⟩) hne _).far (p := ⟨w.heap.size, 8, none⟩) hne _).far (p := ⟨w.heap.size, 9, none⟩) hne _).far (p := ⟨w.heap.size, 10, none⟩) hne _), h4⟩, (((((((((((HS1.bl.setCell (p := ⟨w.heap.size, 0, none⟩) (Nat.le_refl _) _).setCell (p := ⟨w.heap.size, 1, none⟩) (Nat.le_refl _) _).setCell (p := ⟨w.heap.size, 2, none⟩) (Nat.le_refl _) _).setCell (p := ⟨w.heap.size, 3, none⟩) (Nat.le_refl _) _).setCell (p := ⟨w.heap.size, 4, none⟩) (Nat.le_refl _) _).setCell (p := ⟨w.heap.size, 5, none⟩) (Nat.le_refl _) _).setCell (p := ⟨w.heap.size, 6, none⟩) (Nat.le_refl _) _).setCell (p := ⟨w.heap.size, 7, none⟩) (Nat.le_refl _) _).setCell (p := ⟨w.heap.size, 8, none⟩) (Nat.le_refl _) _).setCell (p := ⟨w.heap.size, 9, none⟩) (Nat.le_refl _) _).setCell (p := ⟨w.heap.size, 10, none⟩) (Nat.le_refl _) _)⟩)
      clear htl HS1 HB1 HR1 fK0 fK1 fK2 fK3 fK4 fK5 fK6 fK7 fK8 fK9 fK10 HS HR HN H0 ST0 hti
      go_wp2_with fail
      exact bodyPost_ret (v := .agg #[.int .u8 8, .int .i64 0, .int .i64 0, .int .i64 0, .int .i64 0, .int .i64 0, .int .i64 0, .int .u8 op, .slice A i c, .int .i64 0, .int .i64 0]) (by simp [results, Tryd.results10, go_sem, fu0, fu1, fu2, fu3, fu4, fu5, fu6, fu7, fu8, fu9, fu10]) rfl FIN.out
    · have hltI : (i : Int) < (n : Int) := by omega
      have hs1 : IntKind.i64.wrap ((i : Int) + 1) = (i : Int) + 1 := by rw [IntKind.wrap_i64]; have := HN.out; have := HLN.out; omega
      have HS1 := HS.out
      obtain ⟨z, hz⟩ : ∃ z, l.getD i 0 = z := ⟨_, rfl⟩
      have cz : wr.cell? (ad.add i) = some (.int .i64 z) := by
        rw [← hz]
        exact (HR.out.below HS1.bl).2 i (by rw [HLN.out]; exact hlt)
      have HS2 := hide HS1
      have HHN := hide (show i ≤ 100000 by have := HN.out; have := HLN.out; omega)
      have HTI := hide hti
      have HTK : Hid (l.take i ++ [z] = l.take (i + 1)) := hide (by rw [take_sn l i (by rw [HLN.out]; exact hlt), hz])
      have HROW := hide (HR.out.below HS1.bl)
      have HZ := hide hz
      clear HS HS1 hti hz cz
      go_wp2_with fail
      let R : Nat → Value → World → Prop := fun sl u w1 => match sl with
        | 25 => u = .pointer (some ⟨w.heap.size + 1, 8, none⟩)
        | 26 => u = .slice A i c
        | 27 => u = .slice (some ad) n cc
        | 28 => u = .int .i64 i
        | 29 => u = .pointer (some (ad.add i))
        | 30 => u = .int .i64 z
        | 31 => ∃ g, u = .slice (some ⟨g, 0, none⟩) 1 1 ∧ Blk w1 g 3 #[.int .i64 z]
        | _ => True
      refine wp_region_relT 7 R (by kernel_rfl) (by kernel_rfl) (by kernel_rfl) (by kernel_rfl) ?mono ?step ?fin
      case mono =>
        intro sl u w1 w2 h hb
        match sl with
        | 31 =>
          obtain ⟨g, h1, h2⟩ := h
          exact ⟨g, h1, h2.below hb h2.lt⟩
        | 0 | 1 | 2 | 3 | 4 | 5 | 6 | 7 | 8 | 9 | 10 | 11 | 12 | 13 | 14 | 15 | 16 | 17 | 18 | 19 | 20 | 21 | 22 | 23 | 24 | 25 | 26 | 27 | 28 | 29 | 30 | _ + 32 => exact h
      case step =>
        intro o ho
        simp only [List.take, List.mem_cons, List.not_mem_nil, or_false] at ho
        rcases ho with rfl | rfl | rfl | rfl | rfl | rfl | rfl
        · intro a w1 hb hs hr
          have e7 : a.tmps.getD 7 undef = .pointer (some ⟨w.heap.size + 1, 0, none⟩) := hs 7 (by decide)
          rw [Array.getD_eq_getD_getElem?] at e7
          unfold Oper.wp
          simp only [execOp, Act.eval, Array.getD_eq_getD_getElem?, e7]
          go_simp
          exact ⟨_, rfl, rfl, Below.refl _ _⟩
        · intro a w1 hb hs hr
          have e25 : a.tmps.getD 25 undef = .pointer (some ⟨w.heap.size + 1, 8, none⟩) := hr 25 (by decide) (by apply Array.mem_toList_iff.1; repeat (first | exact List.Mem.head _ | apply List.Mem.tail))
          have cc0 : w1.cell? ⟨w.heap.size + 1, 8, none⟩ = some (.slice A i c) := by rw [← HTI.out]; exact (HS2.out.below hb).box.cell 8
          rw [Array.getD_eq_getD_getElem?] at e25
          unfold Oper.wp
          simp only [execOp, Act.eval, Array.getD_eq_getD_getElem?, e25]
          go_simp
          exact ⟨_, rfl, rfl, Below.refl _ _⟩
        · intro a w1 hb hs hr
          have e2 : a.tmps.getD 2 undef = .slice (some ad) n cc := hs 2 (by decide)
          rw [Array.getD_eq_getD_getElem?] at e2
          unfold Oper.wp
          simp only [execOp, Act.eval, Array.getD_eq_getD_getElem?, e2]
          go_simp
          exact ⟨_, rfl, rfl, Below.refl _ _⟩
        · intro a w1 hb hs hr
          have e8 : a.tmps.getD 8 undef = .int .i64 i := hs 8 (by decide)
          rw [Array.getD_eq_getD_getElem?] at e8
          unfold Oper.wp
          simp only [execOp, Act.eval, Array.getD_eq_getD_getElem?, e8]
          go_simp
          exact ⟨_, rfl, rfl, Below.refl _ _⟩
        · intro a w1 hb hs hr
          have e27 : a.tmps.getD 27 undef = .slice (some ad) n cc := hr 27 (by decide) (by apply Array.mem_toList_iff.1; repeat (first | exact List.Mem.head _ | apply List.Mem.tail))
          have e28 : a.tmps.getD 28 undef = .int .i64 i := hr 28 (by decide) (by apply Array.mem_toList_iff.1; repeat (first | exact List.Mem.head _ | apply List.Mem.tail))
          rw [Array.getD_eq_getD_getElem?] at e27
          rw [Array.getD_eq_getD_getElem?] at e28
          unfold Oper.wp
          simp only [execOp, Act.eval, Array.getD_eq_getD_getElem?, e27, e28]
          go_simp
          exact ⟨_, rfl, rfl, Below.refl _ _⟩
        · intro a w1 hb hs hr
          have e29 : a.tmps.getD 29 undef = .pointer (some (ad.add i)) := hr 29 (by decide) (by apply Array.mem_toList_iff.1; repeat (first | exact List.Mem.head _ | apply List.Mem.tail))
          have cz : w1.cell? (ad.add i) = some (.int .i64 z) := by rw [← HZ.out]; exact (HROW.out.below hb).2 i (by rw [HLN.out]; exact hlt)
          rw [Array.getD_eq_getD_getElem?] at e29
          unfold Oper.wp
          simp only [execOp, Act.eval, Array.getD_eq_getD_getElem?, e29]
          go_simp
          exact ⟨_, rfl, rfl, Below.refl _ _⟩
        · intro a w1 hb hs hr
          have e30 : a.tmps.getD 30 undef = .int .i64 z := hr 30 (by decide) (by apply Array.mem_toList_iff.1; repeat (first | exact List.Mem.head _ | apply List.Mem.tail))
          rw [Array.getD_eq_getD_getElem?] at e30
          unfold Oper.wp
          simp only [execOp, Act.eval, Array.getD_eq_getD_getElem?, e30]
          go_simp
          exact ⟨_, rfl, ⟨w1.heap.size, rfl, Blk.new w1 3 #[.int .i64 z]⟩, (Below.refl _ _).alloc (Nat.le_refl _) _⟩
      case fin =>
        intro ff w9 hb hr
        obtain ⟨g, e31, hgb⟩ := hr 31 (by decide)
        have e26 : ff 26 = .slice A i c := hr 26 (by decide)
        obtain ⟨A1, c1, w11, hrun, hc8, hf8, hst⟩ := (HS2.out.below hb).push z g hgb (by rw [HTI.out]; exact HHN.out)
        rw [HTI.out] at hrun hc8 hst
        rw [HTK.out] at hst
        have RUN := hide hrun
        clear hr hb hgb hrun
        simp only [putAll, slotsOf, List.take, List.drop, List.filterMap_cons, List.filterMap_nil, List.foldl_cons, List.foldl_nil, Act.put, e26, e31]
        simp only [List.setIfInBounds_toArray, List.set_cons_succ, List.set_cons_zero]
        go_wp2_with (at_builtin; refine Lib.wpList_append_run _ rfl (.tmp 26) (.tmp 31) 25 25 rfl _ _ rfl rfl _ _ RUN.out ?_)
        go_roundw
        case rel => exact ⟨i + 1, A1, c1, by omega, by go_num, hst⟩
        case measure => simp [RowKit.intOf] <;> omega
set_option maxRecDepth 100000 in
set_option maxHeartbeats 8000000 in
theorem callD_reqs9 (op : Int) (l : List Int) (ad : Addr) (cc : Nat) (w : World) (h0 : 0 < l.length) (hn : l.length ≤ 1000) (hr : IRow w ad l) :
    Calls Tryd.prog 10 #[.int .u8 9, .int .u8 op, .slice (some ad) l.length cc] w fun e w' => ∃ ra rc, e = .returned (.agg (clA 9 0 0 0 0 0 0 op ra l.length rc 0 0)) ∧ RqAt w' w.heap.size ra rc l ∧ Below w.heap.size w w' := by
  obtain ⟨n, hln⟩ : ∃ n, l.length = n := ⟨_, rfl⟩
  have b2 := ((Below.refl w.heap.size w).alloc (Nat.le_refl _) (.cells (clA 0 0 0 0 0 0 0 0 none 0 0 0 0) 33)).alloc (by simp) (.cells (clA 9 0 0 0 0 0 0 op none 0 0 0 0) 33)
  have q1 := (Blk.new w 33 (clA 0 0 0 0 0 0 0 0 none 0 0 0 0)).below ((Below.refl _ _).alloc (Nat.le_refl _) (.cells (clA 9 0 0 0 0 0 0 op none 0 0 0 0) 33)) (Blk.new w _ _).lt
  have q2 := Blk.new (w.alloc (.cells (clA 0 0 0 0 0 0 0 0 none 0 0 0 0) 33)) 33 (clA 9 0 0 0 0 0 0 op none 0 0 0 0)
  rw [show (w.alloc (.cells (clA 0 0 0 0 0 0 0 0 none 0 0 0 0) 33)).heap.size = w.heap.size + 1 by simp] at q2
  have ST0 : Hid (CqSt w ((w.alloc (.cells (clA 0 0 0 0 0 0 0 0 none 0 0 0 0) 33)).alloc (.cells (clA 9 0 0 0 0 0 0 op none 0 0 0 0) 33)) 9 op none 0 (l.take 0)) := hide ⟨q1, q2, ⟨rfl, .inl ⟨rfl, rfl⟩⟩, b2, by simp⟩
  have HR := hide hr
  have HLN := hide hln
  have HN := hide hn
  have H0 := hide h0
  rw [hln]
  clear hr b2 q1 q2 hln hn h0
  unfold clA at ST0
  go_enter Tryd.func10, Tryd.ntmps10
  go_wp2_with fail
  go_loopw [8] (fun vi wr => ∃ (i : Nat) (A : Option Addr) (c : Nat), i ≤ n ∧ vi = .int .i64 i ∧ Hid (CqSt w wr 9 op A c (l.take i))) (fun vi _ => n - (RowKit.intOf vi).toNat)
  case atStart => exact ⟨0, none, 0, Nat.zero_le _, rfl, ST0⟩
  case round =>
    obtain ⟨i, A, c, hi, rfl, HS⟩ := hrel
    have hti : (l.take i).length = i := by rw [List.length_take, HLN.out]; omega
    by_cases hlt : i < n
    rotate_left
    · have hltI : ¬ (i : Int) < (n : Int) := by omega
      obtain rfl : i = n := by omega
      have htl : l.take i = l := List.take_of_length_le (Nat.le_of_eq HLN.out)
      have HS1 := HS.out
      rw [htl] at HS1
      have HB1 := HS1.box
      have HR1 : Blk wr w.heap.size 33 #[.int .u8 0, .int .i64 0, .int .i64 0, .int .i64 0, .int .i64 0, .int .i64 0, .int .i64 0, .int .u8 0, .slice none 0 0, .int .i64 0, .int .i64 0] := HS1.res
      rw [HLN.out] at HB1
      have x0 : wr.cell? ⟨w.heap.size + 1, 0, none⟩ = some (.int .u8 9) := HB1.cell 0
      have x1 : wr.cell? ⟨w.heap.size + 1, 1, none⟩ = some (.int .i64 0) := HB1.cell 1
      have x2 : wr.cell? ⟨w.heap.size + 1, 2, none⟩ = some (.int .i64 0) := HB1.cell 2
      have x3 : wr.cell? ⟨w.heap.size + 1, 3, none⟩ = some (.int .i64 0) := HB1.cell 3
      have x4 : wr.cell? ⟨w.heap.size + 1, 4, none⟩ = some (.int .i64 0) := HB1.cell 4
      have x5 : wr.cell? ⟨w.heap.size + 1, 5, none⟩ = some (.int .i64 0) := HB1.cell 5
      have x6 : wr.cell? ⟨w.heap.size + 1, 6, none⟩ = some (.int .i64 0) := HB1.cell 6
      have x7 : wr.cell? ⟨w.heap.size + 1, 7, none⟩ = some (.int .u8 op) := HB1.cell 7
      have x8 : wr.cell? ⟨w.heap.size + 1, 8, none⟩ = some (.slice A i c) := HB1.cell 8
      have x9 : wr.cell? ⟨w.heap.size + 1, 9, none⟩ = some (.int .i64 0) := HB1.cell 9
      have x10 : wr.cell? ⟨w.heap.size + 1, 10, none⟩ = some (.int .i64 0) := HB1.cell 10
      have f0 := HR1.frozen 0
      have fc0 := HR1.cell 0
      have fK0 := HR1.set_ 0 (.int .u8 9)
      have f1 := fK0.frozen 1
      have fc1 := fK0.cell 1
      have fK1 := fK0.set_ 1 (.int .i64 0)
      have f2 := fK1.frozen 2
      have fc2 := fK1.cell 2
      have fK2 := fK1.set_ 2 (.int .i64 0)
      have f3 := fK2.frozen 3
      have fc3 := fK2.cell 3
      have fK3 := fK2.set_ 3 (.int .i64 0)
      have f4 := fK3.frozen 4
      have fc4 := fK3.cell 4
      have fK4 := fK3.set_ 4 (.int .i64 0)
      have f5 := fK4.frozen 5
      have fc5 := fK4.cell 5
      have fK5 := fK4.set_ 5 (.int .i64 0)
      have f6 := fK5.frozen 6
      have fc6 := fK5.cell 6
      have fK6 := fK5.set_ 6 (.int .i64 0)
      have f7 := fK6.frozen 7
      have fc7 := fK6.cell 7
      have fK7 := fK6.set_ 7 (.int .u8 op)
      have f8 := fK7.frozen 8
      have fc8 := fK7.cell 8
      have fK8 := fK7.set_ 8 (.slice A i c)
      have f9 := fK8.frozen 9
      have fc9 := fK8.cell 9
      have fK9 := fK8.set_ 9 (.int .i64 0)
      have f10 := fK9.frozen 10
      have fc10 := fK9.cell 10
      have fK10 := fK9.set_ 10 (.int .i64 0)
      have fu0 := fK10.cell 0
      have fu1 := fK10.cell 1
      have fu2 := fK10.cell 2
      have fu3 := fK10.cell 3
      have fu4 := fK10.cell 4
      have fu5 := fK10.cell 5
      have fu6 := fK10.cell 6
      have fu7 := fK10.cell 7
      have fu8 := fK10.cell 8
      have fu9 := fK10.cell 9
      have fu10 := fK10.cell 10
      have FIN := hide (show ∃ ra rc, (Ending.returned (.agg #[.int .u8 9, .int .i64 0, .int .i64 0, .int .i64 0, .int .i64 0, .int .i64 0, .int .i64 0, .int .u8 op, .slice A i c, .int .i64 0, .int .i64 0])) = .returned (.agg (clA 9 0 0 0 0 0 0 op ra i rc 0 0)) ∧ RqAt (((((((((((wr.setCell ⟨w.heap.size, 0, none⟩ (.int .u8 9)).setCell ⟨w.heap.size, 1, none⟩ (.int .i64 0)).setCell ⟨w.heap.size, 2, none⟩ (.int .i64 0)).setCell ⟨w.heap.size, 3, none⟩ (.int .i64 0)).setCell ⟨w.heap.size, 4, none⟩ (.int .i64 0)).setCell ⟨w.heap.size, 5, none⟩ (.int .i64 0)).setCell ⟨w.heap.size, 6, none⟩ (.int .i64 0)).setCell ⟨w.heap.size, 7, none⟩ (.int .u8 op)).setCell ⟨w.heap.size, 8, none⟩ (.slice A i c)).setCell ⟨w.heap.size, 9, none⟩ (.int .i64 0)).setCell ⟨w.heap.size, 10, none⟩ (.int .i64 0)) w.heap.size ra rc l ∧ Below w.heap.size w (((((((((((wr.setCell ⟨w.heap.size, 0, none⟩ (.int .u8 9)).setCell ⟨w.heap.size, 1, none⟩ (.int .i64 0)).setCell ⟨w.heap.size, 2, none⟩ (.int .i64 0)).setCell ⟨w.heap.size, 3, none⟩ (.int .i64 0)).setCell ⟨w.heap.size, 4, none⟩ (.int .i64 0)).setCell ⟨w.heap.size, 5, none⟩ (.int .i64 0)).setCell ⟨w.heap.size, 6, none⟩ (.int .i64 0)).setCell ⟨w.heap.size, 7, none⟩ (.int .u8 op)).setCell ⟨w.heap.size, 8, none⟩ (.slice A i c)).setCell ⟨w.heap.size, 9, none⟩ (.int .i64 0)).setCell ⟨w.heap.size, 10, none⟩ (.int .i64 0)) from ⟨A, c, rfl, by
        rcases HS1.rqAt H0.out with h | ⟨g, cur, h0, h1, h2, h3, h4⟩
        · exact .inl h
        · obtain ⟨g', hA, hge, _, _⟩ := own_cell HS1.own H0.out
          have hne : g ≠ w.heap.size := by
            rw [h1] at hA
            injection hA with hA
            injection hA with hA
            omega
          exact .inr ⟨g, cur, h0, h1, h2, (((((((((((h3.far (p := ⟨w.heap.size, 0, none⟩) hne _).far (p := ⟨w.heap.size, 1, none⟩) hne _).far (p := ⟨w.heap.size, 2, none⟩) hne _).far (p := ⟨w.heap.size, 3, none⟩) hne _).far (p := ⟨w.heap.size, 4, none⟩) hne _).far (p := ⟨w.heap.size, 5, none⟩) hne _).far (p := ⟨w.heap.size, 6, none⟩) hne _).far (p := ⟨w.heap.size, 7, none⟩) hne _).far (p := ⟨w.heap.size, 8, none⟩) hne _).far (p := ⟨w.heap.size, 9, none⟩) hne _).far (p := ⟨w.heap.size, 10, none⟩) hne _), h4⟩, (((((((((((HS1.bl.setCell (p := ⟨w.heap.size, 0, none⟩) (Nat.le_refl _) _).setCell (p := ⟨w.heap.size, 1, none⟩) (Nat.le_refl _) _).setCell (p := ⟨w.heap.size, 2, none⟩) (Nat.le_refl _) _).setCell (p := ⟨w.heap.size, 3, none⟩) (Nat.le_refl _) _).setCell (p := ⟨w.heap.size, 4, none⟩) (Nat.le_refl _) _).setCell (p := ⟨w.heap.size, 5, none⟩) (Nat.le_refl _) _).setCell (p := ⟨w.heap.size, 6, none⟩) (Nat.le_refl _) _).setCell (p := ⟨w.heap.size, 7, none⟩) (Nat.le_refl _) _).setCell (p := ⟨w.heap.size, 8, none⟩) (Nat.le_refl _) _).setCell (p := ⟨w.heap.size, 9, none⟩) (Nat.le_refl _) _).setCell (p := ⟨w.heap.size, 10, none⟩) (Nat.le_refl _) _)⟩)
      clear htl HS1 HB1 HR1 fK0 fK1 fK2 fK3 fK4 fK5 fK6 fK7 fK8 fK9 fK10 HS HR HN H0 ST0 hti
      go_wp2_with fail
      exact bodyPost_ret (v := .agg #[.int .u8 9, .int .i64 0, .int .i64 0, .int .i64 0, .int .i64 0, .int .i64 0, .int .i64 0, .int .u8 op, .slice A i c, .int .i64 0, .int .i64 0]) (by simp [results, Tryd.results10, go_sem, fu0, fu1, fu2, fu3, fu4, fu5, fu6, fu7, fu8, fu9, fu10]) rfl FIN.out
    · have hltI : (i : Int) < (n : Int) := by omega
      have hs1 : IntKind.i64.wrap ((i : Int) + 1) = (i : Int) + 1 := by rw [IntKind.wrap_i64]; have := HN.out; have := HLN.out; omega
      have HS1 := HS.out
      obtain ⟨z, hz⟩ : ∃ z, l.getD i 0 = z := ⟨_, rfl⟩
      have cz : wr.cell? (ad.add i) = some (.int .i64 z) := by
        rw [← hz]
        exact (HR.out.below HS1.bl).2 i (by rw [HLN.out]; exact hlt)
      have HS2 := hide HS1
      have HHN := hide (show i ≤ 100000 by have := HN.out; have := HLN.out; omega)
      have HTI := hide hti
      have HTK : Hid (l.take i ++ [z] = l.take (i + 1)) := hide (by rw [take_sn l i (by rw [HLN.out]; exact hlt), hz])
      have HROW := hide (HR.out.below HS1.bl)
      have HZ := hide hz
      clear HS HS1 hti hz cz
      go_wp2_with fail
      let R : Nat → Value → World → Prop := fun sl u w1 => match sl with
        | 25 => u = .pointer (some ⟨w.heap.size + 1, 8, none⟩)
        | 26 => u = .slice A i c
        | 27 => u = .slice (some ad) n cc
        | 28 => u = .int .i64 i
        | 29 => u = .pointer (some (ad.add i))
        | 30 => u = .int .i64 z
        | 31 => ∃ g, u = .slice (some ⟨g, 0, none⟩) 1 1 ∧ Blk w1 g 3 #[.int .i64 z]
        | _ => True
      refine wp_region_relT 7 R (by kernel_rfl) (by kernel_rfl) (by kernel_rfl) (by kernel_rfl) ?mono ?step ?fin
      case mono =>
        intro sl u w1 w2 h hb
        match sl with
        | 31 =>
          obtain ⟨g, h1, h2⟩ := h
          exact ⟨g, h1, h2.below hb h2.lt⟩
        | 0 | 1 | 2 | 3 | 4 | 5 | 6 | 7 | 8 | 9 | 10 | 11 | 12 | 13 | 14 | 15 | 16 | 17 | 18 | 19 | 20 | 21 | 22 | 23 | 24 | 25 | 26 | 27 | 28 | 29 | 30 | _ + 32 => exact h
      case step =>
        intro o ho
        simp only [List.take, List.mem_cons, List.not_mem_nil, or_false] at ho
        rcases ho with rfl | rfl | rfl | rfl | rfl | rfl | rfl
        · intro a w1 hb hs hr
          have e7 : a.tmps.getD 7 undef = .pointer (some ⟨w.heap.size + 1, 0, none⟩) := hs 7 (by decide)
          rw [Array.getD_eq_getD_getElem?] at e7
          unfold Oper.wp
          simp only [execOp, Act.eval, Array.getD_eq_getD_getElem?, e7]
          go_simp
          exact ⟨_, rfl, rfl, Below.refl _ _⟩
        · intro a w1 hb hs hr
          have e25 : a.tmps.getD 25 undef = .pointer (some ⟨w.heap.size + 1, 8, none⟩) := hr 25 (by decide) (by apply Array.mem_toList_iff.1; repeat (first | exact List.Mem.head _ | apply List.Mem.tail))
          have cc0 : w1.cell? ⟨w.heap.size + 1, 8, none⟩ = some (.slice A i c) := by rw [← HTI.out]; exact (HS2.out.below hb).box.cell 8
          rw [Array.getD_eq_getD_getElem?] at e25
          unfold Oper.wp
          simp only [execOp, Act.eval, Array.getD_eq_getD_getElem?, e25]
          go_simp
          exact ⟨_, rfl, rfl, Below.refl _ _⟩
        · intro a w1 hb hs hr
          have e2 : a.tmps.getD 2 undef = .slice (some ad) n cc := hs 2 (by decide)
          rw [Array.getD_eq_getD_getElem?] at e2
          unfold Oper.wp
          simp only [execOp, Act.eval, Array.getD_eq_getD_getElem?, e2]
          go_simp
          exact ⟨_, rfl, rfl, Below.refl _ _⟩
        · intro a w1 hb hs hr
          have e8 : a.tmps.getD 8 undef = .int .i64 i := hs 8 (by decide)
          rw [Array.getD_eq_getD_getElem?] at e8
          unfold Oper.wp
          simp only [execOp, Act.eval, Array.getD_eq_getD_getElem?, e8]
          go_simp
          exact ⟨_, rfl, rfl, Below.refl _ _⟩
        · intro a w1 hb hs hr
          have e27 : a.tmps.getD 27 undef = .slice (some ad) n cc := hr 27 (by decide) (by apply Array.mem_toList_iff.1; repeat (first | exact List.Mem.head _ | apply List.Mem.tail))
          have e28 : a.tmps.getD 28 undef = .int .i64 i := hr 28 (by decide) (by apply Array.mem_toList_iff.1; repeat (first | exact List.Mem.head _ | apply List.Mem.tail))
          rw [Array.getD_eq_getD_getElem?] at e27
          rw [Array.getD_eq_getD_getElem?] at e28
          unfold Oper.wp
          simp only [execOp, Act.eval, Array.getD_eq_getD_getElem?, e27, e28]
          go_simp
          exact ⟨_, rfl, rfl, Below.refl _ _⟩
        · intro a w1 hb hs hr
          have e29 : a.tmps.getD 29 undef = .pointer (some (ad.add i)) := hr 29 (by decide) (by apply Array.mem_toList_iff.1; repeat (first | exact List.Mem.head _ | apply List.Mem.tail))
          have cz : w1.cell? (ad.add i) = some (.int .i64 z) := by rw [← HZ.out]; exact (HROW.out.below hb).2 i (by rw [HLN.out]; exact hlt)
          rw [Array.getD_eq_getD_getElem?] at e29
          unfold Oper.wp
          simp only [execOp, Act.eval, Array.getD_eq_getD_getElem?, e29]
          go_simp
          exact ⟨_, rfl, rfl, Below.refl _ _⟩
        · intro a w1 hb hs hr
          have e30 : a.tmps.getD 30 undef = .int .i64 z := hr 30 (by decide) (by apply Array.mem_toList_iff.1; repeat (first | exact List.Mem.head _ | apply List.Mem.tail))
          rw [Array.getD_eq_getD_getElem?] at e30
          unfold Oper.wp
          simp only [execOp, Act.eval, Array.getD_eq_getD_getElem?, e30]
          go_simp
          exact ⟨_, rfl, ⟨w1.heap.size, rfl, Blk.new w1 3 #[.int .i64 z]⟩, (Below.refl _ _).alloc (Nat.le_refl _) _⟩
      case fin =>
        intro ff w9 hb hr
        obtain ⟨g, e31, hgb⟩ := hr 31 (by decide)
        have e26 : ff 26 = .slice A i c := hr 26 (by decide)
        obtain ⟨A1, c1, w11, hrun, hc8, hf8, hst⟩ := (HS2.out.below hb).push z g hgb (by rw [HTI.out]; exact HHN.out)
        rw [HTI.out] at hrun hc8 hst
        rw [HTK.out] at hst
        have RUN := hide hrun
        clear hr hb hgb hrun
        simp only [putAll, slotsOf, List.take, List.drop, List.filterMap_cons, List.filterMap_nil, List.foldl_cons, List.foldl_nil, Act.put, e26, e31]
        simp only [List.setIfInBounds_toArray, List.set_cons_succ, List.set_cons_zero]
        go_wp2_with (at_builtin; refine Lib.wpList_append_run _ rfl (.tmp 26) (.tmp 31) 25 25 rfl _ _ rfl rfl _ _ RUN.out ?_)
        go_roundw
        case rel => exact ⟨i + 1, A1, c1, by omega, by go_num, hst⟩
        case measure => simp [RowKit.intOf] <;> omega
set_option maxRecDepth 100000 in
set_option maxHeartbeats 8000000 in
theorem callD_reqs10 (op : Int) (l : List Int) (ad : Addr) (cc : Nat) (w : World) (h0 : 0 < l.length) (hn : l.length ≤ 1000) (hr : IRow w ad l) :
    Calls Tryd.prog 10 #[.int .u8 10, .int .u8 op, .slice (some ad) l.length cc] w fun e w' => ∃ ra rc, e = .returned (.agg (clA 10 0 0 0 0 0 0 op ra l.length rc 0 0)) ∧ RqAt w' w.heap.size ra rc l ∧ Below w.heap.size w w' := by
  obtain ⟨n, hln⟩ : ∃ n, l.length = n := ⟨_, rfl⟩
  have b2 := ((Below.refl w.heap.size w).alloc (Nat.le_refl _) (.cells (clA 0 0 0 0 0 0 0 0 none 0 0 0 0) 33)).alloc (by simp) (.cells (clA 10 0 0 0 0 0 0 op none 0 0 0 0) 33)
  have q1 := (Blk.new w 33 (clA 0 0 0 0 0 0 0 0 none 0 0 0 0)).below ((Below.refl _ _).alloc (Nat.le_refl _) (.cells (clA 10 0 0 0 0 0 0 op none 0 0 0 0) 33)) (Blk.new w _ _).lt
  have q2 := Blk.new (w.alloc (.cells (clA 0 0 0 0 0 0 0 0 none 0 0 0 0) 33)) 33 (clA 10 0 0 0 0 0 0 op none 0 0 0 0)
  rw [show (w.alloc (.cells (clA 0 0 0 0 0 0 0 0 none 0 0 0 0) 33)).heap.size = w.heap.size + 1 by simp] at q2
  have ST0 : Hid (CqSt w ((w.alloc (.cells (clA 0 0 0 0 0 0 0 0 none 0 0 0 0) 33)).alloc (.cells (clA 10 0 0 0 0 0 0 op none 0 0 0 0) 33)) 10 op none 0 (l.take 0)) := hide ⟨q1, q2, ⟨rfl, .inl ⟨rfl, rfl⟩⟩, b2, by simp⟩
  have HR := hide hr
  have HLN := hide hln
  have HN := hide hn
  have H0 := hide h0
  rw [hln]
  clear hr b2 q1 q2 hln hn h0
  unfold clA at ST0
  go_enter Tryd.func10, Tryd.ntmps10
  go_wp2_with fail
  go_loopw [8] (fun vi wr => ∃ (i : Nat) (A : Option Addr) (c : Nat), i ≤ n ∧ vi = .int .i64 i ∧ Hid (CqSt w wr 10 op A c (l.take i))) (fun vi _ => n - (RowKit.intOf vi).toNat)
  case atStart => exact ⟨0, none, 0, Nat.zero_le _, rfl, ST0⟩
  case round =>
    obtain ⟨i, A, c, hi, rfl, HS⟩ := hrel
    have hti : (l.take i).length = i := by rw [List.length_take, HLN.out]; omega
    by_cases hlt : i < n
    rotate_left
    · have hltI : ¬ (i : Int) < (n : Int) := by omega
      obtain rfl : i = n := by omega
      have htl : l.take i = l := List.take_of_length_le (Nat.le_of_eq HLN.out)
      have HS1 := HS.out
      rw [htl] at HS1
      have HB1 := HS1.box
      have HR1 : Blk wr w.heap.size 33 #[.int .u8 0, .int .i64 0, .int .i64 0, .int .i64 0, .int .i64 0, .int .i64 0, .int .i64 0, .int .u8 0, .slice none 0 0, .int .i64 0, .int .i64 0] := HS1.res
      rw [HLN.out] at HB1
      have x0 : wr.cell? ⟨w.heap.size + 1, 0, none⟩ = some (.int .u8 10) := HB1.cell 0
      have x1 : wr.cell? ⟨w.heap.size + 1, 1, none⟩ = some (.int .i64 0) := HB1.cell 1
      have x2 : wr.cell? ⟨w.heap.size + 1, 2, none⟩ = some (.int .i64 0) := HB1.cell 2
      have x3 : wr.cell? ⟨w.heap.size + 1, 3, none⟩ = some (.int .i64 0) := HB1.cell 3
      have x4 : wr.cell? ⟨w.heap.size + 1, 4, none⟩ = some (.int .i64 0) := HB1.cell 4
      have x5 : wr.cell? ⟨w.heap.size + 1, 5, none⟩ = some (.int .i64 0) := HB1.cell 5
      have x6 : wr.cell? ⟨w.heap.size + 1, 6, none⟩ = some (.int .i64 0) := HB1.cell 6
      have x7 : wr.cell? ⟨w.heap.size + 1, 7, none⟩ = some (.int .u8 op) := HB1.cell 7
      have x8 : wr.cell? ⟨w.heap.size + 1, 8, none⟩ = some (.slice A i c) := HB1.cell 8
      have x9 : wr.cell? ⟨w.heap.size + 1, 9, none⟩ = some (.int .i64 0) := HB1.cell 9
      have x10 : wr.cell? ⟨w.heap.size + 1, 10, none⟩ = some (.int .i64 0) := HB1.cell 10
      have f0 := HR1.frozen 0
      have fc0 := HR1.cell 0
      have fK0 := HR1.set_ 0 (.int .u8 10)
      have f1 := fK0.frozen 1
      have fc1 := fK0.cell 1
      have fK1 := fK0.set_ 1 (.int .i64 0)
      have f2 := fK1.frozen 2
      have fc2 := fK1.cell 2
      have fK2 := fK1.set_ 2 (.int .i64 0)
      have f3 := fK2.frozen 3
      have fc3 := fK2.cell 3
      have fK3 := fK2.set_ 3 (.int .i64 0)
      have f4 := fK3.frozen 4
      have fc4 := fK3.cell 4
      have fK4 := fK3.set_ 4 (.int .i64 0)
      have f5 := fK4.frozen 5
      have fc5 := fK4.cell 5
      have fK5 := fK4.set_ 5 (.int .i64 0)
      have f6 := fK5.frozen 6
      have fc6 := fK5.cell 6
      have fK6 := fK5.set_ 6 (.int .i64 0)
      have f7 := fK6.frozen 7
      have fc7 := fK6.cell 7
      have fK7 := fK6.set_ 7 (.int .u8 op)
      have f8 := fK7.frozen 8
      have fc8 := fK7.cell 8
      have fK8 := fK7.set_ 8 (.slice A i c)
      have f9 := fK8.frozen 9
      have fc9 := fK8.cell 9
      have fK9 := fK8.set_ 9 (.int .i64 0)
      have f10 := fK9.frozen 10
      have fc10 := fK9.cell 10
      have fK10 := fK9.set_ 10 (.int .i64 0)
      have fu0 := fK10.cell 0
      have fu1 := fK10.cell 1
      have fu2 := fK10.cell 2
      have fu3 := fK10.cell 3
      have fu4 := fK10.cell 4
      have fu5 := fK10.cell 5
      have fu6 := fK10.cell 6
      have fu7 := fK10.cell 7
      have fu8 := fK10.cell 8
      have fu9 := fK10.cell 9
      have fu10 := fK10.cell 10
      have FIN := hide (show ∃ ra rc, (Ending.returned (.agg #[.int .u8 10, .int .i64 0, .int .i64 0, .int .i64 0, .int .i64 0, .int .i64 0, .int .i64 0, .int .u8 op, .slice A i c, .int .i64 0, .int .i64 0])) = .returned (.agg (clA 10 0 0 0 0 0 0 op ra i rc 0 0)) ∧ RqAt (((((((((((wr.setCell ⟨w.heap.size, 0, none⟩ (.int .u8 10)).setCell ⟨w.heap.size, 1, none⟩ (.int .i64 0)).setCell ⟨w.heap.size, 2, none⟩ (.int .i64 0)).setCell ⟨w.heap.size, 3, none⟩ (.int .i64 0)).setCell ⟨w.heap.size, 4, none⟩ (.int .i64 0)).setCell ⟨w.heap.size, 5, none⟩ (.int .i64 0)).setCell ⟨w.heap.size, 6, none⟩ (.int .i64 0)).setCell ⟨w.heap.size, 7, none⟩ (.int .u8 op)).setCell ⟨w.heap.size, 8, none⟩ (.slice A i c)).setCell ⟨w.heap.size, 9, none⟩ (.int .i64 0)).setCell ⟨w.heap.size, 10, none⟩ (.int .i64 0)) w.heap.size ra rc l ∧ Below w.heap.size w (((((((((((wr.setCell ⟨w.heap.size, 0, none⟩ (.int .u8 10)).setCell ⟨w.heap.size, 1, none⟩ (.int .i64 0)).setCell ⟨w.heap.size, 2, none⟩ (.int .i64 0)).setCell ⟨w.heap.size, 3, none⟩ (.int .i64 0)).setCell ⟨w.heap.size, 4, none⟩ (.int .i64 0)).setCell ⟨w.heap.size, 5, none⟩ (.int .i64 0)).setCell ⟨w.heap.size, 6, none⟩ (.int .i64 0)).setCell ⟨w.heap.size, 7, none⟩ (.int .u8 op)).setCell ⟨w.heap.size, 8, none⟩ (.slice A i c)).setCell ⟨w.heap.size, 9, none⟩ (.int .i64 0)).setCell ⟨w.heap.size, 10, none⟩ (.int .i64 0)) from ⟨A, c, rfl, by
        rcases HS1.rqAt H0.out with h | ⟨g, cur, h0, h1, h2, h3, h4⟩
        · exact .inl h
        · obtain ⟨g', hA, hge, _, _⟩ := own_cell HS1.own H0.out
          have hne : g ≠ w.heap.size := by
            rw [h1] at hA
            injection hA with hA
            injection hA with hA
            omega
          exact .inr ⟨g, cur, h0, h1, h2, (((((((((((h3.far (p := ⟨w.heap.size, 0, none⟩) hne _).far (p := ⟨w.heap.size, 1, none⟩) hne _).far (p := ⟨w.heap.size, 2, none⟩) hne _).far (p := ⟨w.heap.size, 3, none⟩) hne _).far (p := ⟨w.heap.size, 4, none⟩) hne _).far (p := ⟨w.heap.size, 5, none⟩) hne _).far (p := ⟨w.heap.size, 6, none⟩) hne _).far (p := ⟨w.heap.size, 7, none⟩) hne _).far (p := ⟨w.heap.size, 8, none⟩) hne _).far (p := ⟨w.heap.size, 9, none⟩) hne _).far (p := ⟨w.heap.size, 10, none⟩) hne _), h4⟩, (((((((((((HS1.bl.setCell (p := ⟨w.heap.size, 0, none⟩) (Nat.le_refl _) _).setCell (p := ⟨w.heap.size, 1, none⟩) (Nat.le_refl _) _).setCell (p := ⟨w.heap.size, 2, none⟩) (Nat.le_refl _) _).setCell (p := ⟨w.heap.size, 3, none⟩) (Nat.le_refl _) _).setCell (p := ⟨w.heap.size, 4, none⟩) (Nat.le_refl _) _).setCell (p := ⟨w.heap.size, 5, none⟩) (Nat.le_refl _) _).setCell (p := ⟨w.heap.size, 6, none⟩) (Nat.le_refl _) _).setCell (p := ⟨w.heap.size, 7, none⟩) (Nat.le_refl _) _).setCell (p := ⟨w.heap.size, 8, none⟩) (Nat.le_refl _) _).setCell (p := ⟨w.heap.size, 9, none⟩) (Nat.le_refl _) _).setCell (p := ⟨w.heap.size, 10, none⟩) (Nat.le_refl _) _)⟩)
      clear htl HS1 HB1 HR1 fK0 fK1 fK2 fK3 fK4 fK5 fK6 fK7 fK8 fK9 fK10 HS HR HN H0 ST0 hti
      go_wp2_with fail
      exact bodyPost_ret (v := .agg #[.int .u8 10, .int .i64 0, .int .i64 0, .int .i64 0, .int .i64 0, .int .i64 0, .int .i64 0, .int .u8 op, .slice A i c, .int .i64 0, .int .i64 0]) (by simp [results, Tryd.results10, go_sem, fu0, fu1, fu2, fu3, fu4, fu5, fu6, fu7, fu8, fu9, fu10]) rfl FIN.out
    · have hltI : (i : Int) < (n : Int) := by omega
      have hs1 : IntKind.i64.wrap ((i : Int) + 1) = (i : Int) + 1 := by rw [IntKind.wrap_i64]; have := HN.out; have := HLN.out; omega
      have HS1 := HS.out
      obtain ⟨z, hz⟩ : ∃ z, l.getD i 0 = z := ⟨_, rfl⟩
      have cz : wr.cell? (ad.add i) = some (.int .i64 z) := by
        rw [← hz]
        exact (HR.out.below HS1.bl).2 i (by rw [HLN.out]; exact hlt)
      have HS2 := hide HS1
      have HHN := hide (show i ≤ 100000 by have := HN.out; have := HLN.out; omega)
      have HTI := hide hti
      have HTK : Hid (l.take i ++ [z] = l.take (i + 1)) := hide (by rw [take_sn l i (by rw [HLN.out]; exact hlt), hz])
      have HROW := hide (HR.out.below HS1.bl)
      have HZ := hide hz
      clear HS HS1 hti hz cz
      go_wp2_with fail
      let R : Nat → Value → World → Prop := fun sl u w1 => match sl with
        | 25 => u = .pointer (some ⟨w.heap.size + 1, 8, none⟩)
        | 26 => u = .slice A i c
        | 27 => u = .slice (some ad) n cc
        | 28 => u = .int .i64 i
        | 29 => u = .pointer (some (ad.add i))
        | 30 => u = .int .i64 z
        | 31 => ∃ g, u = .slice (some ⟨g, 0, none⟩) 1 1 ∧ Blk w1 g 3 #[.int .i64 z]
        | _ => True
      refine wp_region_relT 7 R (by kernel_rfl) (by kernel_rfl) (by kernel_rfl) (by kernel_rfl) ?mono ?step ?fin
      case mono =>
        intro sl u w1 w2 h hb
        match sl with
        | 31 =>
          obtain ⟨g, h1, h2⟩ := h
          exact ⟨g, h1, h2.below hb h2.lt⟩
        | 0 | 1 | 2 | 3 | 4 | 5 | 6 | 7 | 8 | 9 | 10 | 11 | 12 | 13 | 14 | 15 | 16 | 17 | 18 | 19 | 20 | 21 | 22 | 23 | 24 | 25 | 26 | 27 | 28 | 29 | 30 | _ + 32 => exact h
      case step =>
        intro o ho
        simp only [List.take, List.mem_cons, List.not_mem_nil, or_false] at ho
        rcases ho with rfl | rfl | rfl | rfl | rfl | rfl | rfl
        · intro a w1 hb hs hr
          have e7 : a.tmps.getD 7 undef = .pointer (some ⟨w.heap.size + 1, 0, none⟩) := hs 7 (by decide)
          rw [Array.getD_eq_getD_getElem?] at e7
          unfold Oper.wp
          simp only [execOp, Act.eval, Array.getD_eq_getD_getElem?, e7]
          go_simp
          exact ⟨_, rfl, rfl, Below.refl _ _⟩
        · intro a w1 hb hs hr
          have e25 : a.tmps.getD 25 undef = .pointer (some ⟨w.heap.size + 1, 8, none⟩) := hr 25 (by decide) (by apply Array.mem_toList_iff.1; repeat (first | exact List.Mem.head _ | apply List.Mem.tail))
          have cc0 : w1.cell? ⟨w.heap.size + 1, 8, none⟩ = some (.slice A i c) := by rw [← HTI.out]; exact (HS2.out.below hb).box.cell 8
          rw [Array.getD_eq_getD_getElem?] at e25
          unfold Oper.wp
          simp only [execOp, Act.eval, Array.getD_eq_getD_getElem?, e25]
          go_simp
          exact ⟨_, rfl, rfl, Below.refl _ _⟩
        · intro a w1 hb hs hr
          have e2 : a.tmps.getD 2 undef = .slice (some ad) n cc := hs 2 (by decide)
          rw [Array.getD_eq_getD_getElem?] at e2
          unfold Oper.wp
          simp only [execOp, Act.eval, Array.getD_eq_getD_getElem?, e2]
          go_simp
          exact ⟨_, rfl, rfl, Below.refl _ _⟩
        · intro a w1 hb hs hr
          have e8 : a.tmps.getD 8 undef = .int .i64 i := hs 8 (by decide)
          rw [Array.getD_eq_getD_getElem?] at e8
          unfold Oper.wp
          simp only [execOp, Act.eval, Array.getD_eq_getD_getElem?, e8]
          go_simp
          exact ⟨_, rfl, rfl, Below.refl _ _⟩
        · intro a w1 hb hs hr
          have e27 : a.tmps.getD 27 undef = .slice (some ad) n cc := hr 27 (by decide) (by apply Array.mem_toList_iff.1; repeat (first | exact List.Mem.head _ | apply List.Mem.tail))
          have e28 : a.tmps.getD 28 undef = .int .i64 i := hr 28 (by decide) (by apply Array.mem_toList_iff.1; repeat (first | exact List.Mem.head _ | apply List.Mem.tail))
          rw [Array.getD_eq_getD_getElem?] at e27
          rw [Array.getD_eq_getD_getElem?] at e28
          unfold Oper.wp
          simp only [execOp, Act.eval, Array.getD_eq_getD_getElem?, e27, e28]
          go_simp
          exact ⟨_, rfl, rfl, Below.refl _ _⟩
        · intro a w1 hb hs hr
          have e29 : a.tmps.getD 29 undef = .pointer (some (ad.add i)) := hr 29 (by decide) (by apply Array.mem_toList_iff.1; repeat (first | exact List.Mem.head _ | apply List.Mem.tail))
          have cz : w1.cell? (ad.add i) = some (.int .i64 z) := by rw [← HZ.out]; exact (HROW.out.below hb).2 i (by rw [HLN.out]; exact hlt)
          rw [Array.getD_eq_getD_getElem?] at e29
          unfold Oper.wp
          simp only [execOp, Act.eval, Array.getD_eq_getD_getElem?, e29]
          go_simp
          exact ⟨_, rfl, rfl, Below.refl _ _⟩
        · intro a w1 hb hs hr
          have e30 : a.tmps.getD 30 undef = .int .i64 z := hr 30 (by decide) (by apply Array.mem_toList_iff.1; repeat (first | exact List.Mem.head _ | apply List.Mem.tail))
          rw [Array.getD_eq_getD_getElem?] at e30
          unfold Oper.wp
          simp only [execOp, Act.eval, Array.getD_eq_getD_getElem?, e30]
          go_simp
          exact ⟨_, rfl, ⟨w1.heap.size, rfl, Blk.new w1 3 #[.int .i64 z]⟩, (Below.refl _ _).alloc (Nat.le_refl _) _⟩
      case fin =>
        intro ff w9 hb hr
        obtain ⟨g, e31, hgb⟩ := hr 31 (by decide)
        have e26 : ff 26 = .slice A i c := hr 26 (by decide)
        obtain ⟨A1, c1, w11, hrun, hc8, hf8, hst⟩ := (HS2.out.below hb).push z g hgb (by rw [HTI.out]; exact HHN.out)
        rw [HTI.out] at hrun hc8 hst
        rw [HTK.out] at hst
        have RUN := hide hrun
        clear hr hb hgb hrun
        simp only [putAll, slotsOf, List.take, List.drop, List.filterMap_cons, List.filterMap_nil, List.foldl_cons, List.foldl_nil, Act.put, e26, e31]
        simp only [List.setIfInBounds_toArray, List.set_cons_succ, List.set_cons_zero]
        go_wp2_with (at_builtin; refine Lib.wpList_append_run _ rfl (.tmp 26) (.tmp 31) 25 25 rfl _ _ rfl rfl _ _ RUN.out ?_)
        go_roundw
        case rel => exact ⟨i + 1, A1, c1, by omega, by go_num, hst⟩
        case measure => simp [RowKit.intOf] <;> omega
set_option maxRecDepth 100000 in
set_option maxHeartbeats 8000000 in
theorem callD_reqs11 (op : Int) (l : List Int) (ad : Addr) (cc : Nat) (w : World) (h0 : 0 < l.length) (hn : l.length ≤ 1000) (hr : IRow w ad l) :
    Calls Tryd.prog 10 #[.int .u8 11, .int .u8 op, .slice (some ad) l.length cc] w fun e w' => ∃ ra rc, e = .returned (.agg (clA 11 0 0 0 0 0 0 op ra l.length rc 0 0)) ∧ RqAt w' w.heap.size ra rc l ∧ Below w.heap.size w w' := by
  obtain ⟨n, hln⟩ : ∃ n, l.length = n := ⟨_, rfl⟩
  have b2 := ((Below.refl w.heap.size w).alloc (Nat.le_refl _) (.cells (clA 0 0 0 0 0 0 0 0 none 0 0 0 0) 33)).alloc (by simp) (.cells (clA 11 0 0 0 0 0 0 op none 0 0 0 0) 33)
  have q1 := (Blk.new w 33 (clA 0 0 0 0 0 0 0 0 none 0 0 0 0)).below ((Below.refl _ _).alloc (Nat.le_refl _) (.cells (clA 11 0 0 0 0 0 0 op none 0 0 0 0) 33)) (Blk.new w _ _).lt
  have q2 := Blk.new (w.alloc (.cells (clA 0 0 0 0 0 0 0 0 none 0 0 0 0) 33)) 33 (clA 11 0 0 0 0 0 0 op none 0 0 0 0)
  rw [show (w.alloc (.cells (clA 0 0 0 0 0 0 0 0 none 0 0 0 0) 33)).heap.size = w.heap.size + 1 by simp] at q2
  have ST0 : Hid (CqSt w ((w.alloc (.cells (clA 0 0 0 0 0 0 0 0 none 0 0 0 0) 33)).alloc (.cells (clA 11 0 0 0 0 0 0 op none 0 0 0 0) 33)) 11 op none 0 (l.take 0)) := hide ⟨q1, q2, ⟨rfl, .inl ⟨rfl, rfl⟩⟩, b2, by simp⟩
  have HR := hide hr
  have HLN := hide hln
  have HN := hide hn
  have H0 := hide h0
  rw [hln]
  clear hr b2 q1 q2 hln hn h0
  unfold clA at ST0
  go_enter Tryd.func10, Tryd.ntmps10
  go_wp2_with fail
  go_loopw [8] (fun vi wr => ∃ (i : Nat) (A : Option Addr) (c : Nat), i ≤ n ∧ vi = .int .i64 i ∧ Hid (CqSt w wr 11 op A c (l.take i))) (fun vi _ => n - (RowKit.intOf vi).toNat)
  case atStart => exact ⟨0, none, 0, Nat.zero_le _, rfl, ST0⟩
  case round =>
    obtain ⟨i, A, c, hi, rfl, HS⟩ := hrel
    have hti : (l.take i).length = i := by rw [List.length_take, HLN.out]; omega
    by_cases hlt : i < n
    rotate_left
    · have hltI : ¬ (i : Int) < (n : Int) := by omega
      obtain rfl : i = n := by omega
      have htl : l.take i = l := List.take_of_length_le (Nat.le_of_eq HLN.out)
      have HS1 := HS.out
      rw [htl] at HS1
      have HB1 := HS1.box
      have HR1 : Blk wr w.heap.size 33 #[.int .u8 0, .int .i64 0, .int .i64 0, .int .i64 0, .int .i64 0, .int .i64 0, .int .i64 0, .int .u8 0, .slice none 0 0, .int .i64 0, .int .i64 0] := HS1.res
      rw [HLN.out] at HB1
      have x0 : wr.cell? ⟨w.heap.size + 1, 0, none⟩ = some (.int .u8 11) := HB1.cell 0
      have x1 : wr.cell? ⟨w.heap.size + 1, 1, none⟩ = some (.int .i64 0) := HB1.cell 1
      have x2 : wr.cell? ⟨w.heap.size + 1, 2, none⟩ = some (.int .i64 0) := HB1.cell 2
      have x3 : wr.cell? ⟨w.heap.size + 1, 3, none⟩ = some (.int .i64 0) := HB1.cell 3
      have x4 : wr.cell? ⟨w.heap.size + 1, 4, none⟩ = some (.int .i64 0) := HB1.cell 4
      have x5 : wr.cell? ⟨w.heap.size + 1, 5, none⟩ = some (.int .i64 0) := HB1.cell 5
      have x6 : wr.cell? ⟨w.heap.size + 1, 6, none⟩ = some (.int .i64 0) := HB1.cell 6
      have x7 : wr.cell? ⟨w.heap.size + 1, 7, none⟩ = some (.int .u8 op) := HB1.cell 7
      have x8 : wr.cell? ⟨w.heap.size + 1, 8, none⟩ = some (.slice A i c) := HB1.cell 8
      have x9 : wr.cell? ⟨w.heap.size + 1, 9, none⟩ = some (.int .i64 0) := HB1.cell 9
      have x10 : wr.cell? ⟨w.heap.size + 1, 10, none⟩ = some (.int .i64 0) := HB1.cell 10
      have f0 := HR1.frozen 0
      have fc0 := HR1.cell 0
      have fK0 := HR1.set_ 0 (.int .u8 11)
      have f1 := fK0.frozen 1
      have fc1 := fK0.cell 1
      have fK1 := fK0.set_ 1 (.int .i64 0)
      have f2 := fK1.frozen 2
      have fc2 := fK1.cell 2
      have fK2 := fK1.set_ 2 (.int .i64 0)
      have f3 := fK2.frozen 3
      have fc3 := fK2.cell 3
      have fK3 := fK2.set_ 3 (.int .i64 0)
      have f4 := fK3.frozen 4
      have fc4 := fK3.cell 4
      have fK4 := fK3.set_ 4 (.int .i64 0)
      have f5 := fK4.frozen 5
      have fc5 := fK4.cell 5
      have fK5 := fK4.set_ 5 (.int .i64 0)
      have f6 := fK5.frozen 6
      have fc6 := fK5.cell 6
      have fK6 := fK5.set_ 6 (.int .i64 0)
      have f7 := fK6.frozen 7
      have fc7 := fK6.cell 7
      have fK7 := fK6.set_ 7 (.int .u8 op)
      have f8 := fK7.frozen 8
      have fc8 := fK7.cell 8
      have fK8 := fK7.set_ 8 (.slice A i c)
      have f9 := fK8.frozen 9
      have fc9 := fK8.cell 9
      have fK9 := fK8.set_ 9 (.int .i64 0)
      have f10 := fK9.frozen 10
      have fc10 := fK9.cell 10
      have fK10 := fK9.set_ 10 (.int .i64 0)
      have fu0 := fK10.cell 0
      have fu1 := fK10.cell 1
      have fu2 := fK10.cell 2
      have fu3 := fK10.cell 3
      have fu4 := fK10.cell 4
      have fu5 := fK10.cell 5
      have fu6 := fK10.cell 6
      have fu7 := fK10.cell 7
      have fu8 := fK10.cell 8
      have fu9 := fK10.cell 9
      have fu10 := fK10.cell 10
      have FIN := hide (show ∃ ra rc, (Ending.returned (.agg #[.int .u8 11, .int .i64 0, .int .i64 0, .int .i64 0, .int .i64 0, .int .i64 0, .int .i64 0, .int .u8 op, .slice A i c, .int .i64 0, .int .i64 0])) = .returned (.agg (clA 11 0 0 0 0 0 0 op ra i rc 0 0)) ∧ RqAt (((((((((((wr.setCell ⟨w.heap.size, 0, none⟩ (.int .u8 11)).setCell ⟨w.heap.size, 1, none⟩ (.int .i64 0)).setCell ⟨w.heap.size, 2, none⟩ (.int .i64 0)).setCell ⟨w.heap.size, 3, none⟩ (.int .i64 0)).setCell ⟨w.heap.size, 4, none⟩ (.int .i64 0)).setCell ⟨w.heap.size, 5, none⟩ (.int .i64 0)).setCell ⟨w.heap.size, 6, none⟩ (.int .i64 0)).setCell ⟨w.heap.size, 7, none⟩ (.int .u8 op)).setCell ⟨w.heap.size, 8, none⟩ (.slice A i c)).setCell ⟨w.heap.size, 9, none⟩ (.int .i64 0)).setCell ⟨w.heap.size, 10, none⟩ (.int .i64 0)) w.heap.size ra rc l ∧ Below w.heap.size w (((((((((((wr.setCell ⟨w.heap.size, 0, none⟩ (.int .u8 11)).setCell ⟨w.heap.size, 1, none⟩ (.int .i64 0)).setCell ⟨w.heap.size, 2, none⟩ (.int .i64 0)).setCell ⟨w.heap.size, 3, none⟩ (.int .i64 0)).setCell ⟨w.heap.size, 4, none⟩ (.int .i64 0)).setCell ⟨w.heap.size, 5, none⟩ (.int .i64 0)).setCell ⟨w.heap.size, 6, none⟩ (.int .i64 0)).setCell ⟨w.heap.size, 7, none⟩ (.int .u8 op)).setCell ⟨w.heap.size, 8, none⟩ (.slice A i c)).setCell ⟨w.heap.size, 9, none⟩ (.int .i64 0)).setCell ⟨w.heap.size, 10, none⟩ (.int .i64 0)) from ⟨A, c, rfl, by
        rcases HS1.rqAt H0.out with h | ⟨g, cur, h0, h1, h2, h3, h4⟩
        · exact .inl h
        · obtain ⟨g', hA, hge, _, _⟩ := own_cell HS1.own H0.out
          have hne : g ≠ w.heap.size := by
            rw [h1] at hA
            injection hA with hA
            injection hA with hA
            omega
          exact .inr ⟨g, cur, h0, h1, h2, (((((((((((h3.far (p := ⟨w.heap.size, 0, none⟩) hne _).far (p := ⟨w.heap.size, 1, none⟩) hne _).far (p := ⟨w.heap.size, 2, none⟩) hne _).far (p := ⟨w.heap.size, 3, none⟩) hne _).far (p := ⟨w.heap.size, 4, none⟩) hne _).far (p := ⟨w.heap.size, 5, none⟩) hne _).far (p := ⟨w.heap.size, 6, none⟩) hne _).far (p := ⟨w.heap.size, 7, none⟩) hne _).far (p := ⟨w.heap.size, 8, none⟩) hne _).far (p := ⟨w.heap.size, 9, none⟩) hne _).far (p := ⟨w.heap.size, 10, none⟩) hne _), h4⟩, (((((((((((HS1.bl.setCell (p := ⟨w.heap.size, 0, none⟩) (Nat.le_refl _) _).setCell (p := ⟨w.heap.size, 1, none⟩) (Nat.le_refl _) _).setCell (p := ⟨w.heap.size, 2, none⟩) (Nat.le_refl _) _).setCell (p := ⟨w.heap.size, 3, none⟩) (Nat.le_refl _) _).setCell (p := ⟨w.heap.size, 4, none⟩) (Nat.le_refl _) _).setCell (p := ⟨w.heap.size, 5, none⟩) (Nat.le_refl _) _).setCell (p := ⟨w.heap.size, 6, none⟩) (Nat.le_refl _) _).setCell (p := ⟨w.heap.size, 7, none⟩) (Nat.le_refl _) _).setCell (p := ⟨w.heap.size, 8, none⟩) (Nat.le_refl _) _).setCell (p := ⟨w.heap.size, 9, none⟩) (Nat.le_refl _) _).setCell (p := ⟨w.heap.size, 10, none⟩) (Nat.le_refl _) _)⟩)
      clear htl HS1 HB1 HR1 fK0 fK1 fK2 fK3 fK4 fK5 fK6 fK7 fK8 fK9 fK10 HS HR HN H0 ST0 hti
      go_wp2_with fail
      exact bodyPost_ret (v := .agg #[.int .u8 11, .int .i64 0, .int .i64 0, .int .i64 0, .int .i64 0, .int .i64 0, .int .i64 0, .int .u8 op, .slice A i c, .int .i64 0, .int .i64 0]) (by simp [results, Tryd.results10, go_sem, fu0, fu1, fu2, fu3, fu4, fu5, fu6, fu7, fu8, fu9, fu10]) rfl FIN.out
    · have hltI : (i : Int) < (n : Int) := by omega
      have hs1 : IntKind.i64.wrap ((i : Int) + 1) = (i : Int) + 1 := by rw [IntKind.wrap_i64]; have := HN.out; have := HLN.out; omega
      have HS1 := HS.out
      obtain ⟨z, hz⟩ : ∃ z, l.getD i 0 = z := ⟨_, rfl⟩
      have cz : wr.cell? (ad.add i) = some (.int .i64 z) := by
        rw [← hz]
        exact (HR.out.below HS1.bl).2 i (by rw [HLN.out]; exact hlt)
      have HS2 := hide HS1
      have HHN := hide (show i ≤ 100000 by have := HN.out; have := HLN.out; omega)
      have HTI := hide hti
      have HTK : Hid (l.take i ++ [z] = l.take (i + 1)) := hide (by rw [take_sn l i (by rw [HLN.out]; exact hlt), hz])
      have HROW := hide (HR.out.below HS1.bl)
      have HZ := hide hz
      clear HS HS1 hti hz cz
      go_wp2_with fail
      let R : Nat → Value → World → Prop := fun sl u w1 => match sl with
        | 25 => u = .pointer (some ⟨w.heap.size + 1, 8, none⟩)
        | 26 => u = .slice A i c
        | 27 => u = .slice (some ad) n cc
        | 28 => u = .int .i64 i
        | 29 => u = .pointer (some (ad.add i))
        | 30 => u = .int .i64 z
        | 31 => ∃ g, u = .slice (some ⟨g, 0, none⟩) 1 1 ∧ Blk w1 g 3 #[.int .i64 z]
        | _ => True
      refine wp_region_relT 7 R (by kernel_rfl) (by kernel_rfl) (by kernel_rfl) (by kernel_rfl) ?mono ?step ?fin
      case mono =>
        intro sl u w1 w2 h hb
        match sl with
        | 31 =>
          obtain ⟨g, h1, h2⟩ := h
          exact ⟨g, h1, h2.below hb h2.lt⟩
        | 0 | 1 | 2 | 3 | 4 | 5 | 6 | 7 | 8 | 9 | 10 | 11 | 12 | 13 | 14 | 15 | 16 | 17 | 18 | 19 | 20 | 21 | 22 | 23 | 24 | 25 | 26 | 27 | 28 | 29 | 30 | _ + 32 => exact h
      case step =>
        intro o ho
        simp only [List.take, List.mem_cons, List.not_mem_nil, or_false] at ho
        rcases ho with rfl | rfl | rfl | rfl | rfl | rfl | rfl
        · intro a w1 hb hs hr
          have e7 : a.tmps.getD 7 undef = .pointer (some ⟨w.heap.size + 1, 0, none⟩) := hs 7 (by decide)
          rw [Array.getD_eq_getD_getElem?] at e7
          unfold Oper.wp
          simp only [execOp, Act.eval, Array.getD_eq_getD_getElem?, e7]
          go_simp
          exact ⟨_, rfl, rfl, Below.refl _ _⟩
        · intro a w1 hb hs hr
          have e25 : a.tmps.getD 25 undef = .pointer (some ⟨w.heap.size + 1, 8, none⟩) := hr 25 (by decide) (by apply Array.mem_toList_iff.1; repeat (first | exact List.Mem.head _ | apply List.Mem.tail))
          have cc0 : w1.cell? ⟨w.heap.size + 1, 8, none⟩ = some (.slice A i c) := by rw [← HTI.out]; exact (HS2.out.below hb).box.cell 8
          rw [Array.getD_eq_getD_getElem?] at e25
          unfold Oper.wp
          simp only [execOp, Act.eval, Array.getD_eq_getD_getElem?, e25]
          go_simp
          exact ⟨_, rfl, rfl, Below.refl _ _⟩
        · intro a w1 hb hs hr
          have e2 : a.tmps.getD 2 undef = .slice (some ad) n cc := hs 2 (by decide)
          rw [Array.getD_eq_getD_getElem?] at e2
          unfold Oper.wp
          simp only [execOp, Act.eval, Array.getD_eq_getD_getElem?, e2]
          go_simp
          exact ⟨_, rfl, rfl, Below.refl _ _⟩
        · intro a w1 hb hs hr
          have e8 : a.tmps.getD 8 undef = .int .i64 i := hs 8 (by decide)
          rw [Array.getD_eq_getD_getElem?] at e8
          unfold Oper.wp
          simp only [execOp, Act.eval, Array.getD_eq_getD_getElem?, e8]
          go_simp
          exact ⟨_, rfl, rfl, Below.refl _ _⟩
        · intro a w1 hb hs hr
          have e27 : a.tmps.getD 27 undef = .slice (some ad) n cc := hr 27 (by decide) (by apply Array.mem_toList_iff.1; repeat (first | exact List.Mem.head _ | apply List.Mem.tail))
          have e28 : a.tmps.getD 28 undef = .int .i64 i := hr 28 (by decide) (by apply Array.mem_toList_iff.1; repeat (first | exact List.Mem.head _ | apply List.Mem.tail))
          rw [Array.getD_eq_getD_getElem?] at e27
          rw [Array.getD_eq_getD_getElem?] at e28
          unfold Oper.wp
          simp only [execOp, Act.eval, Array.getD_eq_getD_getElem?, e27, e28]
          go_simp
          exact ⟨_, rfl, rfl, Below.refl _ _⟩
        · intro a w1 hb hs hr
          have e29 : a.tmps.getD 29 undef = .pointer (some (ad.add i)) := hr 29 (by decide) (by apply Array.mem_toList_iff.1; repeat (first | exact List.Mem.head _ | apply List.Mem.tail))
          have cz : w1.cell? (ad.add i) = some (.int .i64 z) := by rw [← HZ.out]; exact (HROW.out.below hb).2 i (by rw [HLN.out]; exact hlt)
          rw [Array.getD_eq_getD_getElem?] at e29
          unfold Oper.wp
          simp only [execOp, Act.eval, Array.getD_eq_getD_getElem?, e29]
          go_simp
          exact ⟨_, rfl, rfl, Below.refl _ _⟩
        · intro a w1 hb hs hr
          have e30 : a.tmps.getD 30 undef = .int .i64 z := hr 30 (by decide) (by apply Array.mem_toList_iff.1; repeat (first | exact List.Mem.head _ | apply List.Mem.tail))
          rw [Array.getD_eq_getD_getElem?] at e30
          unfold Oper.wp
          simp only [execOp, Act.eval, Array.getD_eq_getD_getElem?, e30]
          go_simp
          exact ⟨_, rfl, ⟨w1.heap.size, rfl, Blk.new w1 3 #[.int .i64 z]⟩, (Below.refl _ _).alloc (Nat.le_refl _) _⟩
      case fin =>
        intro ff w9 hb hr
        obtain ⟨g, e31, hgb⟩ := hr 31 (by decide)
        have e26 : ff 26 = .slice A i c := hr 26 (by decide)
        obtain ⟨A1, c1, w11, hrun, hc8, hf8, hst⟩ := (HS2.out.below hb).push z g hgb (by rw [HTI.out]; exact HHN.out)
        rw [HTI.out] at hrun hc8 hst
        rw [HTK.out] at hst
        have RUN := hide hrun
        clear hr hb hgb hrun
        simp only [putAll, slotsOf, List.take, List.drop, List.filterMap_cons, List.filterMap_nil, List.foldl_cons, List.foldl_nil, Act.put, e26, e31]
        simp only [List.setIfInBounds_toArray, List.set_cons_succ, List.set_cons_zero]
        go_wp2_with (at_builtin; refine Lib.wpList_append_run _ rfl (.tmp 26) (.tmp 31) 25 25 rfl _ _ rfl rfl _ _ RUN.out ?_)
        go_roundw
        case rel => exact ⟨i + 1, A1, c1, by omega, by go_num, hst⟩
        case measure => simp [RowKit.intOf] <;> omega
set_option maxRecDepth 100000 in
set_option maxHeartbeats 8000000 in
theorem callD_reqs12 (op : Int) (l : List Int) (ad : Addr) (cc : Nat) (w : World) (h0 : 0 < l.length) (hn : l.length ≤ 1000) (hr : IRow w ad l) :
    Calls Tryd.prog 10 #[.int .u8 12, .int .u8 op, .slice (some ad) l.length cc] w fun e w' => ∃ ra rc, e = .returned (.agg (clA 12 0 0 0 0 0 0 op ra l.length rc 0 0)) ∧ RqAt w' w.heap.size ra rc l ∧ Below w.heap.size w w' := by
  obtain ⟨n, hln⟩ : ∃ n, l.length = n := ⟨_, rfl⟩
  have b2 := ((Below.refl w.heap.size w).alloc (Nat.le_refl _) (.cells (clA 0 0 0 0 0 0 0 0 none 0 0 0 0) 33)).alloc (by simp) (.cells (clA 12 0 0 0 0 0 0 op none 0 0 0 0) 33)
  have q1 := (Blk.new w 33 (clA 0 0 0 0 0 0 0 0 none 0 0 0 0)).below ((Below.refl _ _).alloc (Nat.le_refl _) (.cells (clA 12 0 0 0 0 0 0 op none 0 0 0 0) 33)) (Blk.new w _ _).lt
  have q2 := Blk.new (w.alloc (.cells (clA 0 0 0 0 0 0 0 0 none 0 0 0 0) 33)) 33 (clA 12 0 0 0 0 0 0 op none 0 0 0 0)
  rw [show (w.alloc (.cells (clA 0 0 0 0 0 0 0 0 none 0 0 0 0) 33)).heap.size = w.heap.size + 1 by simp] at q2
  have ST0 : Hid (CqSt w ((w.alloc (.cells (clA 0 0 0 0 0 0 0 0 none 0 0 0 0) 33)).alloc (.cells (clA 12 0 0 0 0 0 0 op none 0 0 0 0) 33)) 12 op none 0 (l.take 0)) := hide ⟨q1, q2, ⟨rfl, .inl ⟨rfl, rfl⟩⟩, b2, by simp⟩
  have HR := hide hr
  have HLN := hide hln
  have HN := hide hn
  have H0 := hide h0
  rw [hln]
  clear hr b2 q1 q2 hln hn h0
  unfold clA at ST0
  go_enter Tryd.func10, Tryd.ntmps10
  go_wp2_with fail
  go_loopw [8] (fun vi wr => ∃ (i : Nat) (A : Option Addr) (c : Nat), i ≤ n ∧ vi = .int .i64 i ∧ Hid (CqSt w wr 12 op A c (l.take i))) (fun vi _ => n - (RowKit.intOf vi).toNat)
  case atStart => exact ⟨0, none, 0, Nat.zero_le _, rfl, ST0⟩
  case round =>
    obtain ⟨i, A, c, hi, rfl, HS⟩ := hrel
    have hti : (l.take i).length = i := by rw [List.length_take, HLN.out]; omega
    by_cases hlt : i < n
    rotate_left
    · have hltI : ¬ (i : Int) < (n : Int) := by omega
      obtain rfl : i = n := by omega
      have htl : l.take i = l := List.take_of_length_le (Nat.le_of_eq HLN.out)
      have HS1 := HS.out
      rw [htl] at HS1
      have HB1 := HS1.box
      have HR1 : Blk wr w.heap.size 33 #[.int .u8 0, .int .i64 0, .int .i64 0, .int .i64 0, .int .i64 0, .int .i64 0, .int .i64 0, .int .u8 0, .slice none 0 0, .int .i64 0, .int .i64 0] := HS1.res
      rw [HLN.out] at HB1
      have x0 : wr.cell? ⟨w.heap.size + 1, 0, none⟩ = some (.int .u8 12) := HB1.cell 0
      have x1 : wr.cell? ⟨w.heap.size + 1, 1, none⟩ = some (.int .i64 0) := HB1.cell 1
      have x2 : wr.cell? ⟨w.heap.size + 1, 2, none⟩ = some (.int .i64 0) := HB1.cell 2
      have x3 : wr.cell? ⟨w.heap.size + 1, 3, none⟩ = some (.int .i64 0) := HB1.cell 3
      have x4 : wr.cell? ⟨w.heap.size + 1, 4, none⟩ = some (.int .i64 0) := HB1.cell 4
      have x5 : wr.cell? ⟨w.heap.size + 1, 5, none⟩ = some (.int .i64 0) := HB1.cell 5
      have x6 : wr.cell? ⟨w.heap.size + 1, 6, none⟩ = some (.int .i64 0) := HB1.cell 6
      have x7 : wr.cell? ⟨w.heap.size + 1, 7, none⟩ = some (.int .u8 op) := HB1.cell 7
      have x8 : wr.cell? ⟨w.heap.size + 1, 8, none⟩ = some (.slice A i c) := HB1.cell 8
      have x9 : wr.cell? ⟨w.heap.size + 1, 9, none⟩ = some (.int .i64 0) := HB1.cell 9
      have x10 : wr.cell? ⟨w.heap.size + 1, 10, none⟩ = some (.int .i64 0) := HB1.cell 10
      have f0 := HR1.frozen 0
      have fc0 := HR1.cell 0
      have fK0 := HR1.set_ 0 (.int .u8 12)
      have f1 := fK0.frozen 1
      have fc1 := fK0.cell 1
      have fK1 := fK0.set_ 1 (.int .i64 0)
      have f2 := fK1.frozen 2
      have fc2 := fK1.cell 2
      have fK2 := fK1.set_ 2 (.int .i64 0)
      have f3 := fK2.frozen 3
      have fc3 := fK2.cell 3
      have fK3 := fK2.set_ 3 (.int .i64 0)
      have f4 := fK3.frozen 4
      have fc4 := fK3.cell 4
      have fK4 := fK3.set_ 4 (.int .i64 0)
      have f5 := fK4.frozen 5
      have fc5 := fK4.cell 5
      have fK5 := fK4.set_ 5 (.int .i64 0)
      have f6 := fK5.frozen 6
      have fc6 := fK5.cell 6
      have fK6 := fK5.set_ 6 (.int .i64 0)
      have f7 := fK6.frozen 7
      have fc7 := fK6.cell 7
      have fK7 := fK6.set_ 7 (.int .u8 op)
      have f8 := fK7.frozen 8
      have fc8 := fK7.cell 8
      have fK8 := fK7.set_ 8 (.slice A i c)
      have f9 := fK8.frozen 9
      have fc9 := fK8.cell 9
      have fK9 := fK8.set_ 9 (.int .i64 0)
      have f10 := fK9.frozen 10
      have fc10 := fK9.cell 10
      have fK10 := fK9.set_ 10 (.int .i64 0)
      have fu0 := fK10.cell 0
      have fu1 := fK10.cell 1
      have fu2 := fK10.cell 2
      have fu3 := fK10.cell 3
      have fu4 := fK10.cell 4
      have fu5 := fK10.cell 5
      have fu6 := fK10.cell 6
      have fu7 := fK10.cell 7
      have fu8 := fK10.cell 8
      have fu9 := fK10.cell 9
      have fu10 := fK10.cell 10
      have FIN := hide (show ∃ ra rc, (Ending.returned (.agg #[.int .u8 12, .int .i64 0, .int .i64 0, .int .i64 0, .int .i64 0, .int .i64 0, .int .i64 0, .int .u8 op, .slice A i c, .int .i64 0, .int .i64 0])) = .returned (.agg (clA 12 0 0 0 0 0 0 op ra i rc 0 0)) ∧ RqAt (((((((((((wr.setCell ⟨w.heap.size, 0, none⟩ (.int .u8 12)).setCell ⟨w.heap.size, 1, none⟩ (.int .i64 0)).setCell ⟨w.heap.size, 2, none⟩ (.int .i64 0)).setCell ⟨w.heap.size, 3, none⟩ (.int .i64 0)).setCell ⟨w.heap.size, 4, none⟩ (.int .i64 0)).setCell ⟨w.heap.size, 5, none⟩ (.int .i64 0)).setCell ⟨w.heap.size, 6, none⟩ (.int .i64 0)).setCell ⟨w.heap.size, 7, none⟩ (.int .u8 op)).setCell ⟨w.heap.size, 8, none⟩ (.slice A i c)).setCell ⟨w.heap.size, 9, none⟩ (.int .i64 0)).setCell ⟨w.heap.size, 10, none⟩ (.int .i64 0)) w.heap.size ra rc l ∧ Below w.heap.size w (((((((((((wr.setCell ⟨w.heap.size, 0, none⟩ (.int .u8 12)).setCell ⟨w.heap.size, 1, none⟩ (.int .i64 0)).setCell ⟨w.heap.size, 2, none⟩ (.int .i64 0)).setCell ⟨w.heap.size, 3, none⟩ (.int .i64 0)).setCell ⟨w.heap.size, 4, none⟩ (.int .i64 0)).setCell ⟨w.heap.size, 5, none⟩ (.int .i64 0)).setCell ⟨w.heap.size, 6, none⟩ (.int .i64 0)).setCell ⟨w.heap.size, 7, none⟩ (.int .u8 op)).setCell ⟨w.heap.size, 8, none⟩ (.slice A i c)).setCell ⟨w.heap.size, 9, none⟩ (.int .i64 0)).setCell ⟨w.heap.size, 10, none⟩ (.int .i64 0)) from ⟨A, c, rfl, by
        rcases HS1.rqAt H0.out with h | ⟨g, cur, h0, h1, h2, h3, h4⟩
        · exact .inl h
        · obtain ⟨g', hA, hge, _, _⟩ := own_cell HS1.own H0.out
          have hne : g ≠ w.heap.size := by
            rw [h1] at hA
            injection hA with hA
            injection hA with hA
            omega
          exact .inr ⟨g, cur, h0, h1, h2, (((((((((((h3.far (p := ⟨w.heap.size, 0, none⟩) hne _).far (p := ⟨w.heap.size, 1, none⟩) hne _).far (p := ⟨w.heap.size, 2, none⟩) hne _).far (p := ⟨w.heap.size, 3, none⟩) hne _).far (p := ⟨w.heap.size, 4, none⟩) hne _).far (p := ⟨w.heap.size, 5, none⟩) hne _).far (p := ⟨w.heap.size, 6, none⟩) hne _).far (p := ⟨w.heap.size, 7, none⟩) hne _).far (p := ⟨w.heap.size, 8, none⟩) hne _).far (p := ⟨w.heap.size, 9, none⟩) hne _).far (p := ⟨w.heap.size, 10, none⟩) hne _), h4⟩, (((((((((((HS1.bl.setCell (p := ⟨w.heap.size, 0, none⟩) (Nat.le_refl _) _).setCell (p := ⟨w.heap.size, 1, none⟩) (Nat.le_refl _) _).setCell (p := ⟨w.heap.size, 2, none⟩) (Nat.le_refl _) _).setCell (p := ⟨w.heap.size, 3, none⟩) (Nat.le_refl _) _).setCell (p := ⟨w.heap.size, 4, none⟩) (Nat.le_refl _) _).setCell (p := ⟨w.heap.size, 5, none⟩) (Nat.le_refl _) _).setCell (p := ⟨w.heap.size, 6, none⟩) (Nat.le_refl _) _).setCell (p := ⟨w.heap.size, 7, none⟩) (Nat.le_refl _) _).setCell (p := ⟨w.heap.size, 8, none⟩) (Nat.le_refl _) _).setCell (p := ⟨w.heap.size, 9, none⟩) (Nat.le_refl _) _).setCell (p := ⟨w.heap.size, 10, none⟩) (Nat.le_refl _) _)⟩)
      clear htl HS1 HB1 HR1 fK0 fK1 fK2 fK3 fK4 fK5 fK6 fK7 fK8 fK9 fK10 HS HR HN H0 ST0 hti
      go_wp2_with fail
      exact bodyPost_ret (v := .agg #[.int .u8 12, .int .i64 0, .int .i64 0, .int .i64 0, .int .i64 0, .int .i64 0, .int .i64 0, .int .u8 op, .slice A i c, .int .i64 0, .int .i64 0]) (by simp [results, Tryd.results10, go_sem, fu0, fu1, fu2, fu3, fu4, fu5, fu6, fu7, fu8, fu9, fu10]) rfl FIN.out
    · have hltI : (i : Int) < (n : Int) := by omega
      have hs1 : IntKind.i64.wrap ((i : Int) + 1) = (i : Int) + 1 := by rw [IntKind.wrap_i64]; have := HN.out; have := HLN.out; omega
      have HS1 := HS.out
      obtain ⟨z, hz⟩ : ∃ z, l.getD i 0 = z := ⟨_, rfl⟩
      have cz : wr.cell? (ad.add i) = some (.int .i64 z) := by
        rw [← hz]
        exact (HR.out.below HS1.bl).2 i (by rw [HLN.out]; exact hlt)
      have HS2 := hide HS1
      have HHN := hide (show i ≤ 100000 by have := HN.out; have := HLN.out; omega)
      have HTI := hide hti
      have HTK : Hid (l.take i ++ [z] = l.take (i + 1)) := hide (by rw [take_sn l i (by rw [HLN.out]; exact hlt), hz])
      have HROW := hide (HR.out.below HS1.bl)
      have HZ := hide hz
      clear HS HS1 hti hz cz
      go_wp2_with fail
      let R : Nat → Value → World → Prop := fun sl u w1 => match sl with
        | 25 => u = .pointer (some ⟨w.heap.size + 1, 8, none⟩)
        | 26 => u = .slice A i c
        | 27 => u = .slice (some ad) n cc
        | 28 => u = .int .i64 i
        | 29 => u = .pointer (some (ad.add i))
        | 30 => u = .int .i64 z
        | 31 => ∃ g, u = .slice (some ⟨g, 0, none⟩) 1 1 ∧ Blk w1 g 3 #[.int .i64 z]
        | _ => True
      refine wp_region_relT 7 R (by kernel_rfl) (by kernel_rfl) (by kernel_rfl) (by kernel_rfl) ?mono ?step ?fin
      case mono =>
        intro sl u w1 w2 h hb
        match sl with
        | 31 =>
          obtain ⟨g, h1, h2⟩ := h
          exact ⟨g, h1, h2.below hb h2.lt⟩
        | 0 | 1 | 2 | 3 | 4 | 5 | 6 | 7 | 8 | 9 | 10 | 11 | 12 | 13 | 14 | 15 | 16 | 17 | 18 | 19 | 20 | 21 | 22 | 23 | 24 | 25 | 26 | 27 | 28 | 29 | 30 | _ + 32 => exact h
      case step =>
        intro o ho
        simp only [List.take, List.mem_cons, List.not_mem_nil, or_false] at ho
        rcases ho with rfl | rfl | rfl | rfl | rfl | rfl | rfl
        · intro a w1 hb hs hr
          have e7 : a.tmps.getD 7 undef = .pointer (some ⟨w.heap.size + 1, 0, none⟩) := hs 7 (by decide)
          rw [Array.getD_eq_getD_getElem?] at e7
          unfold Oper.wp
          simp only [execOp, Act.eval, Array.getD_eq_getD_getElem?, e7]
          go_simp
          exact ⟨_, rfl, rfl, Below.refl _ _⟩
        · intro a w1 hb hs hr
          have e25 : a.tmps.getD 25 undef = .pointer (some ⟨w.heap.size + 1, 8, none⟩) := hr 25 (by decide) (by apply Array.mem_toList_iff.1; repeat (first | exact List.Mem.head _ | apply List.Mem.tail))
          have cc0 : w1.cell? ⟨w.heap.size + 1, 8, none⟩ = some (.slice A i c) := by rw [← HTI.out]; exact (HS2.out.below hb).box.cell 8
          rw [Array.getD_eq_getD_getElem?] at e25
          unfold Oper.wp
          simp only [execOp, Act.eval, Array.getD_eq_getD_getElem?, e25]
          go_simp
          exact ⟨_, rfl, rfl, Below.refl _ _⟩
        · intro a w1 hb hs hr
          have e2 : a.tmps.getD 2 undef = .slice (some ad) n cc := hs 2 (by decide)
          rw [Array.getD_eq_getD_getElem?] at e2
          unfold Oper.wp
          simp only [execOp, Act.eval, Array.getD_eq_getD_getElem?, e2]
          go_simp
          exact ⟨_, rfl, rfl, Below.refl _ _⟩
        · intro a w1 hb hs hr
          have e8 : a.tmps.getD 8 undef = .int .i64 i := hs 8 (by decide)
          rw [Array.getD_eq_getD_getElem?] at e8
          unfold Oper.wp
          simp only [execOp, Act.eval, Array.getD_eq_getD_getElem?, e8]
          go_simp
          exact ⟨_, rfl, rfl, Below.refl _ _⟩
        · intro a w1 hb hs hr
          have e27 : a.tmps.getD 27 undef = .slice (some ad) n cc := hr 27 (by decide) (by apply Array.mem_toList_iff.1; repeat (first | exact List.Mem.head _ | apply List.Mem.tail))
          have e28 : a.tmps.getD 28 undef = .int .i64 i := hr 28 (by decide) (by apply Array.mem_toList_iff.1; repeat (first | exact List.Mem.head _ | apply List.Mem.tail))
          rw [Array.getD_eq_getD_getElem?] at e27
          rw [Array.getD_eq_getD_getElem?] at e28
          unfold Oper.wp
          simp only [execOp, Act.eval, Array.getD_eq_getD_getElem?, e27, e28]
          go_simp
          exact ⟨_, rfl, rfl, Below.refl _ _⟩
        · intro a w1 hb hs hr
          have e29 : a.tmps.getD 29 undef = .pointer (some (ad.add i)) := hr 29 (by decide) (by apply Array.mem_toList_iff.1; repeat (first | exact List.Mem.head _ | apply List.Mem.tail))
          have cz : w1.cell? (ad.add i) = some (.int .i64 z) := by rw [← HZ.out]; exact (HROW.out.below hb).2 i (by rw [HLN.out]; exact hlt)
          rw [Array.getD_eq_getD_getElem?] at e29
          unfold Oper.wp
          simp only [execOp, Act.eval, Array.getD_eq_getD_getElem?, e29]
          go_simp
          exact ⟨_, rfl, rfl, Below.refl _ _⟩
        · intro a w1 hb hs hr
          have e30 : a.tmps.getD 30 undef = .int .i64 z := hr 30 (by decide) (by apply Array.mem_toList_iff.1; repeat (first | exact List.Mem.head _ | apply List.Mem.tail))
          rw [Array.getD_eq_getD_getElem?] at e30
          unfold Oper.wp
          simp only [execOp, Act.eval, Array.getD_eq_getD_getElem?, e30]
          go_simp
          exact ⟨_, rfl, ⟨w1.heap.size, rfl, Blk.new w1 3 #[.int .i64 z]⟩, (Below.refl _ _).alloc (Nat.le_refl _) _⟩
      case fin =>
        intro ff w9 hb hr
        obtain ⟨g, e31, hgb⟩ := hr 31 (by decide)
        have e26 : ff 26 = .slice A i c := hr 26 (by decide)
        obtain ⟨A1, c1, w11, hrun, hc8, hf8, hst⟩ := (HS2.out.below hb).push z g hgb (by rw [HTI.out]; exact HHN.out)
        rw [HTI.out] at hrun hc8 hst
        rw [HTK.out] at hst
        have RUN := hide hrun
        clear hr hb hgb hrun
        simp only [putAll, slotsOf, List.take, List.drop, List.filterMap_cons, List.filterMap_nil, List.foldl_cons, List.foldl_nil, Act.put, e26, e31]
        simp only [List.setIfInBounds_toArray, List.set_cons_succ, List.set_cons_zero]
        go_wp2_with (at_builtin; refine Lib.wpList_append_run _ rfl (.tmp 26) (.tmp 31) 25 25 rfl _ _ rfl rfl _ _ RUN.out ?_)
        go_roundw
        case rel => exact ⟨i + 1, A1, c1, by omega, by go_num, hst⟩
        case measure => simp [RowKit.intOf] <;> omega
end
end Vm
end Go.Proofs.YtoiibphbogpojaaDoor
