/- Copy of both tables. -/
import Derived.Test.YteddfedeghchgaaRows
import Derived.Test.YteddfedeghchgaaGrpO
namespace Go.Proofs.Yteddfedeghchgaa
open Go Go.RowKit
set_option linter.unusedVariables false
set_option linter.unusedSimpArgs false
theorem run_copy_cells3 {P : Program} (w : World) (dT sT ty elem : TypeId) (b o dLen dCap : Nat) (a : Addr) (sLen sCap n : Nat) (cs : List Value)
    (hu : P.underlying dT = some (.slice elem)) (hs : (P.info? elem).map (·.size) = some 3) (hn : n = Nat.min sLen dLen) (hcl : cs.length = n * 3)
    (hsrc : ∀ j v, cs[j]? = some v → w.cell? (a.add j) = some v) (hc : ∀ j, j < cs.length → (w.cell? ⟨b, o + j, none⟩).isSome = true) (hf : ∀ j, j < cs.length → w.frozen? ⟨b, o + j, none⟩ = false) (h1 : ∀ v ∈ cs, v.oneCell' = true) :
    (Builtin.copy_ #[dT, sT] ty #[.slice (some ⟨b, o, none⟩) dLen dCap, .slice (some a) sLen sCap]).run P w = .ok (goInt n) (w.setCells b o cs) := by
  have hl := run_loadCells_list (P := P) w a cs hsrc
  rw [hcl] at hl
  have hst := run_storeCells_cells (P := P) b o cs 0 w (by simpa using hc) (by simpa using hf) h1
  cases hq : P.info? elem with
  | none => simp [hq] at hs
  | some i =>
    have hi : i.size = 3 := by simpa [hq] using hs
    simp [Builtin.copy_, run_underlying hu, Builtin.lenOf, Builtin.firstCells, sizeOf, typeInfo, hq, hi, ← hn, hl, hst]
namespace Grp
theorem heCs_one (hs : List He) : ∀ v ∈ heCs hs, v.oneCell' = true := by
  intro v hv
  obtain ⟨h, _, hv⟩ := List.mem_flatMap.1 hv
  simp only [heC, List.mem_cons, List.not_mem_nil, or_false] at hv
  rcases hv with rfl | rfl | rfl <;> rfl
theorem hgCs_one (hs : List He) : ∀ v ∈ hgCs hs, v.oneCell' = true := by
  intro v hv
  obtain ⟨h, _, hv⟩ := List.mem_flatMap.1 hv
  simp only [hgC, List.mem_cons, List.not_mem_nil, or_false] at hv
  rcases hv with rfl | rfl <;> rfl
theorem gnC_one (hs : List He) : ∀ v ∈ gnC hs, v.oneCell' = true := by
  intro v hv
  obtain ⟨h, _, rfl⟩ := List.mem_map.1 hv
  rfl
/-- Where other blocks are written: none of the table's own. -/
theorem TabA.only {w w' : World} {T B : Nat} {hs : List He} {S : List Nat} {tys : List TypeId} (h : TabA w T B hs) (hBT : B ≤ T) (ho : Only S w w') (hS : ∀ j ∈ S, j < B) (k : KeepsBut tys w w') (h4 : ¬ 3 ∈ tys) : TabA w' T B hs := by
  refine ⟨h.pos, h.le, ?_, fun i hi => ⟨IRow.keeps (h.rows i hi).1 k h4, (h.rows i hi).2⟩⟩
  obtain ⟨v, b, o⟩ := h.tab
  refine ⟨v, (ho.2 T b.lt fun hm => by have := hS T hm; omega).trans b, o.1, o.2.imp id ?_⟩
  rintro ⟨g, cap, cur, rfl, hge, hh, r⟩
  exact ⟨g, cap, cur, rfl, hge, (ho.2 g (Array.getElem?_eq_some_iff.1 hh).1 fun hm => by have := hS g hm; omega).trans hh, r⟩
set_option maxRecDepth 100000 in
set_option maxHeartbeats 4000000 in
theorem Copy_a (T B : Nat) (hs : List He) (w : World) (ht : TabA w T B hs) :
    Calls Try.prog 14 #[.pointer (some ⟨T, 0, none⟩)] w fun e w' => ∃ T', e = .returned (.pointer (some ⟨T', 0, none⟩)) ∧ w.heap.size ≤ T' ∧ TabA w' T' w.heap.size hs ∧ Below w.heap.size w w' := by
  obtain ⟨i0, hi0, hz0, hz1, hz2⟩ := info_parts handle_info
  have hpos := ht.pos
  have hle := ht.le
  have hrows := ht.rows
  obtain ⟨vr, hbT, ho⟩ := ht.tab
  obtain ⟨gr, cr, rfl, hgB, hgr⟩ := ho.form hpos
  have hTlt := hbT.lt
  have MN := hide (Many_a T (some ⟨gr, 0, none⟩) hs.length cr w (hbT.cell 0))
  have hn0 : ((hs.length : Int) == 0) = false := by
    have : ¬ (hs.length : Int) = 0 := by omega
    simpa using this
  have u0 : w.cell? ⟨T, 0, none⟩ = some (.slice (some ⟨gr, 0, none⟩) hs.length cr) := hbT.cell 0
  have MK := run_make_rowN (P := Try.prog) 58 57 i0 _ Try.underlying58 hi0 hz0 .i64 .i64 hs.length hs.length (Nat.le_refl _) (by rw [hz2]; omega) (by omega) w
  rw [hz1] at MK
  have n1 := Blk.new w 57 (madeCells (Value.agg #[.string ⟨#[]⟩, .slice none 0 0, .bool false]).cells (hs.length * 3))
  have hb1 := (Below.refl w.heap.size w).alloc (Nat.le_refl _) (.cells (madeCells (Value.agg #[.string ⟨#[]⟩, .slice none 0 0, .bool false]).cells (hs.length * 3)) 57)
  have hs1 : (w.alloc (.cells (madeCells (Value.agg #[.string ⟨#[]⟩, .slice none 0 0, .bool false]).cells (hs.length * 3)) 57)).heap.size = w.heap.size + 1 := by simp
  have hsz : (madeCells (Value.agg #[.string ⟨#[]⟩, .slice none 0 0, .bool false]).cells (hs.length * 3)).size = hs.length * 3 := size_madeCells _ _
  generalize madeCells (Value.agg #[.string ⟨#[]⟩, .slice none 0 0, .bool false]).cells (hs.length * 3) = mc at *
  obtain ⟨W1, hW1⟩ : ∃ x, w.alloc (.cells mc 57) = x := ⟨_, rfl⟩
  rw [hW1] at n1 hb1 hs1 MK
  have t2 := Blk.new W1 60 #[.slice (some ⟨w.heap.size, 0, none⟩) hs.length hs.length]
  have n2 := n1.alloc (.cells #[.slice (some ⟨w.heap.size, 0, none⟩) hs.length hs.length] 60)
  have hb2 := hb1.alloc (by omega) (.cells #[.slice (some ⟨w.heap.size, 0, none⟩) hs.length hs.length] 60)
  obtain ⟨W2, hW2⟩ : ∃ x, W1.alloc (.cells #[.slice (some ⟨w.heap.size, 0, none⟩) hs.length hs.length] 60) = x := ⟨_, rfl⟩
  rw [hW2] at t2 n2 hb2
  rw [hs1] at t2
  have hW2s := t2.lt
  have HT := hide hbT
  have HR := hide hrows
  have HN := hide (And.intro hpos (And.intro hle (And.intro hgr (And.intro hTlt hW2s))))
  have T2 := hide t2
  have N2 := hide n2
  have HB2 := hide hb2
  have HO := hide ho
  have HZ := hide hsz
  have HI := hide (And.intro hi0 hz1)
  clear ht hbT hrows hpos hle ho hgB hgr hTlt n1 n2 t2 hb1 hb2 hsz hi0 hz0 hz1 hz2 hW2s
  go_enter Try.func14, Try.ntmps14
  go_wp2_with fail
  refine MN.out.mono ?_
  rintro e w1 ⟨rfl, rfl⟩
  go_wp2_with fail
  obtain ⟨hpos, hle, hgr, hTlt, hW2s⟩ := HN.out
  let R : Nat → Value → World → Prop := fun sl u w1 => match sl with
    | 15 | 16 | 17 => u = .pointer (some ⟨w.heap.size + 1, 0, none⟩)
    | 18 => u = .slice (some ⟨w.heap.size, 0, none⟩) hs.length hs.length
    | 19 | 20 | 21 => u = .pointer (some ⟨T, 0, none⟩)
    | 22 => u = .slice (some ⟨gr, 0, none⟩) hs.length cr
    | _ => True
  refine wp_region_relT 8 R (by kernel_rfl) (by kernel_rfl) (by kernel_rfl) (by kernel_rfl) ?mono ?step ?fin
  case mono =>
    intro sl u w1 w2 h hb
    match sl with
    | 0 | 1 | 2 | 3 | 4 | 5 | 6 | 7 | 8 | 9 | 10 | 11 | 12 | 13 | 14 | 15 | 16 | 17 | 18 | 19 | 20 | 21 | 22 | _ + 23 => exact h
  case fin =>
    intro ff w9 hb hr
    have e18 : ff 18 = .slice (some ⟨w.heap.size, 0, none⟩) hs.length hs.length := hr 18 (by decide)
    have e22 : ff 22 = .slice (some ⟨gr, 0, none⟩) hs.length cr := hr 22 (by decide)
    have t9 := T2.out.below hb T2.out.lt
    have n9 := N2.out.below hb N2.out.lt
    have hb9 := HB2.out.trans (hb.mono HB2.out.size)
    have o9 := own_belowR HO.out hb9
    have CP : (Builtin.copy_ #[58, 58] 3 #[.slice (some ⟨w.heap.size, 0, none⟩) hs.length hs.length, .slice (some ⟨gr, 0, none⟩) hs.length cr]).run Try.prog w9 = .ok (goInt hs.length) (w9.setCells w.heap.size 0 (heCs hs)) :=
      run_copy_cells3 w9 58 58 3 57 w.heap.size 0 hs.length hs.length ⟨gr, 0, none⟩ hs.length cr hs.length (heCs hs) Try.underlying58 (by rw [HI.out.1]; simp [HI.out.2]) (Nat.min_self _).symm (heCs_len hs)
        (o9.cells (g := gr) rfl) (fun j hj => by rw [heCs_len] at hj; rw [Nat.zero_add, n9.cell]; have := HZ.out; simp; omega) (fun j hj => by rw [Nat.zero_add]; exact n9.frozen j) (heCs_one hs)
    have t10 := setCells_far (by omega : w.heap.size + 1 ≠ w.heap.size) (heCs hs) 0 t9
    have n10 := setAll_blk (heCs hs) 0 n9
    rw [setAll_whole (heCs hs) mc (by rw [heCs_len]; exact HZ.out.symm)] at n10
    have hb10 := below_setCells (Nat.le_refl w.heap.size) (heCs hs) 0 hb9
    have FIN : Hid (TabA (w9.setCells w.heap.size 0 (heCs hs)) (w.heap.size + 1) w.heap.size hs ∧ Below w.heap.size w (w9.setCells w.heap.size 0 (heCs hs))) := hide ⟨⟨hpos, hle, ⟨_, t10, by rw [heCs_len], .inr ⟨w.heap.size, hs.length, _, rfl, Nat.le_refl _, n10, Nat.le_refl _, by unfold maxLen; omega, by rw [List.size_toArray, heCs_len], by rw [← heCs_len, List.take_length]⟩⟩, fun i hi => ⟨(HR.out i hi).1.below hb10, (HR.out i hi).2⟩⟩, hb10⟩
    obtain ⟨w10, hw10⟩ : ∃ x, w9.setCells w.heap.size 0 (heCs hs) = x := ⟨_, rfl⟩
    rw [hw10] at FIN CP
    clear hr hb t9 n9 hb9 o9 t10 n10 hb10 hpos hle hgr hTlt hW2s hw10
    simp only [putAll, slotsOf, List.take, List.drop, List.filterMap_cons, List.filterMap_nil, List.foldl_cons, List.foldl_nil, Act.put, e18, e22]
    simp only [List.setIfInBounds_toArray, List.set_cons_succ, List.set_cons_zero]
    go_wp2_with fail
    go_ret
    refine ⟨_, ?_, ?_, FIN.out.1, FIN.out.2⟩
    · rfl
    · omega
  case step =>
    intro o ho
    simp only [List.take, List.mem_cons, List.not_mem_nil, or_false] at ho
    rcases ho with rfl | rfl | rfl | rfl | rfl | rfl | rfl | rfl
    · intro a w1 hb hsm hr
      have e3 : a.tmps.getD 3 undef = .pointer (some ⟨w.heap.size + 1, 0, none⟩) := hsm 3 (by decide)
      rw [Array.getD_eq_getD_getElem?] at e3
      unfold Oper.wp
      simp only [execOp, Act.eval, Array.getD_eq_getD_getElem?, e3]
      go_simp
      exact ⟨_, rfl, rfl, Below.refl _ _⟩
    · intro a w1 hb hsm hr
      have e15 : a.tmps.getD 15 undef = .pointer (some ⟨w.heap.size + 1, 0, none⟩) := hr 15 (by decide) (by apply Array.mem_toList_iff.1; repeat (first | exact List.Mem.head _ | apply List.Mem.tail))
      rw [Array.getD_eq_getD_getElem?] at e15
      unfold Oper.wp
      simp only [execOp, Act.eval, Array.getD_eq_getD_getElem?, e15]
      go_simp
      exact ⟨_, rfl, rfl, Below.refl _ _⟩
    · intro a w1 hb hsm hr
      have e16 : a.tmps.getD 16 undef = .pointer (some ⟨w.heap.size + 1, 0, none⟩) := hr 16 (by decide) (by apply Array.mem_toList_iff.1; repeat (first | exact List.Mem.head _ | apply List.Mem.tail))
      rw [Array.getD_eq_getD_getElem?] at e16
      unfold Oper.wp
      simp only [execOp, Act.eval, Array.getD_eq_getD_getElem?, e16]
      go_simp
      exact ⟨_, rfl, rfl, Below.refl _ _⟩
    · intro a w1 hb hsm hr
      have e17 : a.tmps.getD 17 undef = .pointer (some ⟨w.heap.size + 1, 0, none⟩) := hr 17 (by decide) (by apply Array.mem_toList_iff.1; repeat (first | exact List.Mem.head _ | apply List.Mem.tail))
      have c1 : w1.cell? ⟨w.heap.size + 1, 0, none⟩ = some (.slice (some ⟨w.heap.size, 0, none⟩) hs.length hs.length) := (T2.out.below hb T2.out.lt).cell 0
      rw [Array.getD_eq_getD_getElem?] at e17
      unfold Oper.wp
      simp only [execOp, Act.eval, Array.getD_eq_getD_getElem?, e17]
      go_simp
      exact ⟨_, rfl, rfl, Below.refl _ _⟩
    · intro a w1 hb hsm hr
      have e0 : a.tmps.getD 0 undef = .pointer (some ⟨T, 0, none⟩) := hsm 0 (by decide)
      rw [Array.getD_eq_getD_getElem?] at e0
      unfold Oper.wp
      simp only [execOp, Act.eval, Array.getD_eq_getD_getElem?, e0]
      go_simp
      exact ⟨_, rfl, rfl, Below.refl _ _⟩
    · intro a w1 hb hsm hr
      have e19 : a.tmps.getD 19 undef = .pointer (some ⟨T, 0, none⟩) := hr 19 (by decide) (by apply Array.mem_toList_iff.1; repeat (first | exact List.Mem.head _ | apply List.Mem.tail))
      rw [Array.getD_eq_getD_getElem?] at e19
      unfold Oper.wp
      simp only [execOp, Act.eval, Array.getD_eq_getD_getElem?, e19]
      go_simp
      exact ⟨_, rfl, rfl, Below.refl _ _⟩
    · intro a w1 hb hsm hr
      have e20 : a.tmps.getD 20 undef = .pointer (some ⟨T, 0, none⟩) := hr 20 (by decide) (by apply Array.mem_toList_iff.1; repeat (first | exact List.Mem.head _ | apply List.Mem.tail))
      rw [Array.getD_eq_getD_getElem?] at e20
      unfold Oper.wp
      simp only [execOp, Act.eval, Array.getD_eq_getD_getElem?, e20]
      go_simp
      exact ⟨_, rfl, rfl, Below.refl _ _⟩
    · intro a w1 hb hsm hr
      have e21 : a.tmps.getD 21 undef = .pointer (some ⟨T, 0, none⟩) := hr 21 (by decide) (by apply Array.mem_toList_iff.1; repeat (first | exact List.Mem.head _ | apply List.Mem.tail))
      have c1 : w1.cell? ⟨T, 0, none⟩ = some (.slice (some ⟨gr, 0, none⟩) hs.length cr) := ((HT.out.below HB2.out HT.out.lt).below hb (by omega)).cell 0
      rw [Array.getD_eq_getD_getElem?] at e21
      unfold Oper.wp
      simp only [execOp, Act.eval, Array.getD_eq_getD_getElem?, e21]
      go_simp
      exact ⟨_, rfl, rfl, Below.refl _ _⟩
set_option maxRecDepth 100000 in
set_option maxHeartbeats 4000000 in
theorem Copy_bt (U B : Nat) (hs : List He) (w : World) (ht : TabB w U B hs) :
    Calls Try.prog 15 #[.pointer (some ⟨U, 0, none⟩)] w fun e w' => ∃ U', e = .returned (.pointer (some ⟨U', 0, none⟩)) ∧ w.heap.size ≤ U' ∧ TabB w' U' w.heap.size hs ∧ Below w.heap.size w w' := by
  obtain ⟨i0, hi0, hz0, hz1, hz2⟩ := info_parts group_info
  have HI := hide (And.intro hi0 (And.intro hz0 (And.intro hz1 hz2)))
  obtain ⟨j0, hj0, hy0, hy1, hy2⟩ := info_parts bool_info
  have HJ := hide (And.intro hj0 (And.intro hy0 (And.intro hy1 hy2)))
  clear hi0 hz0 hz1 hz2 hj0 hy0 hy1 hy2
  have hpos := ht.pos
  have hle := ht.le
  have hrows := ht.rows
  obtain ⟨vr, vs, hbT, ho, ho2⟩ := ht.tab
  obtain ⟨gr, cr, rfl, hgB, hgr⟩ := ho.form hpos
  obtain ⟨g2, c2, rfl, hgB2, hgr2⟩ := ho2.form hpos
  have HT := hide hbT
  have HR := hide hrows
  have HN := hide (And.intro hpos hle)
  have HO := hide ho
  have HO2 := hide ho2
  clear ht hbT hrows hpos hle ho ho2 hgB hgr hgB2 hgr2
  go_enter Try.func15, Try.ntmps15
  go_wp2_with fail
  let R : Nat → Value → World → Prop := fun sl u w1 => match sl with
    | 3 => ∃ g, u = .slice (some ⟨g, 0, none⟩) 0 0 ∧ w.heap.size ≤ g ∧ Blk w1 g 24 #[]
    | 9 => ∃ g, u = .slice (some ⟨g, 0, none⟩) 0 0 ∧ w.heap.size ≤ g ∧ Blk w1 g 4 #[]
    | 4 | 5 | 6 | 10 | 11 => u = .pointer (some ⟨U, 0, none⟩)
    | 12 => u = .pointer (some ⟨U, 1, none⟩)
    | 7 => u = .slice (some ⟨gr, 0, none⟩) hs.length cr
    | 13 => u = .slice (some ⟨g2, 0, none⟩) hs.length c2
    | 8 => w1.ownsRow w.heap.size 24 2 u hs.length (hgCs hs)
    | 14 => w1.ownsRow w.heap.size 4 1 u hs.length (gnC hs)
    | 15 => ∃ v v', u = .agg #[v, v'] ∧ w1.ownsRow w.heap.size 24 2 v hs.length (hgCs hs) ∧ w1.ownsRow w.heap.size 4 1 v' hs.length (gnC hs)
    | 16 | 2 => ∃ U' v v', u = .pointer (some ⟨U', 0, none⟩) ∧ w.heap.size ≤ U' ∧ Blk w1 U' 53 #[v, v'] ∧ w1.ownsRow w.heap.size 24 2 v hs.length (hgCs hs) ∧ w1.ownsRow w.heap.size 4 1 v' hs.length (gnC hs)
    | _ => True
  refine wp_region_rel R (by kernel_rfl) (by kernel_rfl) (by kernel_rfl) ?mono ?step ?fin
  case mono =>
    intro sl u w1 w2 h hb
    match sl with
    | 3 | 9 =>
      obtain ⟨g, h1, h2, h3⟩ := h
      exact ⟨g, h1, h2, h3.below hb h3.lt⟩
    | 8 | 14 => exact own_belowR h hb
    | 15 =>
      obtain ⟨v, v', h1, h2, h3⟩ := h
      exact ⟨v, v', h1, own_belowR h2 hb, own_belowR h3 hb⟩
    | 16 | 2 =>
      obtain ⟨U', v, v', h1, h2, h3, h4, h5⟩ := h
      exact ⟨U', v, v', h1, h2, h3.below hb h3.lt, own_belowR h4 hb, own_belowR h5 hb⟩
    | 0 | 1 | 4 | 5 | 6 | 7 | 10 | 11 | 12 | 13 | _ + 17 => exact h
  case fin =>
    intro ff w9 hb hr
    obtain ⟨U', v, v', e2, hU, hbk, ho, ho2⟩ := hr 2 (by decide)
    have hbk : Blk w9 U' 53 #[v, v'] := hbk
    have ho : w9.ownsRow w.heap.size 24 2 v hs.length (hgCs hs) := ho
    have ho2 : w9.ownsRow w.heap.size 4 1 v' hs.length (gnC hs) := ho2
    have FIN := hide (And.intro hU (And.intro (⟨HN.out.1, HN.out.2, ⟨_, _, hbk, ho, ho2⟩, fun i hi => ⟨(HR.out i hi).1.below hb, (HR.out i hi).2⟩⟩ : TabB w9 U' w.heap.size hs) hb))
    clear hr hb hbk ho ho2 hU
    simp only [putAll, slotsOf, List.take, List.drop, List.filterMap_cons, List.filterMap_nil, List.foldl_cons, List.foldl_nil, Act.put, e2]
    simp only [List.setIfInBounds_toArray, List.set_cons_succ, List.set_cons_zero]
    go_wp2_with fail
    go_ret
    exact ⟨_, rfl, FIN.out.1, FIN.out.2.1, FIN.out.2.2⟩
  case step =>
    intro o ho
    simp only [List.mem_cons, List.not_mem_nil, or_false] at ho
    rcases ho with rfl | rfl | rfl | rfl | rfl | rfl | rfl | rfl | rfl | rfl | rfl | rfl | rfl | rfl | rfl
    · intro a w1 hb hsm hr
      unfold Oper.wp
      simp only [execOp, Act.eval, Array.getD_eq_getD_getElem?]
      go_simp
      exact ⟨_, rfl, ⟨w1.heap.size, rfl, hb.size, Blk.new w1 24 #[]⟩, (Below.refl _ _).alloc (Nat.le_refl _) _⟩
    · intro a w1 hb hsm hr
      have e0 : a.tmps.getD 0 undef = .pointer (some ⟨U, 0, none⟩) := hsm 0 (by decide)
      rw [Array.getD_eq_getD_getElem?] at e0
      unfold Oper.wp
      simp only [execOp, Act.eval, Array.getD_eq_getD_getElem?, e0]
      go_simp
      exact ⟨_, rfl, rfl, Below.refl _ _⟩
    · intro a w1 hb hsm hr
      have e4 : a.tmps.getD 4 undef = .pointer (some ⟨U, 0, none⟩) := hr 4 (by decide) (by apply Array.mem_toList_iff.1; repeat (first | exact List.Mem.head _ | apply List.Mem.tail))
      rw [Array.getD_eq_getD_getElem?] at e4
      unfold Oper.wp
      simp only [execOp, Act.eval, Array.getD_eq_getD_getElem?, e4]
      go_simp
      exact ⟨_, rfl, rfl, Below.refl _ _⟩
    · intro a w1 hb hsm hr
      have e5 : a.tmps.getD 5 undef = .pointer (some ⟨U, 0, none⟩) := hr 5 (by decide) (by apply Array.mem_toList_iff.1; repeat (first | exact List.Mem.head _ | apply List.Mem.tail))
      rw [Array.getD_eq_getD_getElem?] at e5
      unfold Oper.wp
      simp only [execOp, Act.eval, Array.getD_eq_getD_getElem?, e5]
      go_simp
      exact ⟨_, rfl, rfl, Below.refl _ _⟩
    · intro a w1 hb hsm hr
      have e6 : a.tmps.getD 6 undef = .pointer (some ⟨U, 0, none⟩) := hr 6 (by decide) (by apply Array.mem_toList_iff.1; repeat (first | exact List.Mem.head _ | apply List.Mem.tail))
      have c1 : w1.cell? ⟨U, 0, none⟩ = some (.slice (some ⟨gr, 0, none⟩) hs.length cr) := (HT.out.below hb HT.out.lt).cell 0
      rw [Array.getD_eq_getD_getElem?] at e6
      unfold Oper.wp
      simp only [execOp, Act.eval, Array.getD_eq_getD_getElem?, e6]
      go_simp
      exact ⟨_, rfl, rfl, Below.refl _ _⟩
    · intro a w1 hb hsm hr
      have e3 : ∃ g, a.tmps.getD 3 undef = .slice (some ⟨g, 0, none⟩) 0 0 ∧ w.heap.size ≤ g ∧ Blk w1 g 24 #[] := hr 3 (by decide) (by apply Array.mem_toList_iff.1; repeat (first | exact List.Mem.head _ | apply List.Mem.tail))
      have e7 : a.tmps.getD 7 undef = .slice (some ⟨gr, 0, none⟩) hs.length cr := hr 7 (by decide) (by apply Array.mem_toList_iff.1; repeat (first | exact List.Mem.head _ | apply List.Mem.tail))
      obtain ⟨g, e3', hg, hbg⟩ := e3
      obtain ⟨hi0, hz0, hz1, hz2⟩ := HI.out
      obtain ⟨v', w'', hrun, hown', hbw⟩ := run_append_empty (P := Try.prog) w1 w.heap.size 50 50 24 _ _ 2 40 Try.underlying50 hi0 hz0 hz1 hz2 (by rfl) g hbg hg hb.size w1.heap.size (some ⟨gr, 0, none⟩) hs.length cr (hgCs hs) (Reads.of_own (own_belowR HO.out hb)) (hgCs_one hs) (by have := HN.out.2; omega) (by omega)
      exact Lib.wp_append_run w1 (.tmp 3) (.tmp 7) 50 50 rfl _ _ e3' e7 v' w'' hrun ⟨v', rfl, fun t ht => by cases ht; exact hown', hbw⟩
    · intro a w1 hb hsm hr
      unfold Oper.wp
      simp only [execOp, Act.eval, Array.getD_eq_getD_getElem?]
      go_simp
      exact ⟨_, rfl, ⟨w1.heap.size, rfl, hb.size, Blk.new w1 4 #[]⟩, (Below.refl _ _).alloc (Nat.le_refl _) _⟩
    · intro a w1 hb hsm hr
      have e0 : a.tmps.getD 0 undef = .pointer (some ⟨U, 0, none⟩) := hsm 0 (by decide)
      rw [Array.getD_eq_getD_getElem?] at e0
      unfold Oper.wp
      simp only [execOp, Act.eval, Array.getD_eq_getD_getElem?, e0]
      go_simp
      exact ⟨_, rfl, rfl, Below.refl _ _⟩
    · intro a w1 hb hsm hr
      have e10 : a.tmps.getD 10 undef = .pointer (some ⟨U, 0, none⟩) := hr 10 (by decide) (by apply Array.mem_toList_iff.1; repeat (first | exact List.Mem.head _ | apply List.Mem.tail))
      rw [Array.getD_eq_getD_getElem?] at e10
      unfold Oper.wp
      simp only [execOp, Act.eval, Array.getD_eq_getD_getElem?, e10]
      go_simp
      exact ⟨_, rfl, rfl, Below.refl _ _⟩
    · intro a w1 hb hsm hr
      have e11 : a.tmps.getD 11 undef = .pointer (some ⟨U, 0, none⟩) := hr 11 (by decide) (by apply Array.mem_toList_iff.1; repeat (first | exact List.Mem.head _ | apply List.Mem.tail))
      rw [Array.getD_eq_getD_getElem?] at e11
      unfold Oper.wp
      simp only [execOp, Act.eval, Array.getD_eq_getD_getElem?, e11]
      go_simp
      exact ⟨_, rfl, rfl, Below.refl _ _⟩
    · intro a w1 hb hsm hr
      have e12 : a.tmps.getD 12 undef = .pointer (some ⟨U, 1, none⟩) := hr 12 (by decide) (by apply Array.mem_toList_iff.1; repeat (first | exact List.Mem.head _ | apply List.Mem.tail))
      have c1 : w1.cell? ⟨U, 1, none⟩ = some (.slice (some ⟨g2, 0, none⟩) hs.length c2) := (HT.out.below hb HT.out.lt).cell 1
      rw [Array.getD_eq_getD_getElem?] at e12
      unfold Oper.wp
      simp only [execOp, Act.eval, Array.getD_eq_getD_getElem?, e12]
      go_simp
      exact ⟨_, rfl, rfl, Below.refl _ _⟩
    · intro a w1 hb hsm hr
      have e9 : ∃ g, a.tmps.getD 9 undef = .slice (some ⟨g, 0, none⟩) 0 0 ∧ w.heap.size ≤ g ∧ Blk w1 g 4 #[] := hr 9 (by decide) (by apply Array.mem_toList_iff.1; repeat (first | exact List.Mem.head _ | apply List.Mem.tail))
      have e13 : a.tmps.getD 13 undef = .slice (some ⟨g2, 0, none⟩) hs.length c2 := hr 13 (by decide) (by apply Array.mem_toList_iff.1; repeat (first | exact List.Mem.head _ | apply List.Mem.tail))
      obtain ⟨g, e9', hg, hbg⟩ := e9
      obtain ⟨hi0, hz0, hz1, hz2⟩ := HJ.out
      obtain ⟨v', w'', hrun, hown', hbw⟩ := run_append_empty (P := Try.prog) w1 w.heap.size 51 51 4 _ _ 1 1 Try.underlying51 hi0 hz0 hz1 hz2 (by rfl) g hbg hg hb.size w1.heap.size (some ⟨g2, 0, none⟩) hs.length c2 (gnC hs) (Reads.of_own (own_belowR HO2.out hb)) (gnC_one hs) (by have := HN.out.2; omega) (by omega)
      exact Lib.wp_append_run w1 (.tmp 9) (.tmp 13) 51 51 rfl _ _ e9' e13 v' w'' hrun ⟨v', rfl, fun t ht => by cases ht; exact hown', hbw⟩
    · intro a w1 hb hsm hr
      have e8 : w1.ownsRow w.heap.size 24 2 (a.tmps.getD 8 undef) hs.length (hgCs hs) := hr 8 (by decide) (by apply Array.mem_toList_iff.1; repeat (first | exact List.Mem.head _ | apply List.Mem.tail))
      have e14 : w1.ownsRow w.heap.size 4 1 (a.tmps.getD 14 undef) hs.length (gnC hs) := hr 14 (by decide) (by apply Array.mem_toList_iff.1; repeat (first | exact List.Mem.head _ | apply List.Mem.tail))
      obtain ⟨a8, c8, e8'⟩ := own_form e8
      obtain ⟨a14, c14, e14'⟩ := own_form e14
      rw [e8'] at e8
      rw [e14'] at e14
      rw [Array.getD_eq_getD_getElem?] at e8' e14'
      unfold Oper.wp
      simp only [execOp, Act.eval, Array.getD_eq_getD_getElem?, e8', e14']
      go_simp
      exact ⟨_, rfl, ⟨_, _, rfl, e8, e14⟩, Below.refl _ _⟩
    · intro a w1 hb hsm hr
      have e15 : ∃ v v', a.tmps.getD 15 undef = .agg #[v, v'] ∧ w1.ownsRow w.heap.size 24 2 v hs.length (hgCs hs) ∧ w1.ownsRow w.heap.size 4 1 v' hs.length (gnC hs) := hr 15 (by decide) (by apply Array.mem_toList_iff.1; repeat (first | exact List.Mem.head _ | apply List.Mem.tail))
      obtain ⟨v, v', e15', h1, h2⟩ := e15
      obtain ⟨a8, c8, rfl⟩ := own_form h1
      obtain ⟨a14, c14, rfl⟩ := own_form h2
      rw [Array.getD_eq_getD_getElem?] at e15'
      unfold Oper.wp
      simp only [execOp, Act.eval, Array.getD_eq_getD_getElem?, e15']
      go_simp
      have hbn := (Below.refl w1.heap.size w1).alloc (Nat.le_refl _) (.cells #[.slice a8 hs.length c8, .slice a14 hs.length c14] 53)
      exact ⟨_, rfl, ⟨w1.heap.size, _, _, rfl, hb.size, Blk.new w1 53 _, own_belowR h1 hbn, own_belowR h2 hbn⟩, hbn⟩
    · intro a w1 hb hsm hr
      have e16 : ∃ U' v v', a.tmps.getD 16 undef = .pointer (some ⟨U', 0, none⟩) ∧ w.heap.size ≤ U' ∧ Blk w1 U' 53 #[v, v'] ∧ w1.ownsRow w.heap.size 24 2 v hs.length (hgCs hs) ∧ w1.ownsRow w.heap.size 4 1 v' hs.length (gnC hs) := hr 16 (by decide) (by apply Array.mem_toList_iff.1; repeat (first | exact List.Mem.head _ | apply List.Mem.tail))
      obtain ⟨U', v, v', e16', h1, h2, h3, h4⟩ := e16
      rw [Array.getD_eq_getD_getElem?] at e16'
      unfold Oper.wp
      simp only [execOp, Act.eval, Array.getD_eq_getD_getElem?, e16']
      go_simp
      exact ⟨_, rfl, ⟨U', v, v', rfl, h1, h2, h3, h4⟩, Below.refl _ _⟩
end Grp
end Go.Proofs.Yteddfedeghchgaa
