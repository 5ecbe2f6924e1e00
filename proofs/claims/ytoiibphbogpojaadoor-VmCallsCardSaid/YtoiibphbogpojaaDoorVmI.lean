/- The table of the sides; a new rank, of a code without arrays. -/
import Derived.Test.YtoiibphbogpojaaDoorRows
import Derived.Test.YtoiibphbogpojaaDoorVmH
import Derived.Test.YtoiibphbogpojaaDoorCodH
namespace Go.Proofs.YtoiibphbogpojaaDoor
open Go Go.RowKit Go.Lib Go.Proofs.YtoiibphbogpojaaDoor.Cod
set_option linter.unusedVariables false
set_option linter.unusedSimpArgs false
namespace Vm
def sdCs : Array Value := (sdF.map fun f => Value.func (.func f) #[] #[]).toArray
theorem sdCs_at {k : Nat} (h : k < 11) : sdCs[k]? = some (.func (.func (sdF.getD k 0)) #[] #[]) := by
  have : ∀ j, j < 11 → sdCs[j]? = some (.func (.func (sdF.getD j 0)) #[] #[])
    | 0, _ | 1, _ | 2, _ | 3, _ | 4, _ | 5, _ | 6, _ | 7, _ | 8, _ | 9, _ | 10, _ => rfl
    | _ + 11, h => absurd h (by omega)
  exact this k h
set_option maxRecDepth 100000 in
set_option maxHeartbeats 4000000 in
theorem sides_c (w : World) : Calls Tryd.prog 14 #[] w fun e w' => e = .returned (.pointer (some ⟨w.heap.size, 0, none⟩)) ∧ w' = w.alloc (.cells sdCs 67) := by
  go_enter Tryd.func14, Tryd.ntmps14
  go_wp2_with fail
  go_ret
  exact ⟨rfl, rfl⟩
def intZ (n : Nat) : Array Value := madeCells (Value.int .i64 0).cells (n * 1)
theorem intZ_at {n i : Nat} (h : i < n) : (intZ n)[i]? = some (.int .i64 0) := by
  unfold intZ
  rw [Array.getElem?_eq_getElem (by rw [size_madeCells]; omega)]
  simp [madeCells, Value.cells, Nat.mod_one]
theorem mk64 (n : Nat) (hn : n ≤ 1000000) (W : World) : (Instr.makeSlice 42 (.int .i64 n) (.int .i64 n)).run Tryd.prog W = .ok (.slice (some ⟨W.heap.size, 0, none⟩) n n) (W.alloc (.cells (intZ n) 2)) := by
  obtain ⟨i0, hi0, hz0, hz1, hz2⟩ := info_parts i64_info
  have h := run_make_rowN (P := Tryd.prog) 42 2 i0 (.int .i64 0) Tryd.underlying42 hi0 hz0 .i64 .i64 n n (Nat.le_refl _) (by rw [hz2]; omega) (by omega) W
  rw [hz1] at h
  exact h
/-- A new rank, as it lies. -/
def nwR (h n sb vb V : Nat) : Rk := ⟨.slice (some ⟨h, 0, none⟩) n n, .int .i64 V, .slice none 0 0, .slice none 0 0, .pointer (some ⟨sb, 0, none⟩), .int .i64 0, .int .i64 1, .int .u8 0, .int .u8 0, .int .i64 0, .slice none 0 0, .slice (some ⟨vb, 0, none⟩) V V, .slice none 0 0,
  .bool false, .int .i64 0, .int .i64 0, .int .i64 0, .int .i64 0, .int .i64 0, .int .i64 0, .slice none 0 0,
  .int .u8 0, .int .i64 0, .int .i64 0, .int .i64 0, .int .i64 0, .int .i64 0, .int .i64 0, .int .u8 0, .slice none 0 0, .int .i64 0, .int .i64 0⟩
/-- What New leaves. -/
def NewPost (w : World) (vals : List Value) (n V : Nat) (e : Ending) (w' : World) : Prop := ∃ (r h sb vb : Nat) (cur : Array Value) (ce : Value), e = .returned (.tuple #[.pointer (some ⟨r, 0, none⟩), .int .i64 0]) ∧ Blk w' r 55 (rkA { nwR h n sb vb V with ce := ce }) ∧ (Blk w' h 23 cur ∧ (∀ (j : Nat) (v : Value), vals[j]? = some v → cur[j]? = some v)) ∧ Blk w' sb 67 sdCs ∧ Blk w' vb 2 (intZ V) ∧ w.heap.size ≤ r ∧ w.heap.size ≤ vb ∧ Below w.heap.size w w'
set_option maxRecDepth 100000 in
set_option maxHeartbeats 8000000 in
theorem New_c (g n cc V : Nat) (cs : List In) (hs : List Int) (w : World) (hnn : cs.length = n) (hn : n ≤ 1000) (h0 : 0 < n) (hV : V ≤ 1000) (hC : CodeAt w (some ⟨g, 0, none⟩) cs) (H : Ops w)
    (vals : List Value) (hl : vals.length = n * 2) (h1 : ∀ v ∈ vals, v.oneCell' = true) (hg : g < w.heap.size) (hc : ∀ (j : Nat) (v : Value), vals[j]? = some v → w.cell? ⟨g, j, none⟩ = some v)
    (hM : ∀ r, HtR cs V [] r → r.isSome = true) :
    Calls Tryd.prog 5 #[.agg #[.slice (some ⟨g, 0, none⟩) n cc, .int .i64 V, .slice none 0 0], .int .i64 0, .int .i64 1] w fun e w' => NewPost w vals n V e w' := by
  have bq0 := Blk.new w 27 #[.slice (some ⟨g, 0, none⟩) n cc, .int .i64 V, .slice none 0 0]
  have hq0 : Below w.heap.size w (w.alloc (.cells #[.slice (some ⟨g, 0, none⟩) n cc, .int .i64 V, .slice none 0 0] 27)) := (Below.refl _ _).alloc (Nat.le_refl _) _
  have p0 := bq0.cell 0
  have p1 := bq0.cell 1
  have p2 := bq0.cell 2
  obtain ⟨wa, hwa⟩ : ∃ y, w.alloc (.cells #[.slice (some ⟨g, 0, none⟩) n cc, .int .i64 V, .slice none 0 0] 27) = y := ⟨_, rfl⟩
  rw [hwa] at bq0 hq0 p0 p1 p2
  have MAY : Hid (∀ w9, Below w.heap.size w w9 → Calls Tryd.prog 12 #[.agg #[.slice (some ⟨g, 0, none⟩) n cc, .int .i64 V, .slice none 0 0]] w9 fun e w' => e = .returned (.bool true) ∧ Below w9.heap.size w9 w') := hide (fun w9 hb => by
    have := May_c (some ⟨g, 0, none⟩) cc cs V none 0 [] w9 (hC.below hb) (fun h => absurd h (by simp)) (by omega) (by simp) (H.below hb (Nat.le_refl _))
    rw [hnn] at this
    refine this.mono ?_
    rintro e w' ⟨⟨r, hr, rfl⟩, hb'⟩
    exact ⟨by rw [hM r hr], hb'⟩)
  have CPY : Hid (∀ w9, Below w.heap.size w w9 → Calls Tryd.prog 13 #[.agg #[.slice (some ⟨g, 0, none⟩) n cc, .int .i64 V, .slice none 0 0]] w9 fun e w' => ∃ (h : Nat) (cur : Array Value), e = .returned (.agg #[.slice (some ⟨h, 0, none⟩) n n, .int .i64 V, .slice none 0 0]) ∧ w9.heap.size ≤ h ∧ Blk w' h 23 cur ∧ (∀ (j : Nat) (v : Value), vals[j]? = some v → cur[j]? = some v) ∧ Below w9.heap.size w9 w') := hide (fun w9 hb =>
    CopyP_c g n cc V vals w9 hn h0 hl h1 (Nat.lt_of_lt_of_le hg hb.size) (fun j v hv => (World.cell?_of_block (w := w) (a := ⟨g, j, none⟩) (hb.block g hg)).trans (hc j v hv)))
  have MKV := hide (fun W => mk64 V (by omega) W)
  have MK0 : Hid (∀ W, (Instr.makeSlice 42 (.int .i64 0) (.int .i64 0)).run Tryd.prog W = .ok (.slice (some ⟨W.heap.size, 0, none⟩) 0 0) (W.alloc (.cells (intZ 0) 2))) := hide (fun W => mk64 0 (by omega) W)
  have HB0 := hide hq0
  have BQ0 := hide bq0
  clear hC H hl h1 hc hM hq0 bq0 hnn
  go_enter Tryd.func5, Tryd.ntmps5
  go_wp2_with fail
  clear hwa
  refine (MAY.out wa HB0.out).mono ?_
  rintro e wq ⟨rfl, hb1⟩
  have BQ := hide (BQ0.out.below hb1 BQ0.out.lt)
  have HBQ := hide (HB0.out.trans (hb1.mono HB0.out.size))
  obtain ⟨bp, hbp⟩ : ∃ y, w.heap.size = y := ⟨_, rfl⟩
  have HBP := hide hbp
  rw [hbp] at BQ
  clear hb1 p0 p1 p2 HB0 BQ0
  go_wp2_with fail
  clear hbp
  let R : Nat → Value → World → Prop := fun sl u w1 => match sl with
    | 30 => u = .agg #[.slice (some ⟨g, 0, none⟩) n cc, .int .i64 V, .slice none 0 0]
    | 31 => ∃ (h : Nat) (cur : Array Value), u = .agg #[.slice (some ⟨h, 0, none⟩) n n, .int .i64 V, .slice none 0 0] ∧ wq.heap.size ≤ h ∧ Blk w1 h 23 cur ∧ (∀ (j : Nat) (v : Value), vals[j]? = some v → cur[j]? = some v)
    | 32 => ∃ sb, u = .pointer (some ⟨sb, 0, none⟩) ∧ wq.heap.size ≤ sb ∧ Blk w1 sb 67 sdCs
    | 33 => u = .int .i64 0
    | 34 => u = .int .i64 1
    | 35 => u = .pointer (some ⟨bp, 1, none⟩)
    | 36 => u = .int .i64 V
    | 37 => ∃ vb, u = .slice (some ⟨vb, 0, none⟩) V V ∧ wq.heap.size ≤ vb ∧ Blk w1 vb 2 (intZ V)
    | 38 => ∃ (h sb vb : Nat) (cur : Array Value), u = .agg (rkA (nwR h n sb vb V)) ∧ (Blk w1 h 23 cur ∧ (∀ (j : Nat) (v : Value), vals[j]? = some v → cur[j]? = some v)) ∧ Blk w1 sb 67 sdCs ∧ Blk w1 vb 2 (intZ V) ∧ wq.heap.size ≤ vb
    | 39 => ∃ (r h sb vb : Nat) (cur : Array Value), u = .pointer (some ⟨r, 0, none⟩) ∧ Blk w1 r 55 (rkA (nwR h n sb vb V)) ∧ (Blk w1 h 23 cur ∧ (∀ (j : Nat) (v : Value), vals[j]? = some v → cur[j]? = some v)) ∧ Blk w1 sb 67 sdCs ∧ Blk w1 vb 2 (intZ V) ∧ wq.heap.size ≤ vb ∧ wq.heap.size ≤ r
    | _ => True
  refine wp_region_relT 10 R (by kernel_rfl) (by kernel_rfl) (by kernel_rfl) (by kernel_rfl) ?mono ?step ?fin
  case mono =>
    intro sl u wx wy h hb
    match sl with
    | 31 =>
      obtain ⟨a, b, h1, h2, h3, h4⟩ := h
      exact ⟨a, b, h1, h2, h3.below hb h3.lt, h4⟩
    | 32 =>
      obtain ⟨a, h1, h2, h3⟩ := h
      exact ⟨a, h1, h2, h3.below hb h3.lt⟩
    | 37 =>
      obtain ⟨a, h1, h2, h3⟩ := h
      exact ⟨a, h1, h2, h3.below hb h3.lt⟩
    | 38 =>
      obtain ⟨a, b, c, d, h1, h2, h3, h4, h5⟩ := h
      exact ⟨a, b, c, d, h1, ⟨h2.1.below hb h2.1.lt, h2.2⟩, h3.below hb h3.lt, h4.below hb h4.lt, h5⟩
    | 39 =>
      obtain ⟨a, b, c, d, f, h1, h2, h3, h4, h5, h6⟩ := h
      exact ⟨a, b, c, d, f, h1, h2.below hb h2.lt, ⟨h3.1.below hb h3.1.lt, h3.2⟩, h4.below hb h4.lt, h5.below hb h5.lt, h6⟩
    | 0 | 1 | 2 | 3 | 4 | 5 | 6 | 7 | 8 | 9 | 10 | 11 | 12 | 13 | 14 | 15 | 16 | 17 | 18 | 19 | 20 | 21 | 22 | 23 | 24 | 25 | 26 | 27 | 28 | 29 | 30 | 33 | 34 | 35 | 36 | _ + 40 => exact h
  case step =>
    intro o ho
    simp only [List.take, List.mem_cons, List.not_mem_nil, or_false] at ho
    rcases ho with rfl | rfl | rfl | rfl | rfl | rfl | rfl | rfl | rfl | rfl
    · intro a w1 hb hs hr
      have e3 : a.tmps.getD 3 undef = .pointer (some ⟨bp, 0, none⟩) := hs 3 (by decide)
      have cc0 : w1.cell? ⟨bp, 0, none⟩ = some (.slice (some ⟨g, 0, none⟩) n cc) := (BQ.out.below hb BQ.out.lt).cell 0
      have cc1 : w1.cell? ⟨bp, 1, none⟩ = some (.int .i64 V) := (BQ.out.below hb BQ.out.lt).cell 1
      have cc2 : w1.cell? ⟨bp, 2, none⟩ = some (.slice none 0 0) := (BQ.out.below hb BQ.out.lt).cell 2
      rw [Array.getD_eq_getD_getElem?] at e3
      unfold Oper.wp
      simp only [execOp, Act.eval, Array.getD_eq_getD_getElem?, e3]
      go_simp
      exact ⟨_, rfl, rfl, Below.refl _ _⟩
    · intro a w1 hb hs hr
      have e30 : a.tmps.getD 30 undef = .agg #[.slice (some ⟨g, 0, none⟩) n cc, .int .i64 V, .slice none 0 0] := hr 30 (by decide) (by apply Array.mem_toList_iff.1; repeat (first | exact List.Mem.head _ | apply List.Mem.tail))
      have hbw : Below w.heap.size w w1 := HBQ.out.trans (hb.mono HBQ.out.size)
      rw [Array.getD_eq_getD_getElem?] at e30
      unfold Oper.wp
      simp only [execOp, Act.eval, Array.getD_eq_getD_getElem?, e30]
      go_simp
      refine (CPY.out w1 hbw).mono ?_
      rintro e w9 ⟨h, cur, rfl, h2, h3, h4, h5⟩
      exact ⟨_, rfl, ⟨h, cur, rfl, Nat.le_trans hb.size h2, h3, h4⟩, h5⟩
    · intro a w1 hb hs hr
      unfold Oper.wp
      simp only [execOp, Act.eval, Array.getD_eq_getD_getElem?]
      go_simp
      refine (sides_c w1).mono ?_
      rintro e w9 ⟨rfl, rfl⟩
      exact ⟨_, rfl, ⟨w1.heap.size, rfl, hb.size, Blk.new w1 _ _⟩, (Below.refl _ _).alloc (Nat.le_refl _) _⟩
    · intro a w1 hb hs hr
      have e1 : a.tmps.getD 1 undef = .int .i64 0 := hs 1 (by decide)
      rw [Array.getD_eq_getD_getElem?] at e1
      unfold Oper.wp
      simp only [execOp, Act.eval, Array.getD_eq_getD_getElem?, e1]
      go_simp
      exact ⟨_, rfl, rfl, Below.refl _ _⟩
    · intro a w1 hb hs hr
      have e2 : a.tmps.getD 2 undef = .int .i64 1 := hs 2 (by decide)
      rw [Array.getD_eq_getD_getElem?] at e2
      unfold Oper.wp
      simp only [execOp, Act.eval, Array.getD_eq_getD_getElem?, e2]
      go_simp
      exact ⟨_, rfl, rfl, Below.refl _ _⟩
    · intro a w1 hb hs hr
      have e3 : a.tmps.getD 3 undef = .pointer (some ⟨bp, 0, none⟩) := hs 3 (by decide)
      rw [Array.getD_eq_getD_getElem?] at e3
      unfold Oper.wp
      simp only [execOp, Act.eval, Array.getD_eq_getD_getElem?, e3]
      go_simp
      exact ⟨_, rfl, rfl, Below.refl _ _⟩
    · intro a w1 hb hs hr
      have e35 : a.tmps.getD 35 undef = .pointer (some ⟨bp, 1, none⟩) := hr 35 (by decide) (by apply Array.mem_toList_iff.1; repeat (first | exact List.Mem.head _ | apply List.Mem.tail))
      have cc1 : w1.cell? ⟨bp, 1, none⟩ = some (.int .i64 V) := (BQ.out.below hb BQ.out.lt).cell 1
      rw [Array.getD_eq_getD_getElem?] at e35
      unfold Oper.wp
      simp only [execOp, Act.eval, Array.getD_eq_getD_getElem?, e35]
      go_simp
      exact ⟨_, rfl, rfl, Below.refl _ _⟩
    · intro a w1 hb hs hr
      have e36 : a.tmps.getD 36 undef = .int .i64 V := hr 36 (by decide) (by apply Array.mem_toList_iff.1; repeat (first | exact List.Mem.head _ | apply List.Mem.tail))
      have mk := MKV.out w1
      rw [Array.getD_eq_getD_getElem?] at e36
      unfold Oper.wp
      simp only [execOp, Act.eval, Array.getD_eq_getD_getElem?, e36]
      go_simp
      exact ⟨_, rfl, ⟨w1.heap.size, rfl, hb.size, Blk.new w1 _ _⟩, (Below.refl _ _).alloc (Nat.le_refl _) _⟩
    · intro a w1 hb hs hr
      have e31 : ∃ (h : Nat) (cur : Array Value), a.tmps.getD 31 undef = .agg #[.slice (some ⟨h, 0, none⟩) n n, .int .i64 V, .slice none 0 0] ∧ wq.heap.size ≤ h ∧ Blk w1 h 23 cur ∧ (∀ (j : Nat) (v : Value), vals[j]? = some v → cur[j]? = some v) := hr 31 (by decide) (by apply Array.mem_toList_iff.1; repeat (first | exact List.Mem.head _ | apply List.Mem.tail))
      have e32 : ∃ sb, a.tmps.getD 32 undef = .pointer (some ⟨sb, 0, none⟩) ∧ wq.heap.size ≤ sb ∧ Blk w1 sb 67 sdCs := hr 32 (by decide) (by apply Array.mem_toList_iff.1; repeat (first | exact List.Mem.head _ | apply List.Mem.tail))
      have e33 : a.tmps.getD 33 undef = .int .i64 0 := hr 33 (by decide) (by apply Array.mem_toList_iff.1; repeat (first | exact List.Mem.head _ | apply List.Mem.tail))
      have e34 : a.tmps.getD 34 undef = .int .i64 1 := hr 34 (by decide) (by apply Array.mem_toList_iff.1; repeat (first | exact List.Mem.head _ | apply List.Mem.tail))
      have e37 : ∃ vb, a.tmps.getD 37 undef = .slice (some ⟨vb, 0, none⟩) V V ∧ wq.heap.size ≤ vb ∧ Blk w1 vb 2 (intZ V) := hr 37 (by decide) (by apply Array.mem_toList_iff.1; repeat (first | exact List.Mem.head _ | apply List.Mem.tail))
      obtain ⟨h, cur, x31, h2, h3, h4⟩ := e31
      obtain ⟨sb, x32, h5, h6⟩ := e32
      obtain ⟨vb, x37, h7, h8⟩ := e37
      rw [Array.getD_eq_getD_getElem?] at x31 x32 x37
      rw [Array.getD_eq_getD_getElem?] at e33
      rw [Array.getD_eq_getD_getElem?] at e34
      unfold Oper.wp
      simp only [execOp, Act.eval, Array.getD_eq_getD_getElem?, e33, e34, x31, x32, x37]
      go_simp
      exact ⟨_, rfl, ⟨h, sb, vb, cur, rfl, ⟨h3, h4⟩, h6, h8, h7⟩, Below.refl _ _⟩
    · intro a w1 hb hs hr
      have e38 : ∃ (h sb vb : Nat) (cur : Array Value), a.tmps.getD 38 undef = .agg (rkA (nwR h n sb vb V)) ∧ (Blk w1 h 23 cur ∧ (∀ (j : Nat) (v : Value), vals[j]? = some v → cur[j]? = some v)) ∧ Blk w1 sb 67 sdCs ∧ Blk w1 vb 2 (intZ V) ∧ wq.heap.size ≤ vb := hr 38 (by decide) (by apply Array.mem_toList_iff.1; repeat (first | exact List.Mem.head _ | apply List.Mem.tail))
      obtain ⟨h, sb, vb, cur, x38, h3, h6, h8, h7⟩ := e38
      rw [Array.getD_eq_getD_getElem?] at x38
      have bx := Blk.new w1 55 (rkA (nwR h n sb vb V))
      have bb : Below w1.heap.size w1 (w1.alloc (.cells (rkA (nwR h n sb vb V)) 55)) := (Below.refl _ _).alloc (Nat.le_refl _) _
      simp only [rkA, nwR] at x38 bx bb
      unfold Oper.wp
      simp only [execOp, Act.eval, Array.getD_eq_getD_getElem?, x38]
      go_simp
      exact ⟨_, rfl, w1.heap.size, h, sb, vb, cur, rfl, bx, ⟨h3.1.below bb h3.1.lt, h3.2⟩, h6.below bb h6.lt, h8.below bb h8.lt, h7, hb.size⟩
  case fin =>
    intro ff w9 hb hr
    obtain ⟨r, h, sb, vb, cur, e39, k1, k2, k3, k4, k5, k6⟩ := hr 39 (by decide)
    have HBW := hide (HBQ.out.trans (hb.mono HBQ.out.size))
    have BQ9 := BQ.out.below hb BQ.out.lt
    have p2 := BQ9.cell 2
    have K1 := hide k1
    have K2 := hide k2
    have K3 := hide k3
    have K4 := hide k4
    have K5 := hide (Nat.le_trans HBQ.out.size k5)
    have K6 := hide (Nat.le_trans HBQ.out.size k6)
    clear hb hr k1 k2 k3 k4 k5 k6 BQ9 BQ HBQ
    simp only [putAll, slotsOf, List.take, List.drop, List.filterMap_cons, List.filterMap_nil, List.foldl_cons, List.foldl_nil, Act.put, e39]
    simp only [List.setIfInBounds_toArray, List.set_cons_succ, List.set_cons_zero]
    go_wp2_with fail
    go_loopw [9, 43] (fun i9 i43 wr => i9 = .int .i64 0 ∧ i43 = .int .i64 0 ∧ wr = w9) (fun _ _ _ => 0)
    case atStart => exact ⟨rfl, rfl, rfl⟩
    case round =>
      obtain ⟨rfl, rfl, rfl⟩ := hrel
      have mk := MK0.out wr
      have bz : Below wr.heap.size wr (wr.alloc (.cells (intZ 0) 2)) := (Below.refl _ _).alloc (Nat.le_refl _) _
      have k1 := K1.out.below bz K1.out.lt
      have f12 := k1.frozen 12
      have c12 := k1.cell 12
      have hrl := K1.out.lt
      have s1 := K1.out.set_ 12 (.slice (some ⟨wr.heap.size, 0, none⟩) 0 0)
      have bz2 : Below (wr.setCell ⟨r, 12, none⟩ (.slice (some ⟨wr.heap.size, 0, none⟩) 0 0)).heap.size (wr.setCell ⟨r, 12, none⟩ (.slice (some ⟨wr.heap.size, 0, none⟩) 0 0)) ((wr.setCell ⟨r, 12, none⟩ (.slice (some ⟨wr.heap.size, 0, none⟩) 0 0)).alloc (.cells (intZ 0) 2)) := (Below.refl _ _).alloc (Nat.le_refl _) _
      have L : ∀ {j : Nat} {t : TypeId} {q : Array Value}, Blk wr j t q → j ≠ r → Blk ((wr.setCell ⟨r, 12, none⟩ (.slice (some ⟨wr.heap.size, 0, none⟩) 0 0)).alloc (.cells (intZ 0) 2)) j t q := fun {j t q} hq hj => by
        have h1 := hq.far (p := ⟨r, 12, none⟩) hj (.slice (some ⟨wr.heap.size, 0, none⟩) 0 0)
        exact h1.below bz2 h1.lt
      have FIN := hide (show NewPost w vals n V (.returned (.tuple #[.pointer (some ⟨r, 0, none⟩), .int .i64 0])) ((wr.setCell ⟨r, 12, none⟩ (.slice (some ⟨wr.heap.size, 0, none⟩) 0 0)).alloc (.cells (intZ 0) 2)) from by
        refine ⟨r, h, sb, vb, cur, (.slice (some ⟨wr.heap.size, 0, none⟩) 0 0), rfl, s1.below bz2 s1.lt, ⟨L K2.out.1 ?_, K2.out.2⟩, L K3.out ?_, L K4.out ?_, K6.out, K5.out, (HBW.out.setCell (p := ⟨r, 12, none⟩) K6.out _).trans (bz2.mono (by have := HBW.out.size; simpa [World.setCell] using this))⟩
        · intro e
          have e1 : h = r := e
          have := K2.out.1
          rw [e1] at this
          have q := this.symm.trans K1.out
          injection q with q
          injection q with _ q _
          exact absurd q (by decide)
        · intro e
          have e1 : sb = r := e
          have := K3.out
          rw [e1] at this
          have q := this.symm.trans K1.out
          injection q with q
          injection q with _ q _
          exact absurd q (by decide)
        · intro e
          have e1 : vb = r := e
          have := K4.out
          rw [e1] at this
          have q := this.symm.trans K1.out
          injection q with q
          injection q with _ q _
          exact absurd q (by decide))
      clear bz bz2 L k1 s1
      go_wp2_with fail
      exact bodyPost_ret (v := .tuple #[.pointer (some ⟨r, 0, none⟩), .int .i64 0]) (by simp [results, Tryd.results5, go_sem]) rfl FIN.out
end Vm
end Go.Proofs.YtoiibphbogpojaaDoor
