/- The walk of the statement CallTold. -/
import Derived.Test.YtfbkmdfaolmnbaaDoorRows
import Derived.Test.YtfbkmdfaolmnbaaDoorStructs
import Derived.Test.YtfbkmdfaolmnbaaDoorToldEnv
import Derived.Test.YtfbkmdfaolmnbaaDoorToldB
import Derived.Test.YtfbkmdfaolmnbaaDoorToldC
import Derived.ChangeArms
import Derived.ChangeSlices
namespace Go.Proofs.YtfbkmdfaolmnbaaDoor.CallToldW
open Go.Joins Go.ChangeShapes Go.WideShapes Go.RowKit Go.Deep Go.Proofs.YtfbkmdfaolmnbaaDoor Go.Proofs.YtfbkmdfaolmnbaaDoor.Told
set_option linter.unusedVariables false
set_option linter.unusedSimpArgs false
section
variable {H : Type} {enc : TypeId × Value → H} {P : Program} {w : World} {base : Nat} {spare : Nat → Bool} {held : Bool}
theorem open_agg8 {r : Reach} {b0 : Nat} {t : TypeId} {f0 f1 f2 f3 f4 f5 f6 f7 : Field} {v : Value} {d : DataW H} {p : List MemPlace} (hs : P.underlying t = some (.struct #[f0, f1, f2, f3, f4, f5, f6, f7])) (hone : oneCellFields P #[f0, f1, f2, f3, f4, f5, f6, f7] = true) (hC : P.cellsOf t = 8)
    (hv : Value.okWide P w r b0 t v) (h : DataW.Trod enc P w base spare held t v d p) :
    ∃ (v0 v1 v2 v3 v4 v5 v6 v7 : Value) (y0 y1 y2 y3 y4 y5 y6 y7 : DataW H × List MemPlace) (n : Nat), v = .agg #[v0, v1, v2, v3, v4, v5, v6, v7] ∧ d = .agg [y0.1, y1.1, y2.1, y3.1, y4.1, y5.1, y6.1, y7.1] ∧ DataW.trod enc P w base spare held n f0.type [v0] = some y0 ∧ DataW.trod enc P w base spare held n f1.type [v1] = some y1 ∧ DataW.trod enc P w base spare held n f2.type [v2] = some y2 ∧ DataW.trod enc P w base spare held n f3.type [v3] = some y3 ∧ DataW.trod enc P w base spare held n f4.type [v4] = some y4 ∧ DataW.trod enc P w base spare held n f5.type [v5] = some y5 ∧ DataW.trod enc P w base spare held n f6.type [v6] = some y6 ∧ DataW.trod enc P w base spare held n f7.type [v7] = some y7 := by
  obtain ⟨cs, rfl, hsz⟩ := okWide_struct hs hv
  obtain ⟨l⟩ := cs
  match l, hsz.trans hC with
  | [c0, c1, c2, c3, c4, c5, c6, c7], _ =>
    obtain ⟨fuel, hf⟩ := h
    obtain ⟨xs, n, _, hx, _, hlen, hg⟩ := DataW.trod_struct hs hf
    obtain ⟨o0, k0⟩ := hone_of hone 0 f0 rfl
    obtain ⟨o1, k1⟩ := hone_of hone 1 f1 rfl
    obtain ⟨o2, k2⟩ := hone_of hone 2 f2 rfl
    obtain ⟨o3, k3⟩ := hone_of hone 3 f3 rfl
    obtain ⟨o4, k4⟩ := hone_of hone 4 f4 rfl
    obtain ⟨o5, k5⟩ := hone_of hone 5 f5 rfl
    obtain ⟨o6, k6⟩ := hone_of hone 6 f6 rfl
    obtain ⟨o7, k7⟩ := hone_of hone 7 f7 rfl
    match xs, hlen with
    | [y0, y1, y2, y3, y4, y5, y6, y7], _ =>
      simp only [Prod.mk.injEq] at hx
      exact ⟨c0, c1, c2, c3, c4, c5, c6, c7, y0, y1, y2, y3, y4, y5, y6, y7, n, rfl, by simpa using hx.1, by simpa [Value.cells, o0, k0] using hg 0 f0 rfl, by simpa [Value.cells, o1, k1] using hg 1 f1 rfl, by simpa [Value.cells, o2, k2] using hg 2 f2 rfl, by simpa [Value.cells, o3, k3] using hg 3 f3 rfl, by simpa [Value.cells, o4, k4] using hg 4 f4 rfl, by simpa [Value.cells, o5, k5] using hg 5 f5 rfl, by simpa [Value.cells, o6, k6] using hg 6 f6 rfl, by simpa [Value.cells, o7, k7] using hg 7 f7 rfl⟩
end

theorem fit_of {n : Int} (h : (Lit.int .i64 n).wf = true) : Fit n := by
  simp [Lit.wf] at h
  have h1 : IntKind.i64.min = -9223372036854775808 := rfl
  have h2 : IntKind.i64.max = 9223372036854775807 := rfl
  unfold Fit
  omega
theorem getD_take (l : List Int) (n i : Nat) (h : i < n) : (l.take n).getD i 0 = l.getD i 0 := by
  rw [List.getD, List.getD, List.getElem?_take, if_pos h]
set_option maxRecDepth 100000 in
set_option maxHeartbeats 4000000 in
theorem walk {H : Type} {enc : TypeId × Value → H} {base : Nat} (W : World) (hp : Env W) (k : Int) (w0 : (Lit.int .u8 k).wf = true) (v1 : Value) (d1 : DataW H) (p1 : List MemPlace) (o1 : Value.okWide Tryd.prog W .any base 24 v1) (r1 : DataW.Trod enc Tryd.prog W 0 (fun _ => true) true 24 v1 d1 p1) :
    Calls Tryd.prog 3 #[.int .u8 k, v1] W fun e w' => e = .returned (.bool true) ∧ Below W.heap.size W w' := by
  obtain ⟨c0, c1, c2, c3, c4, c5, c6, c7, y0, y1, y2, y3, y4, y5, y6, y7, fuel, rfl, _, h0, h1, h2, h3, h4, h5, h6, h7⟩ := open_agg8 Tryd.underlying24 (by kernel_rfl) (by kernel_rfl) o1 r1
  obtain ⟨fl, e0, _⟩ := DataW.trod_bool Tryd.underlying4 h0
  obtain ⟨v, e1, _, g1⟩ := DataW.trod_int Tryd.underlying2 h1
  obtain ⟨p, e2, _, g2⟩ := DataW.trod_int Tryd.underlying3 h2
  obtain ⟨t, e3, _, g3⟩ := DataW.trod_int Tryd.underlying3 h3
  obtain ⟨q, e4, _, g4⟩ := DataW.trod_int Tryd.underlying3 h4
  obtain ⟨i, e5, _, g5⟩ := DataW.trod_int Tryd.underlying3 h5
  obtain ⟨c, e6, _, g6⟩ := DataW.trod_int Tryd.underlying3 h6
  have hrow : ∃ (A : Option Addr) (row : List Int) (cap : Nat), c7 = .slice A row.length cap ∧ NRow W A row ∧ ∀ z ∈ row, Fit z := by
    rcases open_ints Tryd.underlying22 Tryd.underlying2 (by kernel_rfl) h7 with ⟨hcs, _⟩ | ⟨a, l, cap, zs, hcs, _, hl, hm, hz, _, hcell, hwz⟩
    · simp at hcs
      exact ⟨none, [], 0, hcs, fun h => absurd h (Nat.lt_irrefl 0), fun z hz => by cases hz⟩
    · simp at hcs hz
      have hlz : (zs.take l).length = l := by rw [List.length_take, hz]; omega
      refine ⟨some a, zs.take l, cap, by rw [hlz]; exact hcs, fun h => ⟨a, rfl, ?_, fun j hj => ?_⟩, fun z hz' => fit_of (hwz z (List.mem_of_mem_take hz'))⟩
      · rw [hlz] at h
        have := block_lt_of_cell (hcell 0 (by omega))
        rwa [block_of_add] at this
      · rw [hlz] at hj
        rw [getD_take zs l j hj]
        exact hcell j (by omega)
  obtain ⟨A, row, cap, rfl, hr, hrf⟩ := hrow
  simp at e0 e1 e2 e3 e4 e5 e6
  subst e0 e1 e2 e3 e4 e5 e6
  have hok : Rs.ok ⟨fl, v, p, t, q, i, c, row⟩ := ⟨fit_of g1, fit_of g2, fit_of g3, fit_of g4, fit_of g5, fit_of g6, hrf⟩
  have hb1 := (Below.refl W.heap.size W).alloc (Nat.le_refl _) (.cells #[.bool fl, .int .i64 v, .int .i64 p, .int .i64 t, .int .i64 q, .int .i64 i, .int .i64 c, .slice A row.length cap] 24)
  have bk := Blk.new W 24 #[.bool fl, .int .i64 v, .int .i64 p, .int .i64 t, .int .i64 q, .int .i64 i, .int .i64 c, .slice A row.length cap]
  have hlt : W.heap.size < (W.alloc (.cells #[.bool fl, .int .i64 v, .int .i64 p, .int .i64 t, .int .i64 q, .int .i64 i, .int .i64 c, .slice A row.length cap] 24)).heap.size := by simp
  obtain ⟨W1, hW1⟩ : ∃ W1, W.alloc (.cells #[.bool fl, .int .i64 v, .int .i64 p, .int .i64 t, .int .i64 q, .int .i64 i, .int .i64 c, .slice A row.length cap] 24) = W1 := ⟨_, rfl⟩
  rw [hW1] at hb1 bk hlt
  have HB := hide hb1
  have TA : Hid (row.length ≤ 100 → ∀ pw : BelowOf W1, Calls Tryd.prog 4 #[.int .u8 k, .agg #[.bool fl, .int .i64 v, .int .i64 p, .int .i64 t, .int .i64 q, .int .i64 i, .int .i64 c, .slice A row.length cap]] pw.world fun e w' => e = .returned (.string (bytes (tT (cls k) ⟨fl, v, p, t, q, i, c, row⟩))) ∧ Below pw.world.heap.size pw.world w') := hide fun hl pw =>
    told_a k ⟨fl, v, p, t, q, i, c, row⟩ A cap pw.world hok (hr.below (hb1.trans (pw.below.mono hb1.size))) (by show row.length ≤ 1000; omega) (hp.below (hb1.trans (pw.below.mono hb1.size)) (Nat.le_refl _))
  have TB : Hid (row.length ≤ 100 → ∀ pw : BelowOf W1, Calls Tryd.prog 5 #[.int .u8 k, .agg #[.bool fl, .int .i64 v, .int .i64 p, .int .i64 t, .int .i64 q, .int .i64 i, .int .i64 c, .slice A row.length cap]] pw.world fun e w' => e = .returned (.string (bytes (tT (cls k) ⟨fl, v, p, t, q, i, c, row⟩))) ∧ Below pw.world.heap.size pw.world w') := hide fun hl pw =>
    told_b k ⟨fl, v, p, t, q, i, c, row⟩ A cap pw.world hok (hr.below (hb1.trans (pw.below.mono hb1.size))) (by show row.length ≤ 1000; omega)
  generalize bytes (tT (cls k) ⟨fl, v, p, t, q, i, c, row⟩) = S at *
  have ne : Nonempty (BelowOf W1) := ⟨⟨W1, Below.refl _ _⟩⟩
  have hcc : ∀ (j : Nat) (pw : BelowOf W1), pw.world.cell? ⟨W.heap.size, j, none⟩ = (#[.bool fl, .int .i64 v, .int .i64 p, .int .i64 t, .int .i64 q, .int .i64 i, .int .i64 c, .slice A row.length cap] : Array Value)[j]? := fun j pw => (pw.below.cell (p := ⟨W.heap.size, j, none⟩) hlt).trans (bk.cell j)
  have q0 : ∀ pw : BelowOf W1, pw.world.cell? ⟨W.heap.size, 0, none⟩ = some (.bool fl) := hcc 0
  have q1 : ∀ pw : BelowOf W1, pw.world.cell? ⟨W.heap.size, 1, none⟩ = some (.int .i64 v) := hcc 1
  have q2 : ∀ pw : BelowOf W1, pw.world.cell? ⟨W.heap.size, 2, none⟩ = some (.int .i64 p) := hcc 2
  have q3 : ∀ pw : BelowOf W1, pw.world.cell? ⟨W.heap.size, 3, none⟩ = some (.int .i64 t) := hcc 3
  have q4 : ∀ pw : BelowOf W1, pw.world.cell? ⟨W.heap.size, 4, none⟩ = some (.int .i64 q) := hcc 4
  have q5 : ∀ pw : BelowOf W1, pw.world.cell? ⟨W.heap.size, 5, none⟩ = some (.int .i64 i) := hcc 5
  have q6 : ∀ pw : BelowOf W1, pw.world.cell? ⟨W.heap.size, 6, none⟩ = some (.int .i64 c) := hcc 6
  have q7 : ∀ pw : BelowOf W1, pw.world.cell? ⟨W.heap.size, 7, none⟩ = some (.slice A row.length cap) := hcc 7
  clear hcc bk hb1 hr hrf hp hok o1 r1 h0 h1 h2 h3 h4 h5 h6 h7 g1 g2 g3 g4 g5 g6 w0
  by_cases hl : row.length ≤ 100
  · have hld : decide ((100 : Int) < (row.length : Int)) = false := decide_eq_false (by omega)
    have TAA := hide (TA.out hl)
    have TBB := hide (TB.out hl)
    have HL := hide hl
    clear TA TB hl
    go_enter Tryd.func3, Tryd.ntmps3
    go_wp2_with fail
    refine wp_region_quiet_below (by kernel_rfl) (by kernel_rfl) ?_
    repeat (go_big_quiet_step (first
      | (go_at_call 4; refine calls_below (TAA.out _))
      | (go_at_call 5; refine calls_below (TBB.out _))))
    refine wpQuiet_nil ?_
    rintro Wq ⟨⟨_, hq⟩, rfl⟩
    have HQ := hide (HB.out.trans (hq.mono HB.out.size))
    clear hq
    go_wp2_with fail
    go_ret
    exact ⟨by simp, HQ.out⟩
  · have hld : decide ((100 : Int) < (row.length : Int)) = true := decide_eq_true (by omega)
    have HL := hide hl
    clear TA TB hl
    go_enter Tryd.func3, Tryd.ntmps3
    go_wp2_with fail
    refine wp_region_quiet_below (by kernel_rfl) (by kernel_rfl) ?_
    repeat (go_big_quiet_step (fail))
    refine wpQuiet_nil ?_
    rintro Wq ⟨⟨_, hq⟩, rfl⟩
    have HQ := hide (HB.out.trans (hq.mono HB.out.size))
    clear hq
    go_wp2_with fail
    go_ret
    exact ⟨by simp, HQ.out⟩
end Go.Proofs.YtfbkmdfaolmnbaaDoor.CallToldW
