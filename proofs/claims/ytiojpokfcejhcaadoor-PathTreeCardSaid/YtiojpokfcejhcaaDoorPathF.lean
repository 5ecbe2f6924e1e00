/- The steps of the program's stack. -/
import Derived.Test.YtiojpokfcejhcaaDoorRows
import Derived.Test.YtiojpokfcejhcaaDoorPathE
namespace Go.Proofs.YtiojpokfcejhcaaDoor
open Go Go.RowKit
set_option linter.unusedVariables false
set_option linter.unusedSimpArgs false
namespace Pth
/-- A step. -/
structure Sp where
  off : Bool
  r : Int
  c : Int
  ch : Ch
def spC (x : Sp) : List Value := [.bool x.off, .int .i64 x.r, .int .i64 x.c, .int .i64 x.ch.r, .int .i64 x.ch.c, .int .i64 x.ch.f, .int .i64 x.ch.s, .int .i64 x.ch.v]
def spCs (l : List Sp) : List Value := l.flatMap spC
theorem spCs_app (a b : List Sp) : spCs (a ++ b) = spCs a ++ spCs b := by simp [spCs]
/-- The step at which a level stands. -/
def stepOf (r c : Int) (vs : List Ch) (at_ : Nat) : Sp := if at_ = vs.length then ⟨true, r, c, ⟨0, 0, 0, 0, 0⟩⟩ else ⟨false, r, c, vs.getD at_ default⟩
def spV (x : Sp) : Value := .agg #[.bool x.off, .int .i64 x.r, .int .i64 x.c, .int .i64 x.ch.r, .int .i64 x.ch.c, .int .i64 x.ch.f, .int .i64 x.ch.s, .int .i64 x.ch.v]
theorem VRow.crow {w : World} {A : Option Addr} {l : List Ch} (h : VRow w A l) (hl : l.length ≤ 1000) : CRow w A l := by
  obtain ⟨g, cs, rfl, hb, hok, htk⟩ := h
  refine ⟨by unfold maxLen; omega, fun h0 => ⟨⟨g, 0, none⟩, rfl, hb.lt, fun i hi => ⟨hok i hi, ?_⟩⟩⟩
  have hc : ∀ j u, j < 5 → (chC l[i])[j]? = some u → w.cell? ⟨g, i * 5 + j, none⟩ = some u := fun j u hj hu => by
    have e := chs_at l i hi j hj
    rw [hu, ← htk, List.getElem?_take] at e
    split at e
    · rw [hb.cell]
      simpa using e
    · cases e
  unfold ChAt
  rw [add_lit]
  exact ⟨hc 0 _ (by omega) rfl, hc 1 _ (by omega) rfl, hc 2 _ (by omega) rfl, hc 3 _ (by omega) rfl, hc 4 _ (by omega) rfl⟩
def put8 (w : World) (g : Nat) (c0 c1 c2 c3 c4 c5 c6 c7 : Value) : World := ((((((((w.setCell ⟨g, 0, none⟩ c0).setCell ⟨g, 1, none⟩ c1).setCell ⟨g, 2, none⟩ c2).setCell ⟨g, 3, none⟩ c3).setCell ⟨g, 4, none⟩ c4).setCell ⟨g, 5, none⟩ c5).setCell ⟨g, 6, none⟩ c6).setCell ⟨g, 7, none⟩ c7)
def put5 (w : World) (g : Nat) (c3 c4 c5 c6 c7 : Value) : World := (((((w.setCell ⟨g, 3, none⟩ c3).setCell ⟨g, 4, none⟩ c4).setCell ⟨g, 5, none⟩ c5).setCell ⟨g, 6, none⟩ c6).setCell ⟨g, 7, none⟩ c7)
section
variable {w w0 : World} {g b B : Nat} {t : TypeId} {cs : Array Value} {c0 c1 c2 c3 c4 c5 c6 c7 d0 d1 d2 d3 d4 d5 d6 d7 : Value}
theorem put8_blk (h : Blk w g t #[d0, d1, d2, d3, d4, d5, d6, d7]) : Blk (put8 w g c0 c1 c2 c3 c4 c5 c6 c7) g t #[c0, c1, c2, c3, c4, c5, c6, c7] :=
  by
    have h1 := ((((((((h.set_ 0 c0).set_ 1 c1).set_ 2 c2).set_ 3 c3).set_ 4 c4).set_ 5 c5).set_ 6 c6).set_ 7 c7)
    unfold put8
    simpa only [List.setIfInBounds_toArray, List.set_cons_zero, List.set_cons_succ] using h1
theorem put5_blk (h : Blk w g t #[d0, d1, d2, d3, d4, d5, d6, d7]) : Blk (put5 w g c3 c4 c5 c6 c7) g t #[d0, d1, d2, c3, c4, c5, c6, c7] :=
  by
    have h1 := (((((h.set_ 3 c3).set_ 4 c4).set_ 5 c5).set_ 6 c6).set_ 7 c7)
    unfold put5
    simpa only [List.setIfInBounds_toArray, List.set_cons_zero, List.set_cons_succ] using h1
theorem put8_far (h : Blk w b t cs) (hne : b ≠ g) : Blk (put8 w g c0 c1 c2 c3 c4 c5 c6 c7) b t cs :=
  ((((((((h.far (p := ⟨g, 0, none⟩) hne c0).far (p := ⟨g, 1, none⟩) hne c1).far (p := ⟨g, 2, none⟩) hne c2).far (p := ⟨g, 3, none⟩) hne c3).far (p := ⟨g, 4, none⟩) hne c4).far (p := ⟨g, 5, none⟩) hne c5).far (p := ⟨g, 6, none⟩) hne c6).far (p := ⟨g, 7, none⟩) hne c7)
theorem put5_far (h : Blk w b t cs) (hne : b ≠ g) : Blk (put5 w g c3 c4 c5 c6 c7) b t cs :=
  (((((h.far (p := ⟨g, 3, none⟩) hne c3).far (p := ⟨g, 4, none⟩) hne c4).far (p := ⟨g, 5, none⟩) hne c5).far (p := ⟨g, 6, none⟩) hne c6).far (p := ⟨g, 7, none⟩) hne c7)
theorem put8_below (h : Below B w0 w) (hB : B ≤ g) : Below B w0 (put8 w g c0 c1 c2 c3 c4 c5 c6 c7) :=
  ((((((((h.setCell (p := ⟨g, 0, none⟩) hB c0).setCell (p := ⟨g, 1, none⟩) hB c1).setCell (p := ⟨g, 2, none⟩) hB c2).setCell (p := ⟨g, 3, none⟩) hB c3).setCell (p := ⟨g, 4, none⟩) hB c4).setCell (p := ⟨g, 5, none⟩) hB c5).setCell (p := ⟨g, 6, none⟩) hB c6).setCell (p := ⟨g, 7, none⟩) hB c7)
theorem put5_below (h : Below B w0 w) (hB : B ≤ g) : Below B w0 (put5 w g c3 c4 c5 c6 c7) :=
  (((((h.setCell (p := ⟨g, 3, none⟩) hB c3).setCell (p := ⟨g, 4, none⟩) hB c4).setCell (p := ⟨g, 5, none⟩) hB c5).setCell (p := ⟨g, 6, none⟩) hB c6).setCell (p := ⟨g, 7, none⟩) hB c7)
end
set_option maxRecDepth 100000 in
set_option maxHeartbeats 8000000 in
theorem step_a (x : Lv) (w : World) (h : x.fit) (hv : VRow w x.A x.vs) :
    Calls Tryd.prog 20 #[.agg #[.int .i64 x.r, .int .i64 x.c, .slice x.A x.vs.length x.cap, .bool x.off, .int .i64 x.at_]] w fun e w' => e = .returned (spV (stepOf x.r x.c x.vs x.at_)) ∧ Below w.heap.size w w' := by
  obtain ⟨r, c, A, cap, vs, off, at_⟩ := x
  obtain ⟨h0, h1, h2⟩ := h
  simp only at h0 h1 hv
  have hle : at_ ≤ vs.length := by
    unfold many at h2
    simp only at h2
    split at h2 <;> omega
  clear h2
  have hcr := hv.crow (by omega)
  -- the blocks: the level, the result, the step
  have b1 := Blk.new w 59 #[.int .i64 r, .int .i64 c, .slice A vs.length cap, .bool off, .int .i64 at_]
  have hb1 := (Below.refl w.heap.size w).alloc (Nat.le_refl _) (.cells #[.int .i64 r, .int .i64 c, .slice A vs.length cap, .bool off, .int .i64 at_] 59)
  have hs1 : (w.alloc (.cells #[.int .i64 r, .int .i64 c, .slice A vs.length cap, .bool off, .int .i64 at_] 59)).heap.size = w.heap.size + 1 := by simp
  obtain ⟨W1, hW1⟩ : ∃ x, w.alloc (.cells #[.int .i64 r, .int .i64 c, .slice A vs.length cap, .bool off, .int .i64 at_] 59) = x := ⟨_, rfl⟩
  rw [hW1] at b1 hb1 hs1
  have r2 := Blk.new W1 49 #[.bool false, .int .i64 0, .int .i64 0, .int .i64 0, .int .i64 0, .int .i64 0, .int .i64 0, .int .i64 0]
  have b2 := b1.alloc (.cells #[.bool false, .int .i64 0, .int .i64 0, .int .i64 0, .int .i64 0, .int .i64 0, .int .i64 0, .int .i64 0] 49)
  have hb2 := hb1.alloc (by omega) (.cells #[.bool false, .int .i64 0, .int .i64 0, .int .i64 0, .int .i64 0, .int .i64 0, .int .i64 0, .int .i64 0] 49)
  have hs2 : (W1.alloc (.cells #[.bool false, .int .i64 0, .int .i64 0, .int .i64 0, .int .i64 0, .int .i64 0, .int .i64 0, .int .i64 0] 49)).heap.size = w.heap.size + 1 + 1 := by rw [← hs1]; simp
  obtain ⟨W2, hW2⟩ : ∃ x, W1.alloc (.cells #[.bool false, .int .i64 0, .int .i64 0, .int .i64 0, .int .i64 0, .int .i64 0, .int .i64 0, .int .i64 0] 49) = x := ⟨_, rfl⟩
  rw [hW2] at r2 b2 hb2 hs2
  rw [hs1] at r2
  have q0 : W2.cell? ⟨w.heap.size, 0, none⟩ = some (.int .i64 r) := b2.cell 0
  have q1 : W2.cell? ⟨w.heap.size, 1, none⟩ = some (.int .i64 c) := b2.cell 1
  have s3 := Blk.new W2 49 #[.bool false, .int .i64 0, .int .i64 0, .int .i64 0, .int .i64 0, .int .i64 0, .int .i64 0, .int .i64 0]
  have r3 := r2.alloc (.cells #[.bool false, .int .i64 0, .int .i64 0, .int .i64 0, .int .i64 0, .int .i64 0, .int .i64 0, .int .i64 0] 49)
  have b3 := b2.alloc (.cells #[.bool false, .int .i64 0, .int .i64 0, .int .i64 0, .int .i64 0, .int .i64 0, .int .i64 0, .int .i64 0] 49)
  have hb3 := hb2.alloc (by omega) (.cells #[.bool false, .int .i64 0, .int .i64 0, .int .i64 0, .int .i64 0, .int .i64 0, .int .i64 0, .int .i64 0] 49)
  obtain ⟨W3, hW3⟩ : ∃ x, W2.alloc (.cells #[.bool false, .int .i64 0, .int .i64 0, .int .i64 0, .int .i64 0, .int .i64 0, .int .i64 0, .int .i64 0] 49) = x := ⟨_, rfl⟩
  rw [hW3] at s3 r3 b3 hb3
  rw [hs2] at s3
  have m0 : W3.cell? ⟨w.heap.size + 1 + 1, 0, none⟩ = some (.bool false) := s3.cell 0
  have g0 := s3.frozen 0
  have m1 : W3.cell? ⟨w.heap.size + 1 + 1, 1, none⟩ = some (.int .i64 0) := s3.cell 1
  have g1 := s3.frozen 1
  have m2 : W3.cell? ⟨w.heap.size + 1 + 1, 2, none⟩ = some (.int .i64 0) := s3.cell 2
  have g2 := s3.frozen 2
  have m3 : W3.cell? ⟨w.heap.size + 1 + 1, 3, none⟩ = some (.int .i64 0) := s3.cell 3
  have g3 := s3.frozen 3
  have m4 : W3.cell? ⟨w.heap.size + 1 + 1, 4, none⟩ = some (.int .i64 0) := s3.cell 4
  have g4 := s3.frozen 4
  have m5 : W3.cell? ⟨w.heap.size + 1 + 1, 5, none⟩ = some (.int .i64 0) := s3.cell 5
  have g5 := s3.frozen 5
  have m6 : W3.cell? ⟨w.heap.size + 1 + 1, 6, none⟩ = some (.int .i64 0) := s3.cell 6
  have g6 := s3.frozen 6
  have m7 : W3.cell? ⟨w.heap.size + 1 + 1, 7, none⟩ = some (.int .i64 0) := s3.cell 7
  have g7 := s3.frozen 7
  have s4 := put8_blk (c0 := .bool false) (c1 := .int .i64 r) (c2 := .int .i64 c) (c3 := .int .i64 0) (c4 := .int .i64 0) (c5 := .int .i64 0) (c6 := .int .i64 0) (c7 := .int .i64 0) s3
  have r4 := put8_far (g := w.heap.size + 1 + 1) (c0 := .bool false) (c1 := .int .i64 r) (c2 := .int .i64 c) (c3 := .int .i64 0) (c4 := .int .i64 0) (c5 := .int .i64 0) (c6 := .int .i64 0) (c7 := .int .i64 0) r3 (by omega)
  have b4 := put8_far (g := w.heap.size + 1 + 1) (c0 := .bool false) (c1 := .int .i64 r) (c2 := .int .i64 c) (c3 := .int .i64 0) (c4 := .int .i64 0) (c5 := .int .i64 0) (c6 := .int .i64 0) (c7 := .int .i64 0) b3 (by omega)
  have hb4 := put8_below (g := w.heap.size + 1 + 1) (c0 := .bool false) (c1 := .int .i64 r) (c2 := .int .i64 c) (c3 := .int .i64 0) (c4 := .int .i64 0) (c5 := .int .i64 0) (c6 := .int .i64 0) (c7 := .int .i64 0) hb3 (by omega)
  obtain ⟨W4, hW4⟩ : ∃ x, put8 W3 (w.heap.size + 1 + 1) (.bool false) (.int .i64 r) (.int .i64 c) (.int .i64 0) (.int .i64 0) (.int .i64 0) (.int .i64 0) (.int .i64 0) = x := ⟨_, rfl⟩
  rw [hW4] at s4 r4 b4 hb4
  have q4 : W4.cell? ⟨w.heap.size, 4, none⟩ = some (.int .i64 at_) := b4.cell 4
  have q2 : W4.cell? ⟨w.heap.size, 2, none⟩ = some (.slice A vs.length cap) := b4.cell 2
  unfold put8 at hW4
  have HB4 := hide hb4
  have S4 := hide s4
  have R4 := hide r4
  have B4 := hide b4
  clear b1 b2 b3 b4 r2 r3 r4 s3 s4 hb1 hb2 hb3 hb4
  by_cases he : at_ = vs.length
  · have E : stepOf r c vs at_ = ⟨true, r, c, ⟨0, 0, 0, 0, 0⟩⟩ := by unfold stepOf; rw [if_pos he]
    rw [E]
    subst he
    clear E hcr hv hle
    have g0' := S4.out.frozen 0
    have m0' : W4.cell? ⟨w.heap.size + 1 + 1, 0, none⟩ = some (.bool false) := S4.out.cell 0
    have s5 : Blk (W4.setCell ⟨w.heap.size + 1 + 1, 0, none⟩ (.bool true)) (w.heap.size + 1 + 1) 49 #[.bool true, .int .i64 r, .int .i64 c, .int .i64 0, .int .i64 0, .int .i64 0, .int .i64 0, .int .i64 0] := S4.out.set_ 0 (.bool true)
    have r5 := R4.out.far (p := ⟨w.heap.size + 1 + 1, 0, none⟩) (by show w.heap.size + 1 ≠ w.heap.size + 1 + 1; omega) (.bool true)
    have hb5 := HB4.out.setCell (p := ⟨w.heap.size + 1 + 1, 0, none⟩) (by show w.heap.size ≤ w.heap.size + 1 + 1; omega) (.bool true)
    obtain ⟨W5, hW5⟩ : ∃ x, W4.setCell ⟨w.heap.size + 1 + 1, 0, none⟩ (.bool true) = x := ⟨_, rfl⟩
    rw [hW5] at s5 r5 hb5
    have n0 : W5.cell? ⟨w.heap.size + 1 + 1, 0, none⟩ = some (.bool true) := s5.cell 0
    have k0 : W5.cell? ⟨w.heap.size + 1, 0, none⟩ = some (.bool false) := r5.cell 0
    have f0 := r5.frozen 0
    have n1 : W5.cell? ⟨w.heap.size + 1 + 1, 1, none⟩ = some (.int .i64 r) := s5.cell 1
    have k1 : W5.cell? ⟨w.heap.size + 1, 1, none⟩ = some (.int .i64 0) := r5.cell 1
    have f1 := r5.frozen 1
    have n2 : W5.cell? ⟨w.heap.size + 1 + 1, 2, none⟩ = some (.int .i64 c) := s5.cell 2
    have k2 : W5.cell? ⟨w.heap.size + 1, 2, none⟩ = some (.int .i64 0) := r5.cell 2
    have f2 := r5.frozen 2
    have n3 : W5.cell? ⟨w.heap.size + 1 + 1, 3, none⟩ = some (.int .i64 0) := s5.cell 3
    have k3 : W5.cell? ⟨w.heap.size + 1, 3, none⟩ = some (.int .i64 0) := r5.cell 3
    have f3 := r5.frozen 3
    have n4 : W5.cell? ⟨w.heap.size + 1 + 1, 4, none⟩ = some (.int .i64 0) := s5.cell 4
    have k4 : W5.cell? ⟨w.heap.size + 1, 4, none⟩ = some (.int .i64 0) := r5.cell 4
    have f4 := r5.frozen 4
    have n5 : W5.cell? ⟨w.heap.size + 1 + 1, 5, none⟩ = some (.int .i64 0) := s5.cell 5
    have k5 : W5.cell? ⟨w.heap.size + 1, 5, none⟩ = some (.int .i64 0) := r5.cell 5
    have f5 := r5.frozen 5
    have n6 : W5.cell? ⟨w.heap.size + 1 + 1, 6, none⟩ = some (.int .i64 0) := s5.cell 6
    have k6 : W5.cell? ⟨w.heap.size + 1, 6, none⟩ = some (.int .i64 0) := r5.cell 6
    have f6 := r5.frozen 6
    have n7 : W5.cell? ⟨w.heap.size + 1 + 1, 7, none⟩ = some (.int .i64 0) := s5.cell 7
    have k7 : W5.cell? ⟨w.heap.size + 1, 7, none⟩ = some (.int .i64 0) := r5.cell 7
    have f7 := r5.frozen 7
    have r6 := put8_blk (c0 := .bool true) (c1 := .int .i64 r) (c2 := .int .i64 c) (c3 := .int .i64 0) (c4 := .int .i64 0) (c5 := .int .i64 0) (c6 := .int .i64 0) (c7 := .int .i64 0) r5
    have hb6 := put8_below (g := w.heap.size + 1) (c0 := .bool true) (c1 := .int .i64 r) (c2 := .int .i64 c) (c3 := .int .i64 0) (c4 := .int .i64 0) (c5 := .int .i64 0) (c6 := .int .i64 0) (c7 := .int .i64 0) hb5 (by omega)
    obtain ⟨W6, hW6⟩ : ∃ x, put8 W5 (w.heap.size + 1) (.bool true) (.int .i64 r) (.int .i64 c) (.int .i64 0) (.int .i64 0) (.int .i64 0) (.int .i64 0) (.int .i64 0) = x := ⟨_, rfl⟩
    rw [hW6] at r6 hb6
    have o0 : W6.cell? ⟨w.heap.size + 1, 0, none⟩ = some (.bool true) := r6.cell 0
    have o1 : W6.cell? ⟨w.heap.size + 1, 1, none⟩ = some (.int .i64 r) := r6.cell 1
    have o2 : W6.cell? ⟨w.heap.size + 1, 2, none⟩ = some (.int .i64 c) := r6.cell 2
    have o3 : W6.cell? ⟨w.heap.size + 1, 3, none⟩ = some (.int .i64 0) := r6.cell 3
    have o4 : W6.cell? ⟨w.heap.size + 1, 4, none⟩ = some (.int .i64 0) := r6.cell 4
    have o5 : W6.cell? ⟨w.heap.size + 1, 5, none⟩ = some (.int .i64 0) := r6.cell 5
    have o6 : W6.cell? ⟨w.heap.size + 1, 6, none⟩ = some (.int .i64 0) := r6.cell 6
    have o7 : W6.cell? ⟨w.heap.size + 1, 7, none⟩ = some (.int .i64 0) := r6.cell 7
    unfold put8 at hW6
    have HB6 := hide hb6
    clear r6 hb6 s5 r5 hb5
    go_enter Tryd.func20, Tryd.ntmps20
    go_wp2_with fail
    exact bodyPost_ret (v := .agg #[.bool true, .int .i64 r, .int .i64 c, .int .i64 0, .int .i64 0, .int .i64 0, .int .i64 0, .int .i64 0]) (by simp [results, Tryd.results20, go_sem, o0, o1, o2, o3, o4, o5, o6, o7]) rfl ⟨rfl, HB6.out⟩
  · have hlt : at_ < vs.length := by omega
    have E : stepOf r c vs at_ = ⟨false, r, c, vs[at_]⟩ := by
      unfold stepOf
      rw [if_neg he]
      simp [hlt]
    rw [E]
    have hne : ((at_ : Int) == (vs.length : Int)) = false := by
      have : ¬ (at_ : Int) = (vs.length : Int) := by omega
      simpa using this
    have hltI : (at_ : Int) < (vs.length : Int) := by omega
    obtain ⟨a, rfl, ha, hc⟩ := (hcr.below HB4.out).2 h0
    obtain ⟨_, d0, d1, d2, d3, d4⟩ := hc at_ hlt
    clear E hcr hv hc
    generalize vs[at_] = x at *
    obtain ⟨xr, xc, xf, xs, xv⟩ := x
    simp only at d0 d1 d2 d3 d4
    have m3' : W4.cell? ⟨w.heap.size + 1 + 1, 3, none⟩ = some (.int .i64 0) := S4.out.cell 3
    have g3' := S4.out.frozen 3
    have m4' : W4.cell? ⟨w.heap.size + 1 + 1, 4, none⟩ = some (.int .i64 0) := S4.out.cell 4
    have g4' := S4.out.frozen 4
    have m5' : W4.cell? ⟨w.heap.size + 1 + 1, 5, none⟩ = some (.int .i64 0) := S4.out.cell 5
    have g5' := S4.out.frozen 5
    have m6' : W4.cell? ⟨w.heap.size + 1 + 1, 6, none⟩ = some (.int .i64 0) := S4.out.cell 6
    have g6' := S4.out.frozen 6
    have m7' : W4.cell? ⟨w.heap.size + 1 + 1, 7, none⟩ = some (.int .i64 0) := S4.out.cell 7
    have g7' := S4.out.frozen 7
    have s5 := put5_blk (c3 := .int .i64 xr) (c4 := .int .i64 xc) (c5 := .int .i64 xf) (c6 := .int .i64 xs) (c7 := .int .i64 xv) S4.out
    have r5 := put5_far (g := w.heap.size + 1 + 1) (c3 := .int .i64 xr) (c4 := .int .i64 xc) (c5 := .int .i64 xf) (c6 := .int .i64 xs) (c7 := .int .i64 xv) R4.out (by omega)
    have hb5 := put5_below (g := w.heap.size + 1 + 1) (c3 := .int .i64 xr) (c4 := .int .i64 xc) (c5 := .int .i64 xf) (c6 := .int .i64 xs) (c7 := .int .i64 xv) HB4.out (by omega)
    obtain ⟨W5, hW5⟩ : ∃ x, put5 W4 (w.heap.size + 1 + 1) (.int .i64 xr) (.int .i64 xc) (.int .i64 xf) (.int .i64 xs) (.int .i64 xv) = x := ⟨_, rfl⟩
    rw [hW5] at s5 r5 hb5
    unfold put5 at hW5
    have n0 : W5.cell? ⟨w.heap.size + 1 + 1, 0, none⟩ = some (.bool false) := s5.cell 0
    have k0 : W5.cell? ⟨w.heap.size + 1, 0, none⟩ = some (.bool false) := r5.cell 0
    have f0 := r5.frozen 0
    have n1 : W5.cell? ⟨w.heap.size + 1 + 1, 1, none⟩ = some (.int .i64 r) := s5.cell 1
    have k1 : W5.cell? ⟨w.heap.size + 1, 1, none⟩ = some (.int .i64 0) := r5.cell 1
    have f1 := r5.frozen 1
    have n2 : W5.cell? ⟨w.heap.size + 1 + 1, 2, none⟩ = some (.int .i64 c) := s5.cell 2
    have k2 : W5.cell? ⟨w.heap.size + 1, 2, none⟩ = some (.int .i64 0) := r5.cell 2
    have f2 := r5.frozen 2
    have n3 : W5.cell? ⟨w.heap.size + 1 + 1, 3, none⟩ = some (.int .i64 xr) := s5.cell 3
    have k3 : W5.cell? ⟨w.heap.size + 1, 3, none⟩ = some (.int .i64 0) := r5.cell 3
    have f3 := r5.frozen 3
    have n4 : W5.cell? ⟨w.heap.size + 1 + 1, 4, none⟩ = some (.int .i64 xc) := s5.cell 4
    have k4 : W5.cell? ⟨w.heap.size + 1, 4, none⟩ = some (.int .i64 0) := r5.cell 4
    have f4 := r5.frozen 4
    have n5 : W5.cell? ⟨w.heap.size + 1 + 1, 5, none⟩ = some (.int .i64 xf) := s5.cell 5
    have k5 : W5.cell? ⟨w.heap.size + 1, 5, none⟩ = some (.int .i64 0) := r5.cell 5
    have f5 := r5.frozen 5
    have n6 : W5.cell? ⟨w.heap.size + 1 + 1, 6, none⟩ = some (.int .i64 xs) := s5.cell 6
    have k6 : W5.cell? ⟨w.heap.size + 1, 6, none⟩ = some (.int .i64 0) := r5.cell 6
    have f6 := r5.frozen 6
    have n7 : W5.cell? ⟨w.heap.size + 1 + 1, 7, none⟩ = some (.int .i64 xv) := s5.cell 7
    have k7 : W5.cell? ⟨w.heap.size + 1, 7, none⟩ = some (.int .i64 0) := r5.cell 7
    have f7 := r5.frozen 7
    have r6 := put8_blk (c0 := .bool false) (c1 := .int .i64 r) (c2 := .int .i64 c) (c3 := .int .i64 xr) (c4 := .int .i64 xc) (c5 := .int .i64 xf) (c6 := .int .i64 xs) (c7 := .int .i64 xv) r5
    have hb6 := put8_below (g := w.heap.size + 1) (c0 := .bool false) (c1 := .int .i64 r) (c2 := .int .i64 c) (c3 := .int .i64 xr) (c4 := .int .i64 xc) (c5 := .int .i64 xf) (c6 := .int .i64 xs) (c7 := .int .i64 xv) hb5 (by omega)
    obtain ⟨W6, hW6⟩ : ∃ x, put8 W5 (w.heap.size + 1) (.bool false) (.int .i64 r) (.int .i64 c) (.int .i64 xr) (.int .i64 xc) (.int .i64 xf) (.int .i64 xs) (.int .i64 xv) = x := ⟨_, rfl⟩
    rw [hW6] at r6 hb6
    have o0 : W6.cell? ⟨w.heap.size + 1, 0, none⟩ = some (.bool false) := r6.cell 0
    have o1 : W6.cell? ⟨w.heap.size + 1, 1, none⟩ = some (.int .i64 r) := r6.cell 1
    have o2 : W6.cell? ⟨w.heap.size + 1, 2, none⟩ = some (.int .i64 c) := r6.cell 2
    have o3 : W6.cell? ⟨w.heap.size + 1, 3, none⟩ = some (.int .i64 xr) := r6.cell 3
    have o4 : W6.cell? ⟨w.heap.size + 1, 4, none⟩ = some (.int .i64 xc) := r6.cell 4
    have o5 : W6.cell? ⟨w.heap.size + 1, 5, none⟩ = some (.int .i64 xf) := r6.cell 5
    have o6 : W6.cell? ⟨w.heap.size + 1, 6, none⟩ = some (.int .i64 xs) := r6.cell 6
    have o7 : W6.cell? ⟨w.heap.size + 1, 7, none⟩ = some (.int .i64 xv) := r6.cell 7
    unfold put8 at hW6
    have HB6 := hide hb6
    clear r6 hb6 s5 r5 hb5
    go_enter Tryd.func20, Tryd.ntmps20
    go_wp2_with fail
    exact bodyPost_ret (v := .agg #[.bool false, .int .i64 r, .int .i64 c, .int .i64 xr, .int .i64 xc, .int .i64 xf, .int .i64 xs, .int .i64 xv]) (by simp [results, Tryd.results20, go_sem, o0, o1, o2, o3, o4, o5, o6, o7]) rfl ⟨rfl, HB6.out⟩
end Pth
end Go.Proofs.YtiojpokfcejhcaaDoor
