/- What stands at a point: both answers. -/
import Derived.Test.YtdojmjbknkbpoaaDoorRows
import Derived.Test.YtdojmjbknkbpoaaDoorSignD
namespace Go.Proofs.YtdojmjbknkbpoaaDoor
open Go.RowKit
set_option linter.unusedVariables false
set_option linter.unusedSimpArgs false
def zeroC : Ch := ⟨0, 0, 0, 0, 0⟩
/-- What is told of a point. -/
def atR (l : List Ch) (rank call : Int) : Ch × Bool := match l.find? (atP rank call) with | some x => (x, true) | none => (zeroC, false)
theorem find_hit {p : Ch → Bool} {l : List Ch} {i : Nat} (hi : i < l.length) (h : p l[i] = true) (hn : ∀ k (hk : k < i), p (l[k]'(by omega)) = false) : l.find? p = some l[i] := by
  rw [List.find?_eq_some_iff_getElem]
  exact ⟨h, i, hi, rfl, fun j hj => by simp [hn j hj]⟩
theorem find_none {p : Ch → Bool} {l : List Ch} (hn : ∀ k (hk : k < l.length), p l[k] = false) : l.find? p = none := by
  rw [List.find?_eq_none]
  intro x hx
  obtain ⟨k, hk, rfl⟩ := List.getElem_of_mem hx
  simp [hn k hk]
theorem idx_find (p : Ch → Bool) (l : List Ch) : (idxI p l = -1 ∧ l.find? p = none) ∨ ∃ i : Nat, ∃ h : i < l.length, idxI p l = i ∧ l.find? p = some l[i] := by
  unfold idxI
  cases h : l.findIdx? p with
  | none =>
    left
    refine ⟨rfl, ?_⟩
    rw [List.findIdx?_eq_none_iff] at h
    rw [List.find?_eq_none]
    intro x hx
    simp [h x hx]
  | some i =>
    right
    rw [List.findIdx?_eq_some_iff_getElem] at h
    obtain ⟨h1, h2, h3⟩ := h
    exact ⟨i, h1, rfl, find_hit h1 h2 fun k hk => by simpa using h3 k hk⟩
theorem set5 {w : World} {g : Nat} {t : TypeId} {a0 a1 a2 a3 a4 : Value} (h : Blk w g t #[a0, a1, a2, a3, a4]) (x0 x1 x2 x3 x4 : Value) :
    Blk (((((w.setCell ⟨g, 0, none⟩ x0).setCell ⟨g, 1, none⟩ x1).setCell ⟨g, 2, none⟩ x2).setCell ⟨g, 3, none⟩ x3).setCell ⟨g, 4, none⟩ x4) g t #[x0, x1, x2, x3, x4] :=
  ((((h.set_ 0 x0).set_ 1 x1).set_ 2 x2).set_ 3 x3).set_ 4 x4
theorem below5 {w0 w : World} {B g : Nat} (h : Below B w0 w) (hg : B ≤ g) (x0 x1 x2 x3 x4 : Value) :
    Below B w0 (((((w.setCell ⟨g, 0, none⟩ x0).setCell ⟨g, 1, none⟩ x1).setCell ⟨g, 2, none⟩ x2).setCell ⟨g, 3, none⟩ x3).setCell ⟨g, 4, none⟩ x4) :=
  ((((h.setCell (p := ⟨g, 0, none⟩) hg x0).setCell (p := ⟨g, 1, none⟩) hg x1).setCell (p := ⟨g, 2, none⟩) hg x2).setCell (p := ⟨g, 3, none⟩) hg x3).setCell (p := ⟨g, 4, none⟩) hg x4
set_option maxRecDepth 100000 in
set_option maxHeartbeats 2000000 in
theorem At_a (A : Option Addr) (cap : Nat) (l : List Ch) (rank call : Int) (w : World) (h : CRow w A l) (hl : l.length ≤ 1000) :
    Calls Tryd.prog 20 #[.slice A l.length cap, .int .i64 rank, .int .i64 call] w fun e w' => e = .returned (.tuple #[(atR l rank call).1.val, .bool (atR l rank call).2]) ∧ Below w.heap.size w w' := by
  have hb3 := (((Below.refl w.heap.size w).alloc (Nat.le_refl _) (.cells #[.int .i64 rank] 3)).alloc (by simp) (.cells #[.int .i64 call] 3)).alloc (by simp; omega) (.cells #[.int .i64 0, .int .i64 0, .int .i64 0, .int .i64 0, .int .i64 0] 40)
  have k1 := ((Blk.new w 3 #[.int .i64 rank]).alloc (.cells #[.int .i64 call] 3)).alloc (.cells #[.int .i64 0, .int .i64 0, .int .i64 0, .int .i64 0, .int .i64 0] 40)
  have k2 := (Blk.new (w.alloc (.cells #[.int .i64 rank] 3)) 3 #[.int .i64 call]).alloc (.cells #[.int .i64 0, .int .i64 0, .int .i64 0, .int .i64 0, .int .i64 0] 40)
  rw [show (w.alloc (.cells #[.int .i64 rank] 3)).heap.size = w.heap.size + 1 by simp] at k2
  have H := hide (h.below hb3)
  clear h
  go_enter Tryd.func20, Tryd.ntmps20
  go_wp2_with fail
  have bk := Blk.new ((w.alloc (.cells #[.int .i64 rank] 3)).alloc (.cells #[.int .i64 call] 3)) 40 #[.int .i64 0, .int .i64 0, .int .i64 0, .int .i64 0, .int .i64 0]
  rw [show ((w.alloc (.cells #[.int .i64 rank] 3)).alloc (.cells #[.int .i64 call] 3)).heap.size = w.heap.size + 1 + 1 by simp] at bk
  have hs3 : w.heap.size + 1 + 1 < (((w.alloc (.cells #[.int .i64 rank] 3)).alloc (.cells #[.int .i64 call] 3)).alloc (.cells #[.int .i64 0, .int .i64 0, .int .i64 0, .int .i64 0, .int .i64 0] 40)).heap.size := by simp
  generalize ((w.alloc (.cells #[.int .i64 rank] 3)).alloc (.cells #[.int .i64 call] 3)).alloc (.cells #[.int .i64 0, .int .i64 0, .int .i64 0, .int .i64 0, .int .i64 0] 40) = W3 at *
  refine (index_at A cap l ⟨w.heap.size, 0, none⟩ ⟨w.heap.size + 1, 0, none⟩ (atP rank call) W3 H.out hl (fun x w' _ hb => at1_a x rank call w.heap.size (w.heap.size + 1) w' ((hb.cell (p := ⟨w.heap.size, 0, none⟩) (by simp only; omega)).trans (k1.cell 0)) ((hb.cell (p := ⟨w.heap.size + 1, 0, none⟩) (by simp only; omega)).trans (k2.cell 0)))).mono ?_
  rintro e w4 ⟨rfl, hb4⟩
  have B4 := bk.below hb4 hs3
  have HB4 := hide (hb3.trans (hb4.mono hb3.size))
  have H4 := hide (H.out.below hb4)
  clear k1 k2 hb3 bk hb4
  have bfr := B4.frozen
  have f0 := bfr 0
  have f1 := bfr 1
  have f2 := bfr 2
  have f3 := bfr 3
  have f4 := bfr 4
  have d0 := B4.cell 0
  have d1 := B4.cell 1
  have d2 := B4.cell 2
  have d3 := B4.cell 3
  have d4 := B4.cell 4
  simp only [List.getElem?_toArray, List.getElem?_cons_zero, List.getElem?_cons_succ] at d0 d1 d2 d3 d4
  have HBk := hide B4
  clear B4 bfr
  rcases idx_find (atP rank call) l with ⟨hi, hf⟩ | ⟨i, hi2, hi, hf⟩
  · have E : Hid (atR l rank call = (zeroC, false)) := hide (by unfold atR; rw [hf])
    rw [hi]
    clear hf
    go_wp2_with fail
    have K5 := set5 HBk.out (.int .i64 0) (.int .i64 0) (.int .i64 0) (.int .i64 0) (.int .i64 0)
    have HB5 := hide (below5 (g := w.heap.size + 1 + 1) HB4.out (by omega) (.int .i64 0) (.int .i64 0) (.int .i64 0) (.int .i64 0) (.int .i64 0))
    generalize ((((w4.setCell ⟨w.heap.size + 1 + 1, 0, none⟩ (.int .i64 0)).setCell ⟨w.heap.size + 1 + 1, 1, none⟩ (.int .i64 0)).setCell ⟨w.heap.size + 1 + 1, 2, none⟩ (.int .i64 0)).setCell ⟨w.heap.size + 1 + 1, 3, none⟩ (.int .i64 0)).setCell ⟨w.heap.size + 1 + 1, 4, none⟩ (.int .i64 0) = W5 at *
    have r0 := K5.cell 0
    have r1 := K5.cell 1
    have r2 := K5.cell 2
    have r3 := K5.cell 3
    have r4 := K5.cell 4
    simp only [List.getElem?_toArray, List.getElem?_cons_zero, List.getElem?_cons_succ] at r0 r1 r2 r3 r4
    exact bodyPost_ret (v := .tuple #[.agg #[.int .i64 0, .int .i64 0, .int .i64 0, .int .i64 0, .int .i64 0], .bool false]) (by simp [results, Tryd.results20, go_sem, r0, r1, r2, r3, r4]) rfl ⟨by rw [E.out]; rfl, HB5.out⟩
  · have E : Hid (atR l rank call = (l[i], true)) := hide (by unfold atR; rw [hf])
    rw [hi]
    clear hf
    obtain ⟨a, rfl, ha, _, h0, h1, h2, h3, h4⟩ := H4.out.at_ hi2
    have i0 : ¬ (i : Int) < 0 := by omega
    have i1 : (i : Int) < (l.length : Int) := by omega
    generalize l[i] = tk at *
    obtain ⟨r, c, f, s, v⟩ := tk
    simp only at h0 h1 h2 h3 h4
    go_wp2_with fail
    have K5 := set5 HBk.out (.int .i64 r) (.int .i64 c) (.int .i64 f) (.int .i64 s) (.int .i64 v)
    have HB5 := hide (below5 (g := w.heap.size + 1 + 1) HB4.out (by omega) (.int .i64 r) (.int .i64 c) (.int .i64 f) (.int .i64 s) (.int .i64 v))
    generalize ((((w4.setCell ⟨w.heap.size + 1 + 1, 0, none⟩ (.int .i64 r)).setCell ⟨w.heap.size + 1 + 1, 1, none⟩ (.int .i64 c)).setCell ⟨w.heap.size + 1 + 1, 2, none⟩ (.int .i64 f)).setCell ⟨w.heap.size + 1 + 1, 3, none⟩ (.int .i64 s)).setCell ⟨w.heap.size + 1 + 1, 4, none⟩ (.int .i64 v) = W5 at *
    have r0 := K5.cell 0
    have r1 := K5.cell 1
    have r2 := K5.cell 2
    have r3 := K5.cell 3
    have r4 := K5.cell 4
    simp only [List.getElem?_toArray, List.getElem?_cons_zero, List.getElem?_cons_succ] at r0 r1 r2 r3 r4
    exact bodyPost_ret (v := .tuple #[.agg #[.int .i64 r, .int .i64 c, .int .i64 f, .int .i64 s, .int .i64 v], .bool true]) (by simp [results, Tryd.results20, go_sem, r0, r1, r2, r3, r4]) rfl ⟨by rw [E.out]; rfl, HB5.out⟩
end Go.Proofs.YtdojmjbknkbpoaaDoor
