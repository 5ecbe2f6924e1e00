/- A group in memory of its own: the program's own. -/
import Derived.Test.YtgiibknfkphkgaaDoorRows
import Derived.Test.YtgiibknfkphkgaaDoorGrpB
import Derived.Test.YtgiibknfkphkgaaDoorSetA
import Derived.Laws.IdiomCopy
import Derived.Laws.MakeOwn
namespace Go.Proofs.YtgiibknfkphkgaaDoor
open Go.RowKit
set_option linter.unusedVariables false
set_option linter.unusedSimpArgs false
namespace Grp
def ints (l : List Int) : List Value := l.map (Value.int .i64)
theorem ints_len (l : List Int) : (ints l).length = l.length := by simp [ints]
theorem ints_at {l : List Int} {j : Nat} (h : j < l.length) : (ints l)[j]? = some (.int .i64 (l.getD j 0)) := by
  rw [ints, List.getElem?_map, List.getD, List.getElem?_eq_getElem h]
  rfl
theorem ints_one (l : List Int) : ∀ v ∈ ints l, v.oneCell' = true := by
  intro v hv
  obtain ⟨z, _, rfl⟩ := List.mem_map.1 hv
  rfl
theorem int_infoG : (Tryd.prog.info? 3).map (fun i => (i.zero, i.size, i.bytes)) = some (some (.int .i64 0), 1, 8) := by kernel_rfl
set_option maxRecDepth 100000 in
set_option maxHeartbeats 4000000 in
theorem own_a (key : ByteArray) (A : Option Addr) (cap : Nat) (l : List Int) (w : World) (h : NRow w A l) (h0 : 0 < l.length) (hl : l.length ≤ 1000) :
    Calls Tryd.prog 25 #[.agg #[.string key, .slice A l.length cap]] w fun e w' => ∃ g, e = .returned (.agg #[.string key, .slice (some ⟨g, 0, none⟩) l.length l.length]) ∧ w.heap.size ≤ g ∧ Blk w' g 3 (ints l).toArray ∧ Below w.heap.size w w' := by
  obtain ⟨i0, hi0, hz0, hz1, hz2⟩ := info_parts int_infoG
  -- the blocks: the group, the result, the row
  have b1 := Blk.new w 24 #[.string key, .slice A l.length cap]
  have hb1 := (Below.refl w.heap.size w).alloc (Nat.le_refl _) (.cells #[.string key, .slice A l.length cap] 24)
  have hs1 : (w.alloc (.cells #[.string key, .slice A l.length cap] 24)).heap.size = w.heap.size + 1 := by simp
  obtain ⟨W1, hW1⟩ : ∃ W1, w.alloc (.cells #[.string key, .slice A l.length cap] 24) = W1 := ⟨_, rfl⟩
  rw [hW1] at b1 hb1 hs1
  have b2 := b1.alloc (.cells #[.string ⟨#[]⟩, .slice none 0 0] 24)
  have r2 := Blk.new W1 24 #[.string ⟨#[]⟩, .slice none 0 0]
  have hb2 := hb1.alloc (by omega) (.cells #[.string ⟨#[]⟩, .slice none 0 0] 24)
  have hs2 : (W1.alloc (.cells #[.string ⟨#[]⟩, .slice none 0 0] 24)).heap.size = w.heap.size + 1 + 1 := by rw [← hs1]; simp
  obtain ⟨W2, hW2⟩ : ∃ W2, W1.alloc (.cells #[.string ⟨#[]⟩, .slice none 0 0] 24) = W2 := ⟨_, rfl⟩
  rw [hW2] at b2 r2 hb2 hs2
  rw [hs1] at r2
  have MK := run_make_rowN (P := Tryd.prog) 22 3 i0 (.int .i64 0) Tryd.underlying22 hi0 hz0 .i64 .i64 l.length l.length (Nat.le_refl _) (by rw [hz2]; omega) (by omega) W2
  rw [hz1, hs2] at MK
  have b3 := b2.alloc (.cells (madeCells (Value.int .i64 0).cells (l.length * 1)) 3)
  have r3 := r2.alloc (.cells (madeCells (Value.int .i64 0).cells (l.length * 1)) 3)
  have n3 := Blk.new W2 3 (madeCells (Value.int .i64 0).cells (l.length * 1))
  have hb3 := hb2.alloc (by omega) (.cells (madeCells (Value.int .i64 0).cells (l.length * 1)) 3)
  have hs3 : (W2.alloc (.cells (madeCells (Value.int .i64 0).cells (l.length * 1)) 3)).heap.size = w.heap.size + 1 + 1 + 1 := by rw [← hs2]; simp
  have hsz : (madeCells (Value.int .i64 0).cells (l.length * 1)).size = l.length := by rw [size_madeCells]; omega
  generalize madeCells (Value.int .i64 0).cells (l.length * 1) = mc at *
  obtain ⟨W3, hW3⟩ : ∃ W3, W2.alloc (.cells mc 3) = W3 := ⟨_, rfl⟩
  rw [hW3] at b3 r3 n3 hb3 hs3 MK
  rw [hs2] at n3
  obtain ⟨a, rfl, ha, hc⟩ := h.below hb3 h0
  have CP : (Builtin.copy_ #[22, 22] 3 #[.slice (some ⟨w.heap.size + 1 + 1, 0, none⟩) l.length l.length, .slice (some a) l.length cap]).run Tryd.prog W3 = .ok (goInt (ints l).length) (W3.setCells (w.heap.size + 1 + 1) 0 (ints l)) :=
    run_copy_cells W3 22 22 3 3 (w.heap.size + 1 + 1) 0 l.length l.length a l.length cap (ints l) Tryd.underlying22 (by rw [hi0]; simp [hz1]) (by rw [ints_len]; exact (Nat.min_self _).symm)
      (fun j v hv => by
        have hj : j < l.length := by have := (List.getElem?_eq_some_iff.1 hv).1; rwa [ints_len] at this
        rw [ints_at hj] at hv
        rw [hc j hj]
        exact hv)
      (fun j hj => by rw [ints_len] at hj; rw [Nat.zero_add, n3.cell]; simp [hsz, hj])
      (fun j hj => by rw [Nat.zero_add]; exact n3.frozen j) (ints_one l)
  rw [ints_len] at CP
  have b4 := setCells_far (by omega : w.heap.size ≠ w.heap.size + 1 + 1) (ints l) 0 b3
  have r4 := setCells_far (by omega : w.heap.size + 1 ≠ w.heap.size + 1 + 1) (ints l) 0 r3
  have n4 := setAll_blk (ints l) 0 n3
  rw [setAll_whole (ints l) mc (by rw [ints_len]; exact hsz.symm)] at n4
  have hb4 := below_setCells (by omega : w.heap.size ≤ w.heap.size + 1 + 1) (ints l) 0 hb3
  generalize W3.setCells (w.heap.size + 1 + 1) 0 (ints l) = W4 at *
  have q1 : W1.cell? ⟨w.heap.size, 1, none⟩ = some (.slice (some a) l.length cap) := by
    have := hW1 ▸ (Blk.new w 24 #[.string key, .slice (some a) l.length cap]).cell 1
    exact this
  have q2 : W2.cell? ⟨w.heap.size, 1, none⟩ = some (.slice (some a) l.length cap) := b2.cell 1
  have q3 : W3.cell? ⟨w.heap.size, 1, none⟩ = some (.slice (some a) l.length cap) := b3.cell 1
  have q4 : W4.cell? ⟨w.heap.size, 0, none⟩ = some (.string key) := b4.cell 0
  have q5 : W4.cell? ⟨w.heap.size, 1, none⟩ = some (.slice (some a) l.length cap) := b4.cell 1
  have fr1 := b4.frozen 1
  have b5 := b4.set_ 1 (.slice (some ⟨w.heap.size + 1 + 1, 0, none⟩) l.length l.length)
  have r5 := r4.far (p := ⟨w.heap.size, 1, none⟩) (by show w.heap.size + 1 ≠ w.heap.size; omega) (.slice (some ⟨w.heap.size + 1 + 1, 0, none⟩) l.length l.length)
  have n5 := n4.far (p := ⟨w.heap.size, 1, none⟩) (by show w.heap.size + 1 + 1 ≠ w.heap.size; omega) (.slice (some ⟨w.heap.size + 1 + 1, 0, none⟩) l.length l.length)
  have hb5 := hb4.setCell (p := ⟨w.heap.size, 1, none⟩) (Nat.le_refl _) (.slice (some ⟨w.heap.size + 1 + 1, 0, none⟩) l.length l.length)
  obtain ⟨W5, hW5⟩ : ∃ W5, W4.setCell ⟨w.heap.size, 1, none⟩ (.slice (some ⟨w.heap.size + 1 + 1, 0, none⟩) l.length l.length) = W5 := ⟨_, rfl⟩
  rw [hW5] at b5 r5 n5 hb5
  have s0 : W5.cell? ⟨w.heap.size, 0, none⟩ = some (.string key) := b5.cell 0
  have s1 : W5.cell? ⟨w.heap.size, 1, none⟩ = some (.slice (some ⟨w.heap.size + 1 + 1, 0, none⟩) l.length l.length) := b5.cell 1
  have t0 : W5.cell? ⟨w.heap.size + 1, 0, none⟩ = some (.string ⟨#[]⟩) := r5.cell 0
  have t1 : W5.cell? ⟨w.heap.size + 1, 1, none⟩ = some (.slice none 0 0) := r5.cell 1
  have f0 := r5.frozen 0
  have f1 := r5.frozen 1
  have HB5 := hide hb5
  have R5 := hide r5
  have N5 := hide n5
  clear b1 b2 b3 b4 b5 r2 r3 r4 r5 n3 n4 n5 hb1 hb2 hb3 hb4 hb5 h hc hi0 hz0 hz1 hz2 hsz
  go_enter Tryd.func25, Tryd.ntmps25
  go_wp2_with fail
  have K6 : Blk ((W5.setCell ⟨w.heap.size + 1, 0, none⟩ (.string key)).setCell ⟨w.heap.size + 1, 1, none⟩ (.slice (some ⟨w.heap.size + 1 + 1, 0, none⟩) l.length l.length)) (w.heap.size + 1) 24 #[.string key, .slice (some ⟨w.heap.size + 1 + 1, 0, none⟩) l.length l.length] := (R5.out.set_ 0 (.string key)).set_ 1 (.slice (some ⟨w.heap.size + 1 + 1, 0, none⟩) l.length l.length)
  have N6 := (N5.out.far (p := ⟨w.heap.size + 1, 0, none⟩) (by show w.heap.size + 1 + 1 ≠ w.heap.size + 1; omega) (.string key)).far (p := ⟨w.heap.size + 1, 1, none⟩) (by show w.heap.size + 1 + 1 ≠ w.heap.size + 1; omega) (.slice (some ⟨w.heap.size + 1 + 1, 0, none⟩) l.length l.length)
  have HB6 := (HB5.out.setCell (p := ⟨w.heap.size + 1, 0, none⟩) (by show w.heap.size ≤ w.heap.size + 1; omega) (.string key)).setCell (p := ⟨w.heap.size + 1, 1, none⟩) (by show w.heap.size ≤ w.heap.size + 1; omega) (.slice (some ⟨w.heap.size + 1 + 1, 0, none⟩) l.length l.length)
  generalize ((W5.setCell ⟨w.heap.size + 1, 0, none⟩ (.string key)).setCell ⟨w.heap.size + 1, 1, none⟩ (.slice (some ⟨w.heap.size + 1 + 1, 0, none⟩) l.length l.length)) = W6 at *
  have u0 : W6.cell? ⟨w.heap.size + 1, 0, none⟩ = some (.string key) := K6.cell 0
  have u1 : W6.cell? ⟨w.heap.size + 1, 1, none⟩ = some (.slice (some ⟨w.heap.size + 1 + 1, 0, none⟩) l.length l.length) := K6.cell 1
  exact bodyPost_ret (v := .agg #[.string key, .slice (some ⟨w.heap.size + 1 + 1, 0, none⟩) l.length l.length]) (by simp [results, Tryd.results25, go_sem, u0, u1]) rfl ⟨_, rfl, by omega, N6, HB6⟩
end Grp
end Go.Proofs.YtgiibknfkphkgaaDoor
